import Derived.Test.YtokhpchnnilbaaaN24
namespace Go.Proofs.Ytokhpchnnilbaaa
open Go.RowKit
set_option maxRecDepth 4000
theorem oi_lo9d {w : World} {l lo hi : Nat} {v : Value} {xs : List Int} (h : OI w lo hi v xs) (hl : l ≤ lo) : OI w l hi v xs := by
  obtain ⟨et, h1, h2⟩ := h
  exact ⟨et, own_low9 h1 hl, h2⟩
theorem fc_len (s : ByteArray) (k : Nat) : ((fcL s k).headD []).length ≤ k := by
  cases e : fcL s k with
  | nil => simp
  | cons l t =>
    have hm : l ∈ fcL s k := by rw [e]; simp
    have := cl_row s.size k 1 l (List.mem_filter.1 hm).1
    simp [this]
theorem nE_odd (s : ByteArray) (he : evB s = false) (j : Nat) : nE s j = false := by
  cases h : nE s j
  · rfl
  · have h1 := nE_pos h
    have h2 := fair_even s j (fun e => by rw [e] at h1; simp at h1)
    rw [he] at h2; cases h2
/-- What FirstSplit answers on either side. -/
def FsV (w : World) (ls : List Int) (ok : Bool) (e : Ending) (w' : World) : Prop := ∃ v, e = .returned (.tuple #[v, .bool ok]) ∧ OI w' w.heap.size w'.heap.size v ls ∧ Below w.heap.size w w'
set_option maxHeartbeats 800000 in
theorem specFS_no (s : ByteArray) (h : goodS s = false ∨ evB s = false) (w : World) : Calls Try.prog 35 #[.string s] w (FsV w [] false) := by
  have HG := Lib.hid (nlGood_any s w)
  cases hg : goodS s
  · rw [hg] at HG
    clear hg h
    go_enter Try.func35, Try.ntmps35
    go_wp2_with fail
    refine HG.out.mono ?_
    rintro e w' ⟨rfl, rfl⟩
    go_wp2_with fail
    go_returns
    exact ⟨_, rfl, oi_nil _ _ _, Below.refl _ _⟩
  · have HE := Lib.hid (fun w => nlEven_any s hg w)
    rw [h.resolve_left (by rw [hg]; simp)] at HE
    rw [hg] at HG
    clear hg h
    go_enter Try.func35, Try.ntmps35
    go_wp2_with fail
    refine HG.out.mono ?_
    rintro e w' ⟨rfl, rfl⟩
    go_wp2_with fail
    refine (HE.out _).mono ?_
    rintro e w1 ⟨rfl, hb⟩
    go_wp2_with fail
    go_returns
    exact ⟨_, rfl, oi_nil _ _ _, hb⟩
set_option maxHeartbeats 800000 in
theorem specFS_yes (s : ByteArray) (hg : goodS s = true) (he : evB s = true) (K : Nat) (hK : K < 5) (h1 : nE s K = true) (hb : ∀ j, j < K → nE s j = false) (w : World) : Calls Try.prog 35 #[.string s] w (FsV w ((fcL s K).headD []) true) := by
  have HG := Lib.hid (nlGood_any s w)
  have HE := Lib.hid (fun w => nlEven_any s hg w)
  have HF := Lib.hid (fun w => nlFirst_any s hg K hK h1 hb w)
  rw [hg] at HG
  rw [he] at HE
  clear hg he h1 hb
  go_enter Try.func35, Try.ntmps35
  go_wp2_with fail
  refine HG.out.mono ?_
  rintro e w' ⟨rfl, rfl⟩
  go_wp2_with fail
  refine (HE.out _).mono ?_
  rintro e w1 ⟨rfl, hb⟩
  have hz := hb.size
  go_wp2_with fail
  refine (HF.out _).mono ?_
  rintro e w2 ⟨v, rfl, ho, hb2⟩
  have HO := Lib.hid (oi_lo9d ho hz)
  clear ho
  go_wp2_with fail
  go_returns
  exact ⟨_, rfl, HO.out, bnext hb hb2⟩
set_option maxHeartbeats 800000 in
theorem implFS_bad (s : ByteArray) (hg : goodS s = false) (w : World) : Calls Try.prog 36 #[.string s] w (FsV w [] false) := by
  have HG := Lib.hid (neckOf_any s w)
  rw [hg, gT_no hg] at HG
  clear hg
  go_enter Try.func36, Try.ntmps36
  go_wp2_with fail
  refine HG.out.mono ?_
  rintro e w' ⟨rfl, rfl⟩
  go_wp2_with fail
  go_returns
  exact ⟨_, rfl, oi_nil _ _ _, Below.refl _ _⟩
set_option maxHeartbeats 800000 in
theorem implFS_no (s : ByteArray) (hg : goodS s = true) (he : evB s = false) (w : World) : Calls Try.prog 36 #[.string s] w (FsV w [] false) := by
  have HG := Lib.hid (neckOf_any s w)
  have HF := Lib.hid (fun w => firstSplit_no s hg (fun j _ => nE_odd s he j) w)
  rw [hg, gT_yes hg] at HG
  clear hg he
  go_enter Try.func36, Try.ntmps36
  go_wp2_with fail
  refine HG.out.mono ?_
  rintro e w' ⟨rfl, rfl⟩
  go_wp2_with fail
  refine (HF.out _).mono ?_
  rintro e w1 ⟨rfl, hb⟩
  go_wp2_with fail
  go_returns
  exact ⟨_, rfl, oi_nil _ _ _, hb⟩
set_option maxHeartbeats 800000 in
theorem implFS_yes (s : ByteArray) (hg : goodS s = true) (K : Nat) (hK : K < 5) (h1 : nE s K = true) (hb : ∀ j, j < K → nE s j = false) (w : World) : Calls Try.prog 36 #[.string s] w (FsV w ((fcL s K).headD []) true) := by
  have HG := Lib.hid (neckOf_any s w)
  have HF := Lib.hid (fun w => firstSplit_yes s hg K hK h1 hb w)
  rw [hg, gT_yes hg] at HG
  clear hg h1 hb
  go_enter Try.func36, Try.ntmps36
  go_wp2_with fail
  refine HG.out.mono ?_
  rintro e w' ⟨rfl, rfl⟩
  go_wp2_with fail
  refine (HF.out _).mono ?_
  rintro e w1 ⟨v, rfl, ho, hb⟩
  have HO := Lib.hid ho
  clear ho
  go_wp2_with fail
  go_returns
  exact ⟨_, rfl, HO.out, hb⟩
end Go.Proofs.Ytokhpchnnilbaaa
