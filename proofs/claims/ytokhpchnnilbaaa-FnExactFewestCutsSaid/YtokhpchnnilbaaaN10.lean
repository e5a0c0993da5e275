import Derived.Test.YtokhpchnnilbaaaN9
namespace Go.Proofs.Ytokhpchnnilbaaa
open Go.RowKit
set_option maxRecDepth 4000
open Go.Maps
theorem grown_below {w w' : World} (h : Below w.heap.size w w') (row : Option Nat) : w.grownBy w' row := ⟨h.os, h.tape, h.output, h.size, fun i hi _ => h.block i hi⟩
theorem oi_list {w : World} {lo hi : Nat} {v : Value} {xs : List Int} (h : OI w lo hi v xs) : ∃ a cap b, v = .slice a xs.length cap ∧ xs.length ≤ maxLen ∧ ∀ j, j < xs.length → a = some ⟨b, 0, none⟩ ∧ w.cell? ⟨b, j, none⟩ = some (.int .i64 (xs.getD j 0)) ∧ lo ≤ b ∧ b < hi := by
  obtain ⟨et, ho, hh⟩ := h
  obtain ⟨-, a, cap, b, rfl, hx, hr⟩ := own_shape ho
  refine ⟨a, cap, b, rfl, hr.1, fun j hj => ?_⟩
  obtain ⟨e1, -⟩ := hr.2 0 (by omega)
  obtain ⟨-, e2⟩ := hr.2 j hj
  subst e1
  rw [Nat.zero_add] at e2
  exact ⟨rfl, e2, (ho.lt b rfl).1, hh b rfl⟩
theorem sgL_at (cuts : List Int) (n j : Nat) (hj : j < n) : (sgL cuts n).getD j 0 = sg cuts (j + 1) := gF_at _ _ _ hj
set_option maxHeartbeats 3200000 in
theorem shares_any (s : ByteArray) (hg : goodS s = true) (cuts : List Int) (a : Option Addr) (cap : Nat) (w : World) (h : RdS w w.heap.size a cuts) :
    Calls Try.prog 52 #[.string s, .slice a cuts.length cap] w fun e w' => e = .returned (.map (some w.heap.size)) ∧ IsB w' w.heap.size 16 (fun j => (shC s cuts s.size j : Int)) ∧ Below w.heap.size w w' := by
  obtain ⟨h16, hb⟩ := goodS_at hg
  have HB := Lib.hid hb
  have HGET := Lib.hid (byt_get s)
  have HLE : Hid (∀ i k, shC s cuts i k ≤ i) := Lib.hid (fun i k => Nat.le_trans (sh_le s cuts i k) (cnt_le s i k))
  have HU := Lib.hid (sh_upd s cuts)
  have HST := Lib.hid (sh_stay s cuts)
  have HSB := Lib.hid (sg_bd cuts)
  have hbA : Below w.heap.size w (w.alloc (.map #[] 0)) := balloc (Below.refl _ _) _
  have hszA : (w.alloc (.map #[] 0)).heap.size = w.heap.size + 1 := by simp
  have HSG := Lib.hid (signs_any s h16 cuts a cap (w.alloc (.map #[] 0)) (rds_mono (rds_later h hbA) (by omega)))
  have HIB := Lib.hid (isB_made w)
  have HLN := Lib.hid (sgL_len cuts s.size)
  have HSA := Lib.hid (sgL_at cuts s.size)
  have hmm := @run_makeMap Try.prog
  clear hg hb h
  go_enter Try.func52, Try.ntmps52
  go_wp2_with fail
  refine HSG.out.mono ?_
  rintro e w1 ⟨v, rfl, ho, hb1⟩
  have hib := HIB.out.kept (grown_below hb1 none) (by simp)
  have hbw := bnext hbA hb1
  have hz1 := hb1.size
  obtain ⟨a2, cap2, b2, rfl, -, hc⟩ := oi_list ho
  rw [HLN.out] at hc ⊢
  have HC : Hid (∀ j, j < s.size → a2 = some ⟨b2, 0, none⟩ ∧ w1.cell? ⟨b2, j, none⟩ = some (.int .i64 (sg cuts (j + 1))) ∧ (w.alloc (.map #[] 0)).heap.size ≤ b2 ∧ b2 < w1.heap.size) := Lib.hid (fun j hj => by
    have := hc j hj
    rw [HSA.out j hj] at this
    exact this)
  rw [hszA] at HC
  clear hc ho hb1
  go_wp2_with fail
  go_loopw [13] (fun v13 wr => ∃ i : Nat, i ≤ s.size ∧ v13 = .int .i64 i ∧ IsB wr w.heap.size i (fun j => (shC s cuts i j : Int)) ∧ w1.grownBy wr (some w.heap.size) ∧ Below w.heap.size w wr) (fun v13 _ => s.size - (intOf v13).toNat)
  case atStart => exact ⟨0, Nat.zero_le _, rfl, hib, World.grownBy.refl _ _, hbw⟩
  case round =>
    clear hib hbw
    obtain ⟨i, hi, rfl, ho, hgr, hb⟩ := hrel
    obtain ⟨wq, hwq⟩ : ∃ wq : World, wq = wr := ⟨_, rfl⟩
    subst hwq
    by_cases hlt : i < s.size
    · obtain ⟨b0, b1⟩ := HB.out i hlt
      obtain ⟨rfl, c1, hlo, hhi⟩ := HC.out i hlt
      replace c1 := hgr.cell c1 (by simp; omega)
      have hgt := HGET.out i hlt
      have hsb := HSB.out (i + 1)
      have hii : (i : Int) < (s.size : Int) := by omega
      by_cases hone : sg cuts (i + 1) = 1
      · obtain ⟨k, hk⟩ : ∃ k, k = kd s i := ⟨_, rfl⟩
        have hk4 : k < 4 := by rw [hk]; unfold kd; omega
        have hkb : byt s i = k + 97 := by rw [hk]; unfold kd; omega
        have hle := HLE.out i k
        rw [hkb] at hgt
        have HAdd := Lib.hid (add_any w.heap.size i _ k hk4 1 ⟨by omega, by omega⟩ (by omega) (by omega) wq ho)
        have HUi := Lib.hid (HU.out i k hk.symm hone)
        rw [hone] at c1
        clear ho hk hkb hone hsb
        go_wp2_with fail
        refine HAdd.out.mono ?_
        rintro e w2 ⟨rfl, hb2, hg2⟩
        go_wp2_with fail
        go_roundw
        case rel => exact ⟨i + 1, by omega, by go_num, hb2.congr (fun j _ => HUi.out j), hgr.trans hg2, hb.grown hg2 hb.size (fun k hk => by cases hk; exact Nat.le_refl _)⟩
        case measure => simp [intOf]; omega
      · have hm : sg cuts (i + 1) = -1 := by omega
        have HSi := Lib.hid (HST.out i hm)
        rw [hm] at c1
        clear hone hm hsb
        go_wp2_with fail
        go_roundw
        case rel => exact ⟨i + 1, by omega, by go_num, (ho.mono (by omega)).congr (fun j _ => by rw [HSi.out]), hgr, hb⟩
        case measure => simp [intOf]; omega
    · have hi3 : i = s.size := by omega
      have hii : ¬ (i : Int) < (s.size : Int) := by omega
      go_wp2_with fail
      go_ret
      exact ⟨rfl, by rw [← hi3]; exact ho.mono (by omega), hb⟩
set_option maxHeartbeats 3200000 in
theorem isFair_any (s : ByteArray) (hg : goodS s = true) (cuts : List Int) (a : Option Addr) (cap : Nat) (w : World) (h : RdS w w.heap.size a cuts) :
    Calls Try.prog 54 #[.string s, .slice a cuts.length cap] w fun e w' => e = .returned (.bool (fairB s cuts)) ∧ Below w.heap.size w w' := by
  obtain ⟨h16, hb⟩ := goodS_at hg
  have HB := Lib.hid hb
  have HGET := Lib.hid (byt_get s)
  have HLE := Lib.hid (lf_bd s cuts)
  have HU := Lib.hid (lf_upd s cuts)
  have HSB := Lib.hid (sg_bd cuts)
  have HF := Lib.hid (fair_nz s cuts)
  have hbA : Below w.heap.size w (w.alloc (.map #[] 0)) := balloc (Below.refl _ _) _
  have hszA : (w.alloc (.map #[] 0)).heap.size = w.heap.size + 1 := by simp
  have HSG := Lib.hid (signs_any s h16 cuts a cap (w.alloc (.map #[] 0)) (rds_mono (rds_later h hbA) (by omega)))
  have HIB := Lib.hid (isB_made w)
  have HLN := Lib.hid (sgL_len cuts s.size)
  have HSA := Lib.hid (sgL_at cuts s.size)
  have hmm := @run_makeMap Try.prog
  clear hg hb h
  go_enter Try.func54, Try.ntmps54
  go_wp2_with fail
  refine HSG.out.mono ?_
  rintro e w1 ⟨v, rfl, ho, hb1⟩
  have hib := HIB.out.kept (grown_below hb1 none) (by simp)
  have hbw := bnext hbA hb1
  have hz1 := hb1.size
  obtain ⟨a2, cap2, b2, rfl, -, hc⟩ := oi_list ho
  rw [HLN.out] at hc ⊢
  have HC : Hid (∀ j, j < s.size → a2 = some ⟨b2, 0, none⟩ ∧ w1.cell? ⟨b2, j, none⟩ = some (.int .i64 (sg cuts (j + 1))) ∧ (w.alloc (.map #[] 0)).heap.size ≤ b2 ∧ b2 < w1.heap.size) := Lib.hid (fun j hj => by
    have := hc j hj
    rw [HSA.out j hj] at this
    exact this)
  rw [hszA] at HC
  clear hc ho hb1
  go_wp2_with fail
  go_loopw [13] (fun v13 wr => ∃ i : Nat, i ≤ s.size ∧ v13 = .int .i64 i ∧ IsB wr w.heap.size i (lfC s cuts i) ∧ w1.grownBy wr (some w.heap.size) ∧ Below w.heap.size w wr) (fun v13 _ => s.size - (intOf v13).toNat)
  case atStart => exact ⟨0, Nat.zero_le _, rfl, hib, World.grownBy.refl _ _, hbw⟩
  case round =>
    clear hib hbw
    obtain ⟨i, hi, rfl, ho, hgr, hb⟩ := hrel
    obtain ⟨wq, hwq⟩ : ∃ wq : World, wq = wr := ⟨_, rfl⟩
    subst hwq
    by_cases hlt : i < s.size
    · obtain ⟨b0, b1⟩ := HB.out i hlt
      obtain ⟨rfl, c1, hlo, hhi⟩ := HC.out i hlt
      replace c1 := hgr.cell c1 (by simp; omega)
      have hgt := HGET.out i hlt
      have hsb := HSB.out (i + 1)
      have hii : (i : Int) < (s.size : Int) := by omega
      obtain ⟨k, hk⟩ : ∃ k, k = kd s i := ⟨_, rfl⟩
      have hk4 : k < 4 := by rw [hk]; unfold kd; omega
      have hkb : byt s i = k + 97 := by rw [hk]; unfold kd; omega
      have hle := HLE.out i k
      rw [hkb] at hgt
      have HAdd := Lib.hid (add_any w.heap.size i _ k hk4 (sg cuts (i + 1)) ⟨by omega, by omega⟩ (by omega) (by omega) wq ho)
      have HUi := Lib.hid (HU.out i k hk.symm)
      clear ho hk hkb hsb hle
      go_wp2_with fail
      refine HAdd.out.mono ?_
      rintro e w2 ⟨rfl, hb2, hg2⟩
      go_wp2_with fail
      go_roundw
      case rel => exact ⟨i + 1, by omega, by go_num, hb2.congr (fun j _ => HUi.out j), hgr.trans hg2, hb.grown hg2 hb.size (fun k hk => by cases hk; exact Nat.le_refl _)⟩
      case measure => simp [intOf]; omega
    · have hi3 : i = s.size := by omega
      have hii : ¬ (i : Int) < (s.size : Int) := by omega
      obtain ⟨D, hown, hD⟩ := ho
      have HD : Hid (Maps.size D = nz (lfC s cuts s.size)) := Lib.hid (by rw [← hi3]; exact hD.2.2.2)
      clear hD
      go_wp2_with (first
        | (at_len; refine wpList_len_own _ rfl _ 44 rfl 5 3 Try.underlying44 _ _ _ _ rfl hown ?_)
        | fail)
      go_ret
      exact ⟨ret_bool (by rw [← HF.out, ← HD.out, Bool.eq_iff_iff]; simp), hb⟩
end Go.Proofs.Ytokhpchnnilbaaa
