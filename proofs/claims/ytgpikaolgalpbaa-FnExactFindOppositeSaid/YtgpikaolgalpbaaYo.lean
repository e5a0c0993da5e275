import Derived.Test.YtgpikaolgalpbaaYk
namespace Go.Proofs.Ytgpikaolgalpbaa
open Go.RowKit
set_option maxRecDepth 4000
/-- The first k numbers of g, and noughts behind them. -/
def zf (g : Nat → Int) (s k : Nat) : List Int := (List.range s).map fun i => if i < k then g i else 0
theorem zf_len (g : Nat → Int) (s k : Nat) : (zf g s k).length = s := by simp [zf]
theorem zf_at (g : Nat → Int) (s k i : Nat) : (zf g s k)[i]? = if i < s then some (if i < k then g i else 0) else none := by
  simp only [zf, List.getElem?_map]
  by_cases h : i < s
  · rw [List.getElem?_range h, if_pos h]; rfl
  · rw [List.getElem?_eq_none (by simpa using h), if_neg h]; rfl
theorem zf_zero (g : Nat → Int) (s : Nat) : zf g s 0 = List.replicate s 0 := by
  apply List.ext_getElem?
  intro i
  rw [zf_at, List.getElem?_replicate]
  simp
theorem zf_all (g : Nat → Int) (s : Nat) : zf g s s = (List.range s).map g := by
  apply List.ext_getElem?
  intro i
  rw [zf_at, List.getElem?_map]
  by_cases h : i < s
  · rw [if_pos h, if_pos h, List.getElem?_range h]; rfl
  · rw [if_neg h, List.getElem?_eq_none (by simpa using h)]; rfl
theorem zf_set (g : Nat → Int) (s k : Nat) (hk : k < s) : (zf g s k).set k (g k) = zf g s (k + 1) := by
  apply List.ext_getElem?
  intro i
  rw [List.getElem?_set, zf_at, zf_at, zf_len]
  by_cases h1 : k = i
  · subst h1
    rw [if_pos rfl, if_pos hk, if_pos hk, if_pos (by omega)]
  · rw [if_neg h1]
    by_cases h2 : i < s
    · rw [if_pos h2, if_pos h2]
      by_cases h3 : i < k
      · rw [if_pos h3, if_pos (by omega)]
      · rw [if_neg h3, if_neg (by omega)]
    · rw [if_neg h2, if_neg h2]
set_option maxHeartbeats 1600000 in
theorem listNeg_any (n : Nat) (v : Value) (g : Nat → Int) (h1 : 1 ≤ n) (h2 : n ≤ 4) (w : World) (hm : ∀ w : World, (method 231 76 v "loop.example/g01160/impl.labelAt").run Try.prog w = .ok (125, v) w)
    (hg : ∀ W, Below w.heap.size w W → ∀ k : Nat, k < sqn n → Calls Try.prog 125 #[v, .int .i64 k] W fun e w' => e = .returned (.int .i64 (g k)) ∧ Below W.heap.size W w') :
    Calls Try.prog 68 #[.agg #[.int .i64 n], .iface 76 v] w fun e w' => ∃ u, e = .returned u ∧ w'.ownsRow w.heap.size 3 1 u (sqn n) (((List.range (sqn n)).map g).map (Value.int .i64)) ∧ Below w.heap.size w w' := by
  obtain ⟨i0, hi, hz0, hz1, hz2⟩ := info_parts intInfo
  have hsl := sqn_le n h2
  have HC : ∀ w : World, Calls Try.prog 49 #[.agg #[.int .i64 n]] w fun e w' => e = .returned (.int .i64 (sqn n : Nat)) ∧ Below w.heap.size w w' := fun w => by rw [← sqn_eq]; exact sqSize_any n (by omega) (by omega) w
  generalize sqn n = s at hsl HC hg ⊢
  have HC := Lib.hid HC
  have HG := Lib.hid hg
  have HZL2 := Lib.hid (zf_len g s)
  have HA := Lib.hid (zf_all g s)
  have hB0 := balloc (Below.refl w.heap.size w) (.cells #[.int .i64 n] 51)
  clear hg
  go_enter Try.func68, Try.ntmps68
  go_wp2_with fail
  refine (HC.out _).mono ?_
  rintro e w1 ⟨rfl, hb1⟩
  have hB1 := bnext hB0 hb1
  have hm1 : w1.cell? ⟨w.heap.size, 0, none⟩ = some (.int .i64 n) := (hb1.cell (by simp)).trans (by go_cell)
  have hz1' : w.heap.size < w1.heap.size := by have := hb1.size; simp at this; omega
  clear hB0 hb1
  go_wp2_with (at_make; refine wpList_make_full _ rfl _ _ 25 rfl w1.heap.size 3 i0 (.int .i64 0) 1 Try.underlying25 hi hz0 hz1 _ _ _ _ s rfl rfl ?hC ?hL ?hb2 ?hb3 ?hb4 ?_)
  case hC => rfl
  case hL => rfl
  case hb2 => rw [hz2]; omega
  case hb3 => unfold maxLen; omega
  case hb4 => exact Nat.le_refl _
  intro w2 ho2 hg2
  have hp2 : w2.ownsRow w1.heap.size 3 1 (.slice (some ⟨w1.heap.size, 0, none⟩) s s) s ((zf g s 0).map (Value.int .i64)) := by
    rw [zf_zero, List.map_replicate]
    first | exact made_ints s ▸ ho2 | exact made_ints' s ▸ ho2
  have hB2 : Below w1.heap.size w1 w2 := (Below.refl _ _).grown hg2 (Nat.le_refl _) (fun k hk => by cases hk)
  have hm2 := (hB2.cell (p := ⟨w.heap.size, 0, none⟩) hz1').trans hm1
  clear ho2 hg2 hm1
  go_wp2_with fail
  refine (HC.out _).mono ?_
  rintro e w3 ⟨rfl, hb3⟩
  have hp3 := own_now hp2 hb3
  have hB3 := hB2.trans (hb3.mono hB2.size)
  clear hp2 hB2 hb3 hm2
  go_wp2_with fail
  go_loopw [12] (fun v12 wr => ∃ k : Nat, k ≤ s ∧ v12 = .int .i64 k ∧ wr.ownsRow w1.heap.size 3 1 (.slice (some ⟨w1.heap.size, 0, none⟩) s s) s ((zf g s k).map (Value.int .i64)) ∧ Below w1.heap.size w1 wr) (fun v12 _ => s - (intOf v12).toNat)
  case atStart => exact ⟨0, Nat.zero_le _, rfl, hp3, hB3⟩
  case round =>
    clear hp3 hB3
    obtain ⟨k, hk, rfl, hp, hb⟩ := hrel
    by_cases hlt : k < s
    · have HW := Lib.hid (hB1.trans (hb.mono (by omega)))
      have hki : (k : Int) < (s : Int) := by omega
      have HS := Lib.hid (zf_set g s k hlt)
      have HGK := Lib.hid (fun W hB => HG.out W hB k hlt)
      generalize g k = x at HS HGK
      obtain ⟨wi, hwi⟩ : ∃ wi : World, wi = wr := ⟨_, rfl⟩
      subst hwi
      go_wp2_with fail
      refine (HGK.out _ HW.out).mono ?_
      rintro e w4 ⟨rfl, hb4⟩
      have hp4 := own_now hp hb4
      have hB4 := hb.trans (hb4.mono hb.size)
      obtain ⟨o, hold⟩ : ∃ o, w4.cell? ⟨w1.heap.size, k, none⟩ = some o := by
        have e := hp4.cellAt k (by omega)
        have hl : k < ((zf g s k).map (Value.int .i64)).length := by rw [List.length_map, HZL2.out k]; exact hlt
        rw [List.getElem?_eq_getElem hl] at e
        exact ⟨_, e⟩
      have hfr := hp4.frozenAt k
      have hst : (w4.setCell ⟨w1.heap.size, k, none⟩ (.int .i64 x)).ownsRow w1.heap.size 3 1 (.slice (some ⟨w1.heap.size, 0, none⟩) s s) s ((zf g s (k + 1)).map (Value.int .i64)) := by
        have e := (hp4.stored k (.int .i64 x)).1
        rw [← HS.out, List.map_set]
        exact e
      have hBs := hB4.setCell (p := ⟨w1.heap.size, k, none⟩) (Nat.le_refl _) (.int .i64 x)
      clear hp hb hb4 hp4 hB4
      go_wp2_with fail
      go_roundw
      case rel => exact ⟨k + 1, by omega, by go_num, hst, hBs⟩
      case measure => simp [intOf]; omega
    · have hk2 : k = s := by omega
      rw [hk2, HA.out] at hp
      clear hk2
      go_wp2_with fail
      go_ret
      exact ⟨_, rfl, own_lo hp (by omega), hB1.trans (hb.mono (by omega))⟩
set_option maxHeartbeats 1600000 in
theorem listTurn_any (n : Nat) (v : Value) (g : Nat → Int) (h1 : 1 ≤ n) (h2 : n ≤ 4) (w : World) (hm : ∀ w : World, (method 231 97 v "loop.example/g01160/impl.labelAt").run Try.prog w = .ok (127, v) w)
    (hg : ∀ W, Below w.heap.size w W → ∀ k : Nat, k < sqn n → Calls Try.prog 127 #[v, .int .i64 k] W fun e w' => e = .returned (.int .i64 (g k)) ∧ Below W.heap.size W w') :
    Calls Try.prog 68 #[.agg #[.int .i64 n], .iface 97 v] w fun e w' => ∃ u, e = .returned u ∧ w'.ownsRow w.heap.size 3 1 u (sqn n) (((List.range (sqn n)).map g).map (Value.int .i64)) ∧ Below w.heap.size w w' := by
  obtain ⟨i0, hi, hz0, hz1, hz2⟩ := info_parts intInfo
  have hsl := sqn_le n h2
  have HC : ∀ w : World, Calls Try.prog 49 #[.agg #[.int .i64 n]] w fun e w' => e = .returned (.int .i64 (sqn n : Nat)) ∧ Below w.heap.size w w' := fun w => by rw [← sqn_eq]; exact sqSize_any n (by omega) (by omega) w
  generalize sqn n = s at hsl HC hg ⊢
  have HC := Lib.hid HC
  have HG := Lib.hid hg
  have HZL2 := Lib.hid (zf_len g s)
  have HA := Lib.hid (zf_all g s)
  have hB0 := balloc (Below.refl w.heap.size w) (.cells #[.int .i64 n] 51)
  clear hg
  go_enter Try.func68, Try.ntmps68
  go_wp2_with fail
  refine (HC.out _).mono ?_
  rintro e w1 ⟨rfl, hb1⟩
  have hB1 := bnext hB0 hb1
  have hm1 : w1.cell? ⟨w.heap.size, 0, none⟩ = some (.int .i64 n) := (hb1.cell (by simp)).trans (by go_cell)
  have hz1' : w.heap.size < w1.heap.size := by have := hb1.size; simp at this; omega
  clear hB0 hb1
  go_wp2_with (at_make; refine wpList_make_full _ rfl _ _ 25 rfl w1.heap.size 3 i0 (.int .i64 0) 1 Try.underlying25 hi hz0 hz1 _ _ _ _ s rfl rfl ?hC ?hL ?hb2 ?hb3 ?hb4 ?_)
  case hC => rfl
  case hL => rfl
  case hb2 => rw [hz2]; omega
  case hb3 => unfold maxLen; omega
  case hb4 => exact Nat.le_refl _
  intro w2 ho2 hg2
  have hp2 : w2.ownsRow w1.heap.size 3 1 (.slice (some ⟨w1.heap.size, 0, none⟩) s s) s ((zf g s 0).map (Value.int .i64)) := by
    rw [zf_zero, List.map_replicate]
    first | exact made_ints s ▸ ho2 | exact made_ints' s ▸ ho2
  have hB2 : Below w1.heap.size w1 w2 := (Below.refl _ _).grown hg2 (Nat.le_refl _) (fun k hk => by cases hk)
  have hm2 := (hB2.cell (p := ⟨w.heap.size, 0, none⟩) hz1').trans hm1
  clear ho2 hg2 hm1
  go_wp2_with fail
  refine (HC.out _).mono ?_
  rintro e w3 ⟨rfl, hb3⟩
  have hp3 := own_now hp2 hb3
  have hB3 := hB2.trans (hb3.mono hB2.size)
  clear hp2 hB2 hb3 hm2
  go_wp2_with fail
  go_loopw [12] (fun v12 wr => ∃ k : Nat, k ≤ s ∧ v12 = .int .i64 k ∧ wr.ownsRow w1.heap.size 3 1 (.slice (some ⟨w1.heap.size, 0, none⟩) s s) s ((zf g s k).map (Value.int .i64)) ∧ Below w1.heap.size w1 wr) (fun v12 _ => s - (intOf v12).toNat)
  case atStart => exact ⟨0, Nat.zero_le _, rfl, hp3, hB3⟩
  case round =>
    clear hp3 hB3
    obtain ⟨k, hk, rfl, hp, hb⟩ := hrel
    by_cases hlt : k < s
    · have HW := Lib.hid (hB1.trans (hb.mono (by omega)))
      have hki : (k : Int) < (s : Int) := by omega
      have HS := Lib.hid (zf_set g s k hlt)
      have HGK := Lib.hid (fun W hB => HG.out W hB k hlt)
      generalize g k = x at HS HGK
      obtain ⟨wi, hwi⟩ : ∃ wi : World, wi = wr := ⟨_, rfl⟩
      subst hwi
      go_wp2_with fail
      refine (HGK.out _ HW.out).mono ?_
      rintro e w4 ⟨rfl, hb4⟩
      have hp4 := own_now hp hb4
      have hB4 := hb.trans (hb4.mono hb.size)
      obtain ⟨o, hold⟩ : ∃ o, w4.cell? ⟨w1.heap.size, k, none⟩ = some o := by
        have e := hp4.cellAt k (by omega)
        have hl : k < ((zf g s k).map (Value.int .i64)).length := by rw [List.length_map, HZL2.out k]; exact hlt
        rw [List.getElem?_eq_getElem hl] at e
        exact ⟨_, e⟩
      have hfr := hp4.frozenAt k
      have hst : (w4.setCell ⟨w1.heap.size, k, none⟩ (.int .i64 x)).ownsRow w1.heap.size 3 1 (.slice (some ⟨w1.heap.size, 0, none⟩) s s) s ((zf g s (k + 1)).map (Value.int .i64)) := by
        have e := (hp4.stored k (.int .i64 x)).1
        rw [← HS.out, List.map_set]
        exact e
      have hBs := hB4.setCell (p := ⟨w1.heap.size, k, none⟩) (Nat.le_refl _) (.int .i64 x)
      clear hp hb hb4 hp4 hB4
      go_wp2_with fail
      go_roundw
      case rel => exact ⟨k + 1, by omega, by go_num, hst, hBs⟩
      case measure => simp [intOf]; omega
    · have hk2 : k = s := by omega
      rw [hk2, HA.out] at hp
      clear hk2
      go_wp2_with fail
      go_ret
      exact ⟨_, rfl, own_lo hp (by omega), hB1.trans (hb.mono (by omega))⟩
end Go.Proofs.Ytgpikaolgalpbaa
