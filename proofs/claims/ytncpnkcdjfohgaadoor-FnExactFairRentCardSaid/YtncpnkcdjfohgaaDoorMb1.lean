import Derived.RegionTactic
import Derived.BigRegion
import Derived.Test.YtncpnkcdjfohgaaDoorMa6
import Derived.Test.YtncpnkcdjfohgaaDoorZc
import Derived.Test.YtncpnkcdjfohgaaDoorPoint
namespace Go.Proofs.YtncpnkcdjfohgaaDoor
open Go.RowKit
set_option maxRecDepth 4000
/-- The sum of k numbers from lo on. -/
def sl (t : List Int) (lo k : Nat) : Int := ((t.drop lo).take k).sum
theorem sl_zero (t : List Int) (lo : Nat) : sl t lo 0 = 0 := by simp [sl]
theorem sl_succ (t : List Int) (lo k : Nat) : sl t lo (k + 1) = sl t lo k + t.getD (lo + k) 0 := by
  unfold sl
  rw [List.take_add_one, List.sum_append, List.getElem?_drop, List.getD_eq_getElem?_getD]
  cases t[lo + k]? <;> simp
theorem getD_bd {lo hi : Int} (hl : lo ≤ 0) (hh : 0 ≤ hi) {t : List Int} (h : allB lo hi t = true) (k : Nat) : lo ≤ t.getD k 0 ∧ t.getD k 0 ≤ hi := by
  by_cases hk : k < t.length
  · exact allB_at h k hk
  · rw [List.getD_eq_getElem?_getD, List.getElem?_eq_none (by omega)]
    simp; omega
theorem sl_bd {t : List Int} (h : allB 0 9 t = true) (lo : Nat) : ∀ k : Nat, 0 ≤ sl t lo k ∧ sl t lo k ≤ 9 * (k : Int)
  | 0 => by rw [sl_zero]; simp
  | k + 1 => by
    have h1 := sl_bd h lo k
    have h2 := getD_bd (by omega) (by omega) h (lo + k)
    rw [sl_succ]
    omega
/-- The sizes of the three pieces at a point, and the slices ahead of each. -/
def sz3 (n i k : Nat) : Nat := if k = 0 then n - Pr.R i else if k = 1 then Pr.R i - Pr.C i else if k = 2 then Pr.C i else 0
def pre3 (n i k : Nat) : Nat := if k = 0 then 0 else if k = 1 then n - Pr.R i else if k = 2 then n - Pr.C i else n
theorem pre3_succ (n i k : Nat) (hR : Pr.R i ≤ n) (hC : Pr.C i ≤ Pr.R i) (hk : k < 3) : pre3 n i (k + 1) = pre3 n i k + sz3 n i k := by
  unfold pre3 sz3
  rcases (by omega : k = 0 ∨ k = 1 ∨ k = 2) with rfl | rfl | rfl <;> simp <;> omega
theorem pre3_le (n i k : Nat) (hR : Pr.R i ≤ n) (hC : Pr.C i ≤ Pr.R i) (hk : k < 3) : pre3 n i k + sz3 n i k ≤ n := by
  unfold pre3 sz3
  rcases (by omega : k = 0 ∨ k = 1 ∨ k = 2) with rfl | rfl | rfl <;> simp <;> omega
theorem sz3_pt (n i k : Nat) (hR : Pr.R i ≤ n) (hC : Pr.C i ≤ Pr.R i) (hk : k < 3) : (pt n i).getD k 0 = (sz3 n i k : Nat) := by
  unfold pt sz3
  rcases (by omega : k = 0 ∨ k = 1 ∨ k = 2) with rfl | rfl | rfl <;> simp <;> omega
/-- What a piece is worth. -/
def worth (t : List Int) (n i k : Nat) : Int := sl t (pre3 n i k) (sz3 n i k)
def pcs (t : List Int) (n i : Nat) : List Int := [worth t n i 0, worth t n i 1, worth t n i 2]
theorem worth_bd {t : List Int} (h : allB 0 9 t = true) (n i k : Nat) (h2 : n ≤ 8) (hR : Pr.R i ≤ n) (hC : Pr.C i ≤ Pr.R i) (hk : k < 3) : 0 ≤ worth t n i k ∧ worth t n i k ≤ 72 := by
  have h1 := sl_bd h (pre3 n i k) (sz3 n i k)
  have h3 := pre3_le n i k hR hC hk
  unfold worth
  omega
/-- The worths while they are summed up: those of the first k pieces, and m slices of the next one. -/
def outL (t : List Int) (n i k m : Nat) : List Int := (List.range 3).map fun j => if j < k then worth t n i j else if j = k then sl t (pre3 n i k) m else 0
theorem outL_at (t : List Int) (n i k m j : Nat) (hj : j < 3) : (outL t n i k m)[j]? = some (if j < k then worth t n i j else if j = k then sl t (pre3 n i k) m else 0) := by
  rw [outL, List.getElem?_map, List.getElem?_range hj]; rfl
theorem outL_len (t : List Int) (n i k m : Nat) : (outL t n i k m).length = 3 := by simp [outL]
theorem outL_zero (t : List Int) (n i : Nat) : outL t n i 0 0 = [0, 0, 0] := by
  simp only [outL, sl_zero]; rfl
theorem outL_next (t : List Int) (n i k : Nat) : outL t n i k (sz3 n i k) = outL t n i (k + 1) 0 := by
  unfold outL
  refine List.map_congr_left fun j _ => ?_
  by_cases h1 : j < k
  · rw [if_pos h1, if_pos (by omega)]
  · by_cases h2 : j = k
    · rw [if_neg h1, if_pos h2, if_pos (by omega), h2]; rfl
    · rw [if_neg h1, if_neg h2, if_neg (by omega), sl_zero]; simp
theorem outL_all (t : List Int) (n i : Nat) : outL t n i 3 0 = pcs t n i := by
  simp only [outL, pcs, sl_zero]; rfl
theorem outL_set (t : List Int) (n i k m : Nat) (hk : k < 3) : ((outL t n i k m).map (Value.int .i64)).toArray.setIfInBounds k (.int .i64 (sl t (pre3 n i k) m + t.getD (pre3 n i k + m) 0)) = ((outL t n i k (m + 1)).map (Value.int .i64)).toArray := by
  rw [List.setIfInBounds_toArray]
  congr 1
  apply List.ext_getElem?
  intro j
  rw [List.getElem?_set, List.getElem?_map, List.getElem?_map]
  by_cases e : k = j
  · subst e
    rw [if_pos rfl, if_pos (by rw [List.length_map, outL_len]; exact hk), outL_at _ _ _ _ _ _ hk, ← sl_succ]
    simp
  · rw [if_neg e]
    by_cases hj : j < 3
    · rw [outL_at _ _ _ _ _ _ hj, outL_at _ _ _ _ _ _ hj, if_neg (Ne.symm e), if_neg (Ne.symm e)]
    · rw [List.getElem?_eq_none (by rw [outL_len]; omega), List.getElem?_eq_none (by rw [outL_len]; omega)]
set_option maxHeartbeats 3200000 in
theorem ckPieces_own (n i : Nat) (h1 : 1 ≤ n) (h2 : n ≤ 8) (hi : i < Pr.cnt n) (t : List Int) (ht : t.length = n) (hA : allB 0 9 t = true) (a : Option Addr) (cap : Nat) (w : World) (h : RdS w w.heap.size a t) :
    Calls Tryd.prog 102 #[.int .i64 n, .slice a t.length cap, .int .i64 i] w fun e w' => ∃ v, e = .returned v ∧ w'.ownsRow w.heap.size 3 1 v (pcs t n i).length ((pcs t n i).map (Value.int .i64)) ∧ Below w.heap.size w w' := by
  have hc := (Pr.cnt_le n (by omega)).1
  have hR := Pr.R_le_of_lt n (by omega) i hi
  have hC := (Pr.RC_bd i (by omega)).1
  have HM := Lib.hid (fun w => meAt_any n i h1 h2 (by omega) w)
  have HSZ : Hid (∀ k, k < 3 → ([(n : Int) - (Pr.R i : Nat), (Pr.R i : Int) - (Pr.C i : Nat), (Pr.C i : Nat)] : List Int).getD k 0 = (sz3 n i k : Nat)) := Lib.hid (fun k hk => sz3_pt n i k hR hC hk)
  have HPS := Lib.hid (fun k hk => pre3_succ n i k hR hC hk)
  have HPL := Lib.hid (fun k hk => pre3_le n i k hR hC hk)
  have HWB := Lib.hid (fun k hk => worth_bd hA n i k h2 hR hC hk)
  have HA := Lib.hid hA
  have HT := Lib.hid ht
  obtain ⟨rb, ro, hr, hrb⟩ := h
  have HR := Lib.hid hr
  clear hA ht hr hC hR
  generalize (n : Int) - (Pr.R i : Nat) = ea at *
  generalize (Pr.R i : Int) - (Pr.C i : Nat) = eb at *
  generalize ((Pr.C i : Nat) : Int) = ec at *
  go_enter Tryd.func102, Tryd.ntmps102
  go_wp2_with fail
  obtain ⟨w1, hw1⟩ : ∃ w1, w1 = w.alloc (.cells #[.int .i64 0, .int .i64 0, .int .i64 0] 3) := ⟨_, rfl⟩
  rw [← hw1]
  refine (HM.out _).mono ?_
  rintro e w2 ⟨rfl, hw2⟩
  have hz1 : w1.heap.size = w.heap.size + 1 := by rw [hw1]; simp
  have hg1 : w1.heap[w.heap.size]? = some (.cells #[.int .i64 0, .int .i64 0, .int .i64 0] 3 (0, 0)) := by rw [hw1]; exact heap_alloc_new _ _
  have hb1 : Below w.heap.size w w1 := by rw [hw1]; exact balloc (Below.refl _ _) _
  have hb2 : Below w.heap.size w w2 := by rw [hw2]; exact balloc hb1 _
  have hg2 : w2.heap[w1.heap.size]? = some (.cells #[.int .i64 ea, .int .i64 eb, .int .i64 ec] 3 (0, 0)) := by rw [hw2]; exact heap_alloc_new _ _
  have hg3 : w2.heap[w.heap.size]? = some (.cells #[.int .i64 0, .int .i64 0, .int .i64 0] 3 (0, 0)) := by rw [hw2]; exact (Below.heap_alloc w1 _ _ (by omega)).trans hg1
  clear hw1 hw2 hg1 hb1
  rw [hz1] at hg2 ⊢
  clear hz1
  go_wp2_with fail
  go_loopw [8, 16] (fun v8 v16 wr => ∃ k : Nat, k ≤ 3 ∧ v16 = .int .i64 k ∧ v8 = .int .i64 (pre3 n i k : Nat) ∧ wr.heap[w.heap.size]? = some (.cells ((outL t n i k 0).map (Value.int .i64)).toArray 3 (0, 0)) ∧ wr.heap[w.heap.size + 1]? = some (.cells #[.int .i64 ea, .int .i64 eb, .int .i64 ec] 3 (0, 0)) ∧ Below w.heap.size w wr) (fun _ v16 _ => 3 - (intOf v16).toNat)
  case atStart => exact ⟨0, by omega, rfl, rfl, by rw [outL_zero]; exact hg3, hg2, hb2⟩
  case round =>
    clear hg2 hg3 hb2
    obtain ⟨k, hk, rfl, rfl, hg, hgm, hb⟩ := hrel
    obtain ⟨wo, rfl⟩ : ∃ wo : World, wo = wr := ⟨_, rfl⟩
    by_cases hlt : k < 3
    · have hki : (k : Int) < 3 := by omega
      have HS := HSZ.out k hlt
      have hcm := blk_cell hgm k (.int .i64 (([ea, eb, ec] : List Int).getD k 0)) (by rcases (by omega : k = 0 ∨ k = 1 ∨ k = 2) with rfl | rfl | rfl <;> rfl)
      rw [HS] at hcm
      have HPk := HPS.out k hlt
      have hpl := HPL.out k hlt
      have HN := Lib.hid (outL_next t n i k)
      have HSET := Lib.hid (fun m => outL_set t n i k m hlt)
      have HBD := Lib.hid (fun m => sl_bd HA.out (pre3 n i k) m)
      have HAT := Lib.hid (fun m => outL_at t n i k m k hlt)
      have HGM := Lib.hid hgm
      clear HS hgm
      have HPK := Lib.hid HPk
      clear HPk
      generalize sz3 n i k = s at *
      generalize pre3 n i k = p at *
      go_wp2_with fail
      go_loopw [8, 10] (fun v8 v10 wr => ∃ m : Nat, m ≤ s ∧ v10 = .int .i64 ((s - m : Nat) : Int) ∧ v8 = .int .i64 ((p + m : Nat) : Int) ∧ wr.heap[w.heap.size]? = some (.cells ((outL t n i k m).map (Value.int .i64)).toArray 3 (0, 0)) ∧ wr.heap[w.heap.size + 1]? = some (.cells #[.int .i64 ea, .int .i64 eb, .int .i64 ec] 3 (0, 0)) ∧ Below w.heap.size w wr) (fun _ v10 _ => (intOf v10).toNat)
      case atStart => exact ⟨0, by omega, rfl, rfl, hg, HGM.out, hb⟩
      case round =>
        clear hg HGM hb hcm
        obtain ⟨m, hm, rfl, rfl, hg, hgm, hb⟩ := hrel
        have HGM := Lib.hid hgm
        clear hgm
        by_cases hltm : m < s
        · have hpos : (0 : Int) < ((s - m : Nat) : Int) := by omega
          have hpm : p + m < t.length := by have := HT.out; omega
          obtain ⟨hra, cj⟩ := HR.out.2 (p + m) hpm
          subst hra
          have hrb' : rb < w.heap.size := by omega
          have c2 := (hb.cell (p := ⟨rb, ro + (p + m), none⟩) hrb').trans cj
          have hpi : ((p + m : Nat) : Int) < (t.length : Int) := by omega
          have hbd := HBD.out m
          have hgb := getD_bd (by omega) (by omega) HA.out (p + m)
          have c3 := blk_cell hg k (.int .i64 (sl t p m)) (by rw [List.getElem?_toArray, List.getElem?_map, HAT.out m]; simp)
          have f3 := frozen_of_row wr w.heap.size k _ _ hg
          have HS := Lib.hid (heap_setCell_same wr w.heap.size k _ _ (.int .i64 (sl t p m + t.getD (p + m) 0)) hg)
          rw [HSET.out m] at HS
          have HG5 : Hid (∀ v, (wr.setCell ⟨w.heap.size, k, none⟩ v).heap[w.heap.size + 1]? = some (.cells #[.int .i64 ea, .int .i64 eb, .int .i64 ec] 3 (0, 0))) := Lib.hid (fun v => (Below.heap_setCell _ _ _ _ (by show w.heap.size + 1 ≠ w.heap.size; omega)).trans HGM.out)
          clear cj HGM
          generalize t.getD (p + m) 0 = x at *
          generalize sl t p m = y at *
          have hm8 : m < 8 := by omega
          go_wp2_with fail
          go_region
          go_wp2_with fail
          go_roundw
          case rel => exact ⟨m + 1, by omega, by go_num, by go_num, HS.out, HG5.out _, (hb.setCell (p := ⟨w.heap.size, k, none⟩) (Nat.le_refl _) _).drew⟩
          case measure => simp [intOf]; omega
        · have hm2 : m = s := by omega
          have hg' : wr.heap[w.heap.size]? = some (.cells ((outL t n i (k + 1) 0).map (Value.int .i64)).toArray 3 (0, 0)) := by rw [hg, hm2, HN.out]
          have HPM : Hid (((p + m : Nat) : Int) = (pre3 n i (k + 1) : Nat)) := Lib.hid (by rw [HPK.out, hm2])
          clear hg hm2
          have hz : ((s - m : Nat) : Int) = 0 := by omega
          go_wp2_with fail
          go_roundw
          case rel => exact ⟨k + 1, by omega, by go_num, by rw [HPM.out], hg', HGM.out, hb⟩
          case measure => simp [intOf]; omega
    · have hk3 : k = 3 := by omega
      subst hk3
      rw [outL_all] at hg
      go_wp2_with fail
      go_ret
      exact ⟨_, rfl, own_block (cap := 3) (xs := pcs t n i) (Nat.le_refl _) hg (by simp) rfl (by simp [maxLen]), hb⟩
theorem ckPieces_any (n i : Nat) (h1 : 1 ≤ n) (h2 : n ≤ 8) (hi : i < Pr.cnt n) (t : List Int) (ht : t.length = n) (hA : allB 0 9 t = true) (a : Option Addr) (cap : Nat) (w : World) (h : RdS w w.heap.size a t) :
    Calls Tryd.prog 102 #[.int .i64 n, .slice a t.length cap, .int .i64 i] w fun e w' => ∃ v, e = .returned v ∧ OI w' w.heap.size w'.heap.size v (pcs t n i) ∧ Below w.heap.size w w' :=
  (ckPieces_own n i h1 h2 hi t ht hA a cap w h).mono fun _ _ ⟨v, e, ho, hb⟩ => ⟨v, e, oi_new ho, hb⟩
end Go.Proofs.YtncpnkcdjfohgaaDoor
