import Derived.Test.YtgbfpmfennmebaaR4
import Derived.Test.YtgbfpmfennmebaaSi
namespace Go.Proofs.Ytgbfpmfennmebaa
open Go.RowKit
set_option maxRecDepth 4000
set_option maxHeartbeats 3200000 in
theorem signOf_any (n : Nat) (xs : List Int) (base : Nat) (R : Array Value) (k : Nat) (w : World) (hL : labB n xs = true) (hrv : RoomsT w base n xs R) (hk : k < (ci n).length) :
    Calls Try.prog 35 #[.agg R, .int .i64 k] w fun e w' => e = .returned (.int .i64 (signB xs n k)) ∧ Below w.heap.size w w' := by
  obtain ⟨h1, h2, hl, -⟩ := labB_yes hL
  have hcn := (Pr.cnt_le n (by omega)).1
  have hbd := ci_bd n h2
  obtain ⟨g, r, hrm, hrs, -, hRs, -, r0, hmk, hrj, -⟩ := rt_row hL hrv
  obtain ⟨ca, cc, ba, bc, hre, htr, -⟩ := hrm.v
  subst hre
  have r46 : R[46]? = some (.slice ca (ci n).length cc) := hrj 0 (by omega)
  obtain ⟨hfl, a', cap', b, hv, hrd⟩ := trio_shape htr
  simp only [Value.slice.injEq] at hv
  obtain ⟨rfl, -, rfl⟩ := hv
  obtain ⟨-, hall⟩ := ci_cq n (by omega)
  obtain ⟨-, hx, hy, hz, hp, hq, hr⟩ := hall k hk
  obtain ⟨-, hallu⟩ := ci_up n (by omega)
  obtain ⟨-, -, -, -, -, -, -, hu⟩ := hallu k hk
  obtain ⟨rfl, c0⟩ := hrd (k * 3) (by omega)
  have c1 := (hrd (k * 3 + 1) (by omega)).2
  have c2 := (hrd (k * 3 + 2) (by omega)).2
  rw [hx] at c0
  rw [hy] at c1
  rw [hz] at c2
  have hbl : b < w.heap.size := own_lt htr b rfl
  have HPT := Lib.hid (cpairs_pts n k xs hL hk)
  have HUS : Hid (upI n (cq n k 0) (cq n k 1) (cq n k 2) = upS n (cl n k)) := Lib.hid hu
  have hki : (k : Int) < ((ci n).length : Int) := by omega
  have hx45 : xs.length ≤ 45 := by omega
  have hb0 := balloc (Below.refl w.heap.size w) (.cells R 53)
  have hg1 := heap_alloc_new w (.cells R 53)
  have d0 := (hb0.cell (p := ⟨b, k * 3, none⟩) hbl).trans c0
  have d1 := (hb0.cell (p := ⟨b, k * 3 + 1, none⟩) hbl).trans c1
  have d2 := (hb0.cell (p := ⟨b, k * 3 + 2, none⟩) hbl).trans c2
  have q46 := blk_cell hg1 46 _ r46
  have HI := Lib.hid (fun w' => isUp_any n (cq n k 0) (cq n k 1) (cq n k 2) h1 h2 (by omega) (by omega) (by omega) w')
  have HCP : Hid (cpairs n k = [((cq n k 0 : Int), (cq n k 1 : Int)), ((cq n k 0 : Int), (cq n k 2 : Int)), ((cq n k 1 : Int), (cq n k 2 : Int))]) := Lib.hid rfl
  have HSB : Hid (signB xs n k = if upS n (cl n k) then sgl 1 xs (cpairs n k) else -(sgl 1 xs (cpairs n k))) := Lib.hid rfl
  have HMK := Lib.hid hmk
  have HG := Lib.hid hg1
  clear hL hrv hfl hrd hall hallu hu hx hy hz c0 c1 c2 hl htr hp hq hr r46 hmk hrm hrj
  rw [HUS.out] at HI
  generalize cq n k 0 = x at d0 HCP HI
  generalize cq n k 1 = y at d1 HCP HI
  generalize cq n k 2 = z at d2 HCP HI
  have hr0 : ∀ h : 0 < R.size, R[0]'h = .int .i64 n := fun h => by
    have e := r0
    rw [Array.getElem?_eq_getElem h] at e
    simpa using e
  clear hg1 r0
  go_enter Try.func35, Try.ntmps35
  go_wp2_with fail
  refine (HI.out _).mono ?_
  rintro e w2 ⟨rfl, hb2⟩
  have t0 : w2.cell? ⟨w.heap.size + 1, 0, none⟩ = some (.int .i64 x) := by rw [hb2.cell (by simp)]; go_cell
  have t1 : w2.cell? ⟨w.heap.size + 1, 1, none⟩ = some (.int .i64 y) := by rw [hb2.cell (by simp)]; go_cell
  have t2 : w2.cell? ⟨w.heap.size + 1, 2, none⟩ = some (.int .i64 z) := by rw [hb2.cell (by simp)]; go_cell
  have hB2 := bnext (balloc hb0 (.cells #[.int .i64 x, .int .i64 y, .int .i64 z] 94)) hb2
  have hg2 : w2.heap[w.heap.size]? = some (.cells R 53 (0, 0)) := (hb2.block _ (by simp; omega)).trans ((Below.heap_alloc _ _ _ (by simp)).trans HG.out)
  have hz2 : w.heap.size < w2.heap.size := by have := hb2.size; simp at this; omega
  have HG2 := Lib.hid hg2
  clear hb2 d0 d1 d2 q46 hb0 hg2
  cases hU : upS n (cl n k)
  · have HS : Hid (signB xs n k = sgl (-1) xs (cpairs n k)) := Lib.hid (by rw [HSB.out, hU, sgl_neg]; rfl)
    clear hU
    go_wp2_with fail
    refine (pairs_any x y z _).mono ?_
    rintro e w3 ⟨v, rfl, hp3, hb3⟩
    rw [← HCP.out] at hp3
    obtain ⟨pa, pc, pb, rfl, hpr⟩ := pair_shape hp3
    have hB3 := bnext hB2 hb3
    have hG3 : Hid (w3.heap[w.heap.size]? = some (.cells R 53 (0, 0))) := Lib.hid ((hb3.block _ hz2).trans HG2.out)
    have hz3 : w.heap.size < w3.heap.size := Nat.lt_of_lt_of_le hz2 hb3.size
    have HPR := Lib.hid hpr
    have hcl : (cpairs n k).length = 3 := rfl
    clear hp3 hpr hb3 t0 t1 t2
    go_wp2_with fail
    go_loopw [6, 23] (fun vs vc wr => ∃ m : Nat, m ≤ (cpairs n k).length ∧ vc = .int .i64 m ∧ vs = .int .i64 (sgl (-1) xs ((cpairs n k).take m)) ∧ Below w3.heap.size w3 wr) (fun _ vc _ => (cpairs n k).length - (intOf vc).toNat)
    case atStart => exact ⟨0, Nat.zero_le _, rfl, rfl, Below.refl _ _⟩
    case round =>
      obtain ⟨m, hm, rfl, rfl, hb⟩ := hrel
      by_cases hlt : m < (cpairs n k).length
      · obtain ⟨rfl, hbl2, c0, c1⟩ := (HPR.out.later hb) m hlt
        obtain ⟨i, j, hij, hi, hj⟩ := HPT.out m hlt
        rw [hij] at c0 c1
        have HE := Lib.hid (sgl_step (-1) xs (cpairs n k) m i j hlt hij)
        have hpm := sgl_pm (-1) (by decide) xs ((cpairs n k).take m)
        obtain ⟨wi, hwi⟩ : ∃ wi : World, wi = wr := ⟨_, rfl⟩
        subst hwi
        have hzi := hb.size
        have hgi := (hb.block _ hz3).trans hG3.out
        have hga : (wi.alloc (.cells #[.int .i64 i, .int .i64 j] 61)).heap[w.heap.size]? = some (.cells R 53 (0, 0)) := (Below.heap_alloc _ _ _ (by omega)).trans hgi
        have l0 := (cell_of_row _ _ (1 + i) _ _ (0, 0) hga).trans (HMK.out i hi)
        have l1 := (cell_of_row _ _ (1 + j) _ _ (0, 0) hga).trans (HMK.out j hj)
        have p0 : (wi.alloc (.cells #[.int .i64 i, .int .i64 j] 61)).cell? ⟨wi.heap.size, 0, none⟩ = some (.int .i64 i) := by go_cell
        have p1 : (wi.alloc (.cells #[.int .i64 i, .int .i64 j] 61)).cell? ⟨wi.heap.size, 1, none⟩ = some (.int .i64 j) := by go_cell
        have hBa := hb.trans ((balloc (Below.refl wi.heap.size wi) (.cells #[.int .i64 i, .int .i64 j] 61)).mono hzi)
        have hii : (i : Int) < 45 := by omega
        have hjj : (j : Int) < 45 := by omega
        have hki2 : (m : Int) < ((cpairs n k).length : Int) := by omega
        clear hij hgi hga
        generalize xs.getD i 0 = lx at l0 HE
        generalize xs.getD j 0 = ly at l1 HE
        generalize sgl (-1) xs ((cpairs n k).take m) = s at hpm HE ⊢
        have hsb : -1 ≤ s ∧ s ≤ 1 := by omega
        clear hpm
        by_cases hyx : ly < lx
        · rw [if_pos hyx] at HE
          go_wp2_with fail
          generalize wi.alloc (.cells #[.int .i64 i, .int .i64 j] 61) = w5 at l0 l1 p0 p1 hBa ⊢
          have hd : decide (ly < lx) = true := decide_eq_true hyx
          go_quiet (fail)
          go_wp2_with fail
          go_roundw
          case rel => exact ⟨m + 1, by omega, by go_num, by rw [HE.out], below_drewN hBa _⟩
          case measure => simp [intOf]; omega
        · rw [if_neg hyx] at HE
          go_wp2_with fail
          generalize wi.alloc (.cells #[.int .i64 i, .int .i64 j] 61) = w5 at l0 l1 p0 p1 hBa ⊢
          have hd : decide (ly < lx) = false := decide_eq_false (by omega)
          go_quiet (fail)
          go_wp2_with fail
          go_roundw
          case rel => exact ⟨m + 1, by omega, by go_num, by rw [HE.out], below_drewN hBa _⟩
          case measure => simp [intOf]; omega
      · have hm2 : m = (cpairs n k).length := by omega
        rw [hm2, List.take_length]
        clear hm2
        rw [← HS.out]
        go_wp2_with fail
        go_ret
        exact ⟨rfl, bnext hB3 hb⟩
  · have HS : Hid (signB xs n k = sgl (1) xs (cpairs n k)) := Lib.hid (by rw [HSB.out, hU]; rfl)
    clear hU
    go_wp2_with fail
    refine (pairs_any x y z _).mono ?_
    rintro e w3 ⟨v, rfl, hp3, hb3⟩
    rw [← HCP.out] at hp3
    obtain ⟨pa, pc, pb, rfl, hpr⟩ := pair_shape hp3
    have hB3 := bnext hB2 hb3
    have hG3 : Hid (w3.heap[w.heap.size]? = some (.cells R 53 (0, 0))) := Lib.hid ((hb3.block _ hz2).trans HG2.out)
    have hz3 : w.heap.size < w3.heap.size := Nat.lt_of_lt_of_le hz2 hb3.size
    have HPR := Lib.hid hpr
    have hcl : (cpairs n k).length = 3 := rfl
    clear hp3 hpr hb3 t0 t1 t2
    go_wp2_with fail
    go_loopw [6, 23] (fun vs vc wr => ∃ m : Nat, m ≤ (cpairs n k).length ∧ vc = .int .i64 m ∧ vs = .int .i64 (sgl (1) xs ((cpairs n k).take m)) ∧ Below w3.heap.size w3 wr) (fun _ vc _ => (cpairs n k).length - (intOf vc).toNat)
    case atStart => exact ⟨0, Nat.zero_le _, rfl, rfl, Below.refl _ _⟩
    case round =>
      obtain ⟨m, hm, rfl, rfl, hb⟩ := hrel
      by_cases hlt : m < (cpairs n k).length
      · obtain ⟨rfl, hbl2, c0, c1⟩ := (HPR.out.later hb) m hlt
        obtain ⟨i, j, hij, hi, hj⟩ := HPT.out m hlt
        rw [hij] at c0 c1
        have HE := Lib.hid (sgl_step (1) xs (cpairs n k) m i j hlt hij)
        have hpm := sgl_pm (1) (by decide) xs ((cpairs n k).take m)
        obtain ⟨wi, hwi⟩ : ∃ wi : World, wi = wr := ⟨_, rfl⟩
        subst hwi
        have hzi := hb.size
        have hgi := (hb.block _ hz3).trans hG3.out
        have hga : (wi.alloc (.cells #[.int .i64 i, .int .i64 j] 61)).heap[w.heap.size]? = some (.cells R 53 (0, 0)) := (Below.heap_alloc _ _ _ (by omega)).trans hgi
        have l0 := (cell_of_row _ _ (1 + i) _ _ (0, 0) hga).trans (HMK.out i hi)
        have l1 := (cell_of_row _ _ (1 + j) _ _ (0, 0) hga).trans (HMK.out j hj)
        have p0 : (wi.alloc (.cells #[.int .i64 i, .int .i64 j] 61)).cell? ⟨wi.heap.size, 0, none⟩ = some (.int .i64 i) := by go_cell
        have p1 : (wi.alloc (.cells #[.int .i64 i, .int .i64 j] 61)).cell? ⟨wi.heap.size, 1, none⟩ = some (.int .i64 j) := by go_cell
        have hBa := hb.trans ((balloc (Below.refl wi.heap.size wi) (.cells #[.int .i64 i, .int .i64 j] 61)).mono hzi)
        have hii : (i : Int) < 45 := by omega
        have hjj : (j : Int) < 45 := by omega
        have hki2 : (m : Int) < ((cpairs n k).length : Int) := by omega
        clear hij hgi hga
        generalize xs.getD i 0 = lx at l0 HE
        generalize xs.getD j 0 = ly at l1 HE
        generalize sgl (1) xs ((cpairs n k).take m) = s at hpm HE ⊢
        have hsb : -1 ≤ s ∧ s ≤ 1 := by omega
        clear hpm
        by_cases hyx : ly < lx
        · rw [if_pos hyx] at HE
          go_wp2_with fail
          generalize wi.alloc (.cells #[.int .i64 i, .int .i64 j] 61) = w5 at l0 l1 p0 p1 hBa ⊢
          have hd : decide (ly < lx) = true := decide_eq_true hyx
          go_quiet (fail)
          go_wp2_with fail
          go_roundw
          case rel => exact ⟨m + 1, by omega, by go_num, by rw [HE.out], below_drewN hBa _⟩
          case measure => simp [intOf]; omega
        · rw [if_neg hyx] at HE
          go_wp2_with fail
          generalize wi.alloc (.cells #[.int .i64 i, .int .i64 j] 61) = w5 at l0 l1 p0 p1 hBa ⊢
          have hd : decide (ly < lx) = false := decide_eq_false (by omega)
          go_quiet (fail)
          go_wp2_with fail
          go_roundw
          case rel => exact ⟨m + 1, by omega, by go_num, by rw [HE.out], below_drewN hBa _⟩
          case measure => simp [intOf]; omega
      · have hm2 : m = (cpairs n k).length := by omega
        rw [hm2, List.take_length]
        clear hm2
        rw [← HS.out]
        go_wp2_with fail
        go_ret
        exact ⟨rfl, bnext hB3 hb⟩
end Go.Proofs.Ytgbfpmfennmebaa
