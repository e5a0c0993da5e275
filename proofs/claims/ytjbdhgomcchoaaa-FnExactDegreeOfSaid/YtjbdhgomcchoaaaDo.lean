import Derived.Test.YtjbdhgomcchoaaaPr
namespace Go.Proofs.Ytjbdhgomcchoaaa
open Go.RowKit
/-- The points of a cell of the list. -/
def cq (n k t : Nat) : Nat := ((ci n).flatten.getD (k * 3 + t) 0).toNat
theorem ci_cq : ∀ n, n < 9 → (ci n).length = n * n ∧ ∀ k, k < (ci n).length → (ci n).getD k [] = [(cq n k 0 : Int), (cq n k 1 : Int), (cq n k 2 : Int)] ∧
    (ci n).flatten.getD (k * 3) 0 = (cq n k 0 : Int) ∧ (ci n).flatten.getD (k * 3 + 1) 0 = (cq n k 1 : Int) ∧ (ci n).flatten.getD (k * 3 + 2) 0 = (cq n k 2 : Int) ∧ cq n k 0 < Pr.cnt n ∧ cq n k 1 < Pr.cnt n ∧ cq n k 2 < Pr.cnt n := by decide +kernel
def cpairs (n k : Nat) : List (Int × Int) := [((cq n k 0 : Int), (cq n k 1 : Int)), ((cq n k 0 : Int), (cq n k 2 : Int)), ((cq n k 1 : Int), (cq n k 2 : Int))]
set_option maxHeartbeats 400000 in
theorem pairs_any (x y z : Int) (w : World) :
    Calls Try.prog 93 #[.agg #[.int .i64 x, .int .i64 y, .int .i64 z]] w fun e w' => ∃ v, e = .returned v ∧ PairV w' w.heap.size v [(x, y), (x, z), (y, z)] ∧ Below w.heap.size w w' := by
  go_enter Try.func93, Try.ntmps93
  go_wp2_with fail
  go_ret
  refine ⟨_, rfl, ?_, by go_grown⟩
  refine ⟨rfl, .inr ⟨w.heap.size + 1, 3, #[.int .i64 x, .int .i64 y, .int .i64 x, .int .i64 z, .int .i64 y, .int .i64 z], rfl, by omega, ?_, by simp, by simp [maxLen], by simp, rfl⟩⟩
  have e := heap_alloc_new (w.alloc (.cells #[.int .i64 x, .int .i64 y, .int .i64 z] 57)) (.cells #[.int .i64 x, .int .i64 y, .int .i64 x, .int .i64 z, .int .i64 y, .int .i64 z] 70)
  rwa [World.size_alloc] at e
set_option maxHeartbeats 1600000 in
theorem doorsOf_any (n : Nat) (xs : List Int) (base : Nat) (r : Array Value) (k : Nat) (w : World) (hL : labB n xs = true) (hrv : RoomsV w base n xs r) (hk : k < (ci n).length) :
    Calls Try.prog 71 #[.agg r, .int .i64 k] w fun e w' => ∃ v, e = .returned v ∧ PairV w' w.heap.size v ((cpairs n k).filter (drB xs)) ∧ Below w.heap.size w w' := by
  obtain ⟨h1, h2, hl, -⟩ := labB_yes hL
  obtain ⟨hsz, hone, -, -, g, ca, cc, r46, -, htr, -, -, -⟩ := rooms_row hL hrv
  obtain ⟨hfl, a', cap', b, hv, hrd⟩ := trio_shape htr
  simp only [Value.slice.injEq] at hv
  obtain ⟨rfl, -, rfl⟩ := hv
  obtain ⟨hlen, hall⟩ := ci_cq n (by omega)
  obtain ⟨-, hx, hy, hz, hp, hq, hr⟩ := hall k hk
  obtain ⟨rfl, c0⟩ := hrd (k * 3) (by omega)
  have c1 := (hrd (k * 3 + 1) (by omega)).2
  have c2 := (hrd (k * 3 + 2) (by omega)).2
  rw [hx] at c0
  rw [hy] at c1
  rw [hz] at c2
  have hbl : b < w.heap.size := own_lt htr b rfl
  have HL := Lib.hid hL
  have HRV := Lib.hid hrv
  have hnn64 : n * n ≤ 64 := Nat.mul_le_mul h2 h2
  rw [← hlen] at hnn64
  have HPT : Hid (Pts xs.length (cpairs n k)) := Lib.hid (fun t ht => by
    match t, ht with
    | 0, _ => exact ⟨cq n k 0, cq n k 1, rfl, by omega, by omega⟩
    | 1, _ => exact ⟨cq n k 0, cq n k 2, rfl, by omega, by omega⟩
    | 2, _ => exact ⟨cq n k 1, cq n k 2, rfl, by omega, by omega⟩
    | t + 3, ht => exact absurd ht (by simp [cpairs]))
  have HCP : Hid (cpairs n k = [((cq n k 0 : Int), (cq n k 1 : Int)), ((cq n k 0 : Int), (cq n k 2 : Int)), ((cq n k 1 : Int), (cq n k 2 : Int))]) := Lib.hid rfl
  have hki : (k : Int) < ((ci n).length : Int) := by omega
  have hb0 := balloc (Below.refl w.heap.size w) (.cells r 66)
  have hg1 := heap_alloc_new w (.cells r 66)
  have hz1 : (w.alloc (.cells r 66)).heap.size = w.heap.size + 1 := by simp
  have d0 := (hb0.cell (p := ⟨b, k * 3, none⟩) hbl).trans c0
  have d1 := (hb0.cell (p := ⟨b, k * 3 + 1, none⟩) hbl).trans c1
  have d2 := (hb0.cell (p := ⟨b, k * 3 + 2, none⟩) hbl).trans c2
  clear hL hrv hfl hrd hall hx hy hz c0 c1 c2 hlen hl htr hp hq hr
  generalize cq n k 0 = x at d0 HCP
  generalize cq n k 1 = y at d1 HCP
  generalize cq n k 2 = z at d2 HCP
  go_enter Try.func71, Try.ntmps71
  go_wp2_with fail
  generalize w.alloc (.cells r 66) = w1 at hb0 hg1 hz1 d0 d1 d2 ⊢
  refine wp_region_mix (fun w' => Below w1.heap.size w1 w') [6, 7] [0, 1, 2, 3, 4, 5, 6, 7, 8] (by kernel_rfl) (by kernel_rfl) (fun _ _ d _ _ h => by cases d <;> exact h) (by kernel_rfl) rfl (Below.refl _ _).drew ?_
  refine mix_take 0 _ (.agg r) rfl rfl rfl (some 5) rfl (fun w' hw' => exec_row _ _ rfl w.heap.size rfl r (run_loadVar_row w' _ _ _ r (0, 0) _ ((Below.block hw' _ (by omega)).trans hg1) Try.underlying66 rfl (by rw [rmSize, hsz]))) ?_
  simp only [Act.put, List.setIfInBounds_toArray, List.set_cons_zero, List.set_cons_succ]
  refine mix_take 1 _ ?_ rfl rfl rfl (some 6) rfl (fun w' hw' => ?hv1) ?_
  case hv1 => (go_simp; with_reducible rfl)
  simp only [Act.put, List.setIfInBounds_toArray, List.set_cons_zero, List.set_cons_succ]
  refine mix_take 2 _ ?_ rfl rfl rfl (some 7) rfl (fun w' hw' => ?hv2) ?_
  case hv2 =>
    have q : w'.cell? ⟨w.heap.size, 46, none⟩ = some (.slice (some ⟨b, 0, none⟩) (ci n).length cc) := (cell_of_row _ _ _ _ _ (0, 0) ((Below.block hw' _ (by omega)).trans hg1)).trans r46
    go_simp
    with_reducible rfl
  simp only [Act.put, List.setIfInBounds_toArray, List.set_cons_zero, List.set_cons_succ]
  refine mix_take 3 _ ?_ rfl rfl rfl (some 8) rfl (fun w' hw' => ?hv3) ?_
  case hv3 => (go_simp; with_reducible rfl)
  simp only [Act.put, List.setIfInBounds_toArray, List.set_cons_zero, List.set_cons_succ]
  refine mix_take 4 _ ?_ rfl rfl rfl (some 9) rfl (fun w' hw' => ?hv4) ?_
  case hv4 => (go_simp; with_reducible rfl)
  simp only [Act.put, List.setIfInBounds_toArray, List.set_cons_zero, List.set_cons_succ]
  refine mix_take 5 _ ?_ rfl rfl rfl (some 10) rfl (fun w' hw' => ?hv5) ?_
  case hv5 =>
    have e0 := (Below.cell (p := ⟨b, k * 3, none⟩) hw' (by show b < w1.heap.size; omega)).trans d0
    have e1 := (Below.cell (p := ⟨b, k * 3 + 1, none⟩) hw' (by show b < w1.heap.size; omega)).trans d1
    have e2 := (Below.cell (p := ⟨b, k * 3 + 2, none⟩) hw' (by show b < w1.heap.size; omega)).trans d2
    go_simp
    with_reducible rfl
  simp only [Act.put, List.setIfInBounds_toArray, List.set_cons_zero, List.set_cons_succ]
  refine mix_call 6 _ rfl rfl rfl 93 #[.agg #[.int .i64 x, .int .i64 y, .int .i64 z]] (some 11) rfl ?hr6 ?_
  case hr6 => go_simp
  refine (pairs_any x y z _).mono ?_
  rintro e w2 ⟨v, rfl, hp2, hb2⟩
  rw [← HCP.out] at hp2
  obtain ⟨pa, pc, pb, rfl, hpr⟩ := pair_shape hp2
  have hB2 : Below w1.heap.size w1 w2 := (Below.refl _ _).drew.trans hb2
  refine ⟨_, rfl, hB2, ?_⟩
  simp only [Act.put, List.setIfInBounds_toArray, List.set_cons_zero, List.set_cons_succ]
  refine mix_call 7 _ rfl rfl rfl 64 #[.agg r, .slice pa (cpairs n k).length pc] (some 12) rfl ?hr7 ?_
  case hr7 => go_simp
  have hB02 := bnext hb0 hB2
  refine (doorsAmong_any n xs base r (cpairs n k) pa pb pc w2 HL.out (rooms_now HRV.out hB02) HPT.out hpr (by simp [cpairs])).mono ?_
  rintro e w3 ⟨v, rfl, hp3, hb3⟩
  obtain ⟨da, dc, db, rfl, -⟩ := pair_shape hp3
  have hB3 := bnext hB2 hb3
  refine ⟨_, rfl, hB3, ?_⟩
  simp only [Act.put, List.setIfInBounds_toArray, List.set_cons_zero, List.set_cons_succ]
  refine mix_take 8 _ ?_ rfl rfl rfl (some 4) rfl (fun w' hw' => ?hv8) ?_
  case hv8 => (go_simp; with_reducible rfl)
  simp only [Act.put, List.setIfInBounds_toArray, List.set_cons_zero, List.set_cons_succ]
  refine mix_done ?_
  have hB03 := bnext hb0 hB3
  have hz03 := hB02.size
  clear hp2 hpr d0 d1 d2 hg1
  go_wp2_with fail
  go_ret
  exact ⟨_, rfl, World.ownsRow.mono hp3 hz03, hB03⟩
end Go.Proofs.Ytjbdhgomcchoaaa
