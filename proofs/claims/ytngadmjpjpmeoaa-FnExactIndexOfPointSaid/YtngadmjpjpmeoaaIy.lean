import Derived.Test.YtngadmjpjpmeoaaIx
namespace Go.Proofs.Ytngadmjpjpmeoaa
open Go.RowKit
set_option maxHeartbeats 800000 in
theorem implIx (n : Int) (xs : List Int) (a : Option Addr) (b len cap : Nat) (w : World) (hn : xs.length = len) (hlen : len ≤ 1048576) (h : Rd w a b 0 xs) (hb0 : a = none ∨ b < w.heap.size) :
    Calls Try.prog 23 #[.int .i64 n, .slice a len cap] w (Ix w n xs) := by
  subst hn
  by_cases hs : 1 ≤ n ∧ n ≤ 8
  · obtain ⟨h1, h2⟩ := hs
    obtain ⟨n, rfl⟩ := Int.eq_ofNat_of_zero_le (show 0 ≤ n by omega)
    by_cases h3 : xs.length = 3
    · obtain ⟨x, y, z, rfl⟩ := three h3
      obtain ⟨ha, c0⟩ := h.2 0 (by simp)
      obtain ⟨-, c1⟩ := h.2 1 (by simp)
      obtain ⟨-, c2⟩ := h.2 2 (by simp)
      subst ha
      simp only [Nat.zero_add, List.getD_cons_zero, List.getD_cons_succ] at c0 c1 c2
      have hbl : b < w.heap.size := by
        rcases hb0 with h | h
        · cases h
        · exact h
      clear h h3 hb0 hlen
      show Calls _ _ #[_, .slice _ 3 _] _ _
      go_enter Try.func23, Try.ntmps23
      go_wp2_with fail
      refine (meshOf_yes n (by omega) (by omega) _).mono ?_
      rintro e w1 ⟨rfl, hb1⟩
      have hz1 := hb1.size
      have d0 : w1.cell? ⟨b, 0, none⟩ = some (.int .i64 x) := (hb1.cell hbl).trans c0
      have d1 : w1.cell? ⟨b, 1, none⟩ = some (.int .i64 y) := (hb1.cell hbl).trans c1
      have d2 : w1.cell? ⟨b, 2, none⟩ = some (.int .i64 z) := (hb1.cell hbl).trans c2
      have hbw : b < w1.heap.size := by omega
      clear c0 c1 c2
      go_wp2_with fail
      go_region
      by_cases hOK : allB 0 n [x, y, z] = true ∧ x + y + z = n
      · obtain ⟨hA, hN⟩ := hOK
        have hr : (allB 0 n [x, y, z] && decide (x + y + z = n)) = true := by simp [hA, hN]
        have hsp := fun w' => hasSpot_any n x y z (by omega) w'
        rw [hr] at hsp
        have b0 : 0 ≤ x ∧ x ≤ n := allB_at hA 0 (by simp)
        have b2 : 0 ≤ z ∧ z ≤ n := allB_at hA 2 (by simp)
        obtain ⟨x0, x1⟩ := b0
        obtain ⟨z0, z1⟩ := b2
        have HA := Lib.hid hA
        have HN := Lib.hid hN
        have HSP := Lib.hid hsp
        clear hA hN hr hsp
        go_wp2_with fail
        refine (HSP.out _).mono ?_
        rintro e w3 ⟨rfl, hb3⟩
        have hz3 := hb3.size
        have e0 : w3.cell? ⟨w1.heap.size, 0, none⟩ = some (.int .i64 n) := (hb3.cell (by simp; omega)).trans (by go_simp)
        have e1 : w3.cell? ⟨w1.heap.size + 1, 0, none⟩ = some (.int .i64 x) := (hb3.cell (by simp)).trans (by go_simp)
        have e2 : w3.cell? ⟨w1.heap.size + 1, 1, none⟩ = some (.int .i64 y) := (hb3.cell (by simp)).trans (by go_simp)
        have e3 : w3.cell? ⟨w1.heap.size + 1, 2, none⟩ = some (.int .i64 z) := (hb3.cell (by simp)).trans (by go_simp)
        go_wp2_with fail
        refine (indexOf_any n x y z (by omega) x0 x1 z0 (by omega) _).mono ?_
        rintro e w4 ⟨rfl, hb4⟩
        go_wp2_with fail
        go_ret2
        exact ix_yes ⟨by omega, by omega, rfl, HA.out, HN.out⟩ (bnext (bnext (hb1.trans (by go_grown)) hb3) hb4)
      · have hr : (allB 0 n [x, y, z] && decide (x + y + z = n)) = false := by
          rw [Bool.eq_false_iff]
          intro h
          simp only [Bool.and_eq_true, decide_eq_true_eq] at h
          exact hOK h
        have hsp := fun w' => hasSpot_any n x y z (by omega) w'
        rw [hr] at hsp
        have HOK := Lib.hid hOK
        have HSP := Lib.hid hsp
        clear hOK hr hsp
        go_wp2_with fail
        refine (HSP.out _).mono ?_
        rintro e w3 ⟨rfl, hb3⟩
        go_wp2_with fail
        go_ret2
        exact ix_no (fun h => HOK.out ⟨h.2.2.2.1, h.2.2.2.2⟩) (bnext (hb1.trans (by go_grown)) hb3)
    · have hq : ((xs.length : Int) != 3) = true := by simp; omega
      have H3 := Lib.hid h3
      clear h h3
      go_enter Try.func23, Try.ntmps23
      go_wp2_with fail
      refine (meshOf_yes n (by omega) (by omega) _).mono ?_
      rintro e w1 ⟨rfl, hb1⟩
      go_wp2_with fail
      go_ret2
      exact ix_no (fun h => H3.out h.2.2.1) (balloc hb1 _)
  · have HS := Lib.hid hs
    clear h
    go_enter Try.func23, Try.ntmps23
    go_wp2_with fail
    refine (meshOf_no n HS.out _).mono ?_
    rintro e w1 ⟨rfl, hb1⟩
    go_wp2_with fail
    go_ret2
    exact ix_no (fun h => HS.out ⟨h.1, h.2.1⟩) (balloc hb1 _)
/-- A slice of numbers that came in: nil; or a row of cells, the first 'len' of them its elements. -/
def IsRow (w : World) (a : Option Addr) (len cap : Nat) (zs : List Int) : Prop :=
  (a = none ∧ len = 0 ∧ cap = 0 ∧ zs = []) ∨
  ∃ x, a = some x ∧ len ≤ cap ∧ cap ≤ maxLen ∧ zs.length = cap ∧ (∀ i, i < zs.length → w.cell? (x.add i) = some (.int .i64 (zs.getD i 0))) ∧ ∀ n ∈ zs, (Lit.int .i64 n).wf = true
theorem isRow_rd {w : World} {a : Option Addr} {len cap : Nat} {zs : List Int} (h : IsRow w a len cap zs) : (zs.take len).length = len ∧ ∃ b off, Rd w a b off (zs.take len) ∧ (len = 0 ∨ b < w.heap.size) := by
  rcases h with ⟨rfl, rfl, rfl, rfl⟩ | ⟨x, rfl, hl, hm, hz, hc, hw⟩
  · exact ⟨rfl, 0, 0, ⟨by simp [maxLen], fun j hj => by simp at hj⟩, .inl rfl⟩
  · have hlen : (zs.take len).length = len := by simp; omega
    refine ⟨hlen, x.block, x.off, ⟨by rw [hlen]; omega, fun j hj => ?_⟩, ?_⟩
    · rw [hlen] at hj
      have h1 := hc j (by omega)
      have hsp := World.cell?_spot (hc 0 (by omega))
      obtain ⟨b, off, spot⟩ := x
      have hspot : spot = none := by simpa [Addr.add] using hsp
      subst hspot
      refine ⟨rfl, ?_⟩
      rw [show (Addr.add ⟨b, off, none⟩ j : Addr) = ⟨b, off + j, none⟩ from Addr.add_lit ..] at h1
      rw [h1]
      simp [List.getD, hj]
    · by_cases h0 : len = 0
      · exact .inl h0
      · right
        have h1 := World.block_lt_of_cell? w _ (hc 0 (by omega))
        simpa [Addr.add] using h1
set_option maxHeartbeats 800000 in
theorem law_IndexOfPoint (n : Int) (a : Option Addr) (len cap : Nat) (zs : List Int) (w : World) (_ : (Lit.int .i64 n).wf = true) (hrow : IsRow w a len cap zs) :
    Calls Try.prog 6 #[.int .i64 n, .slice a len cap] w fun e w' => e = .returned (.bool true) ∧ Below w.heap.size w w' := by
  obtain ⟨hlen, b, off, hr, hbb⟩ := isRow_rd hrow
  generalize zs.take len = xs at hlen hr
  have hm := hr.1
  unfold maxLen at hm
  rw [hlen] at hm
  have HR := Lib.hid hr
  have HL := Lib.hid hlen
  clear hr hrow hlen
  by_cases hbig : (1048576 : Int) < (len : Int)
  · go_enter Try.func6, Try.ntmps6
    go_wp2_with fail
    go_ret
    exact ⟨rfl, Below.refl _ _⟩
  · have hsm : len ≤ 1048576 := by omega
    go_enter Try.func6, Try.ntmps6
    go_wp2_with fail
    refine (toIntS_any xs a b off len cap w HL.out HR.out hbb hsm).mono ?_
    rintro e w1 ⟨v1, rfl, ho1, hb1⟩
    obtain ⟨-, a1, c1, b1, rfl, hx1, hr1⟩ := own_shape ho1
    go_wp2_with fail
    refine (specIx n xs a1 b1 _ c1 w1 rfl (by rw [HL.out]; exact hsm) hr1).mono ?_
    rintro e w2 ⟨rfl, hb2⟩
    have hB2 := bnext hb1 hb2
    have hR2 : Rd w2 a b off xs := by
      refine ⟨HR.out.1, fun j hj => ⟨(HR.out.2 j hj).1, ?_⟩⟩
      rcases hbb with h | h
      · rw [HL.out, h] at hj; exact absurd hj (Nat.not_lt_zero _)
      · exact (hB2.cell h).trans (HR.out.2 j hj).2
    have hbb2 : len = 0 ∨ b < w2.heap.size := by
      rcases hbb with h | h
      · exact .inl h
      · exact .inr (by have := hB2.size; omega)
    have HR2 := Lib.hid hR2
    clear hR2 ho1 hr1 hb1 hb2
    go_wp2_with fail
    refine (toIntS_any xs a b off len cap w2 HL.out HR2.out hbb2 hsm).mono ?_
    rintro e w3 ⟨v3, rfl, ho3, hb3⟩
    obtain ⟨-, a3, c3, b3, rfl, hx3, hr3⟩ := own_shape ho3
    go_wp2_with fail
    refine (implIx n xs a3 b3 _ c3 w3 rfl (by rw [HL.out]; exact hsm) hr3 (by
      rcases hx3 with h | h
      · exact .inl h
      · exact .inr (own_lt ho3 b3 (by rw [h]; rfl)))).mono ?_
    rintro e w4 ⟨rfl, hb4⟩
    have hB4 := bnext (bnext hB2 hb3) hb4
    have ho4 := own_now ho3 hb4
    obtain ⟨-, a3', c3', b3', hv, hx3', hr4⟩ := own_shape ho4
    simp only [Value.slice.injEq] at hv
    obtain ⟨rfl, -, rfl⟩ := hv
    have hR4 : Rd w4 a b off xs := by
      refine ⟨HR.out.1, fun j hj => ⟨(HR.out.2 j hj).1, ?_⟩⟩
      rcases hbb with h | h
      · rw [HL.out, h] at hj; exact absurd hj (Nat.not_lt_zero _)
      · exact (hB4.cell h).trans (HR.out.2 j hj).2
    have hbb4 : len = 0 ∨ b < w4.heap.size := by
      rcases hbb with h | h
      · exact .inl h
      · exact .inr (by have := hB4.size; omega)
    have HR4 := Lib.hid hR4
    have hok : (ixOk n xs != ixOk n xs) = false := by simp
    have hat : (ixAt n xs != ixAt n xs) = false := by simp
    generalize ixOk n xs = ok at *
    generalize ixAt n xs = at' at *
    clear hR4 ho3 hr3 hb3 hb4
    go_wp2_with fail
    refine (toIntS_any xs a b off len cap w4 HL.out HR4.out hbb4 hsm).mono ?_
    rintro e w5 ⟨v5, rfl, ho5, hb5⟩
    obtain ⟨-, a5, c5, b5, rfl, hx5, hr5⟩ := own_shape ho5
    have hr45 : Rd w5 a3 b3' 0 xs := hr4.below hb5 (by
      rcases hx3' with h | h
      · exact .inl h
      · exact .inr (own_lt ho4 b3' (by rw [h]; rfl)))
    have hB5 := bnext hB4 hb5
    go_wp2_with fail
    refine (eqIntS_same xs a3 a5 b3' 0 b5 0 _ _ c3 c5 w5 rfl rfl hr45 hr5).mono ?_
    rintro e w6 ⟨rfl, hs6⟩
    have hB6 := below_same hB5 hs6
    go_wp2_with fail
    go_ret
    exact ⟨rfl, hB6⟩
end Go.Proofs.Ytngadmjpjpmeoaa
