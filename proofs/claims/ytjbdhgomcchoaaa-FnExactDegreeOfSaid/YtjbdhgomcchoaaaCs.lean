import Derived.Test.YtjbdhgomcchoaaaCq
import Derived.Test.YtjbdhgomcchoaaaCr
import Derived.Test.YtjbdhgomcchoaaaFl
namespace Go.Proofs.Ytjbdhgomcchoaaa
open Go.RowKit
/-- Whether the cell k has both points. -/
def withB (cs : List (List Int)) (i j : Int) (k : Nat) : Bool := hasB (cs.getD k []) i && hasB (cs.getD k []) j
set_option maxHeartbeats 800000 in
theorem meWith_any (cs : List (List Int)) (i j : Int) (a : Option Addr) (base n cap : Nat) (w : World) (hc : CellsV w base (.slice a n cap) cs) (hl : cs.length ≤ 1000) :
    Calls Try.prog 53 #[.slice a n cap, .int .i64 i, .int .i64 j] w fun e w' => ∃ v, e = .returned v ∧ w'.ownsRow w.heap.size 3 1 v (flt (withB cs i j) cs.length).length ((flt (withB cs i j) cs.length).map (Value.int .i64)) ∧ Below w.heap.size w w' := by
  obtain ⟨rfl, -, hrows⟩ := cells_row hc
  have HR := Lib.hid hrows
  clear hrows hc
  go_enter Try.func53, Try.ntmps53
  go_wp2_with fail
  go_loopw [7, 12] (fun v7 v12 wr => ∃ k : Nat, k ≤ cs.length ∧ v12 = .int .i64 k ∧ wr.ownsRow w.heap.size 3 1 v7 (flt (withB cs i j) k).length ((flt (withB cs i j) k).map (Value.int .i64)) ∧ Below w.heap.size w wr) (fun _ v12 _ => cs.length - (intOf v12).toNat)
  case atStart => exact ⟨0, Nat.zero_le _, rfl, World.ownsRow_nil _ _ _ _, Below.refl _ _⟩
  case round =>
    obtain ⟨k, hk, rfl, ho, hb⟩ := hrel
    have hfl := flt_len (withB cs i j) k
    by_cases hlt : k < cs.length
    · obtain ⟨g, ra, rc, rb, rfl, -, hgl, c1, hx, hr, -, -⟩ := HR.out k hlt
      have c1 := (hb.cell (p := ⟨g, k, none⟩) hgl).trans c1
      have hr1 := hr.below hb (hx.imp_right fun h => h.2.1)
      have HW : Hid (withB cs i j k = (hasB (cs.getD k []) i && hasB (cs.getD k []) j)) := rfl
      have hz := hb.size
      have hi : (k : Int) < (cs.length : Int) := by omega
      have HY := Lib.hid (flt_yes (withB cs i j) k)
      have HN := Lib.hid (flt_no (withB cs i j) k)
      generalize cs.getD k [] = c at c1 hr1 HW
      clear hr hx
      go_wp2_with fail
      refine (l1Has_any c i ra rb 0 _ rc _ rfl hr1).mono ?_
      rintro e w' ⟨rfl, rfl⟩
      cases h1 : hasB c i
      · have e := Lib.hid (HN.out (by rw [HW.out, h1]; rfl))
        clear h1
        go_wp2_with fail
        go_roundw
        case rel => exact ⟨k + 1, by omega, by go_num, by rw [e.out]; exact ho, hb⟩
        case measure => simp [intOf]; omega
      · have H1 := Lib.hid h1
        clear h1
        go_wp2_with fail
        refine (l1Has_any c j ra rb 0 _ rc _ rfl hr1).mono ?_
        rintro e w' ⟨rfl, rfl⟩
        cases h2 : hasB c j
        · have e := Lib.hid (HN.out (by rw [HW.out, H1.out, h2]; rfl))
          clear h2
          go_wp2_with fail
          go_roundw
          case rel => exact ⟨k + 1, by omega, by go_num, by rw [e.out]; exact ho, hb⟩
          case measure => simp [intOf]; omega
        · have e := Lib.hid (HY.out (by rw [HW.out, H1.out, h2]; rfl))
          clear h2
          go_wp2_with (at_builtin; refine append_int w.heap.size _ _ (flt (withB cs i j) k) _ rfl _ _ rfl rfl rfl ho hz (by omega) ?_; intro v' w3 ho3 hb3)
          go_roundw
          case rel => exact ⟨k + 1, by omega, by go_num, by rw [e.out]; exact ho3, hb.trans hb3⟩
          case measure => simp [intOf]; omega
    · have hk2 : k = cs.length := by omega
      subst hk2
      go_wp2_with fail
      obtain ⟨-, a', c', b', rfl, -, -⟩ := own_shape ho
      go_ret
      exact ⟨_, rfl, ho, hb⟩
theorem ci_bd (n : Nat) (h2 : n ≤ 8) : (ci n).length ≤ 1000 := by
  have hcl := ci_len n
  have : 2 * n * (n + 1) ≤ 16 * 9 := Nat.mul_le_mul (by omega) (by omega)
  omega
set_option maxHeartbeats 400000 in
theorem specCellsWith_yes (n i j : Nat) (h1 : 1 ≤ n) (h2 : n ≤ 8) (hi : i < Pr.cnt n) (hj : j < Pr.cnt n) (hN : nearB (pt n i) (pt n j) = true) (w : World) :
    Calls Try.prog 20 #[.int .i64 n, .int .i64 i, .int .i64 j] w (Gives w 3 (flt (withB (ci n) i j) (ci n).length) true) := by
  have he := Lib.hid (ci_eq n (by omega) h1)
  have hcc := (Pr.cnt_le n (by omega)).1
  go_enter Try.func20, Try.ntmps20
  go_wp2_with fail
  refine (mePoint_yes n i h1 h2 hi _).mono ?_
  rintro e w1 ⟨rfl, rfl⟩
  go_wp2_with fail
  refine (mePoint_yes n j h1 h2 hj _).mono ?_
  rintro e w1 ⟨rfl, rfl⟩
  go_wp2_with fail
  refine (meNear_any n i j h1 h2 (by omega) (by omega) _).mono ?_
  rintro e w1 ⟨rfl, hb1⟩
  rw [hN]
  go_wp2_with fail
  refine (meCells_any n h1 h2 _).mono ?_
  rintro e w2 ⟨v, rfl, hc, hb2⟩
  rw [← he.out] at hc
  obtain ⟨a, m, c, rfl⟩ := cells_shape hc
  go_wp2_with fail
  refine (meWith_any (ci n) i j a _ m c _ hc (ci_bd n h2)).mono ?_
  rintro e w3 ⟨v, rfl, ho, hb3⟩
  obtain ⟨-, a', c', b', rfl, -, -⟩ := own_shape ho
  have hB2 := bnext hb1 hb2
  go_wp2_with fail
  go_ret2
  exact ⟨_, rfl, own_base ho hB2.size, bnext hB2 hb3⟩
set_option maxHeartbeats 800000 in
theorem specCellsWith_no (n i j : Int) (h : ∀ n' i' j' : Nat, n = n' → i = i' → j = j' → 1 ≤ n' → n' ≤ 8 → i' < Pr.cnt n' → j' < Pr.cnt n' → nearB (pt n' i') (pt n' j') = false) (w : World) :
    Calls Try.prog 20 #[.int .i64 n, .int .i64 i, .int .i64 j] w (Gives w 3 [] false) := by
  by_cases hpi : Pr.okPt n i
  · obtain ⟨h1, h2, h3, h4⟩ := hpi
    obtain ⟨n, rfl⟩ := Int.eq_ofNat_of_zero_le (show 0 ≤ n by omega)
    obtain ⟨i, rfl⟩ := Int.eq_ofNat_of_zero_le h3
    simp only [Int.toNat_natCast] at h4
    have h1 : 1 ≤ n := by omega
    have h2 : n ≤ 8 := by omega
    have hi : i < Pr.cnt n := by omega
    have hcc := (Pr.cnt_le n (by omega)).1
    by_cases hpj : Pr.okPt n j
    · obtain ⟨-, -, h5, h6⟩ := hpj
      obtain ⟨j, rfl⟩ := Int.eq_ofNat_of_zero_le h5
      simp only [Int.toNat_natCast] at h6
      have hj : j < Pr.cnt n := by omega
      have hN := Lib.hid (h n i j rfl rfl rfl h1 h2 hi hj)
      clear h
      go_enter Try.func20, Try.ntmps20
      go_wp2_with fail
      refine (mePoint_yes n i h1 h2 hi _).mono ?_
      rintro e w1 ⟨rfl, rfl⟩
      go_wp2_with fail
      refine (mePoint_yes n j h1 h2 hj _).mono ?_
      rintro e w1 ⟨rfl, rfl⟩
      go_wp2_with fail
      refine (meNear_any n i j h1 h2 (by omega) (by omega) _).mono ?_
      rintro e w1 ⟨rfl, hb1⟩
      rw [hN.out]
      go_wp2_with fail
      go_ret2
      exact gives_none hb1
    · clear h
      go_enter Try.func20, Try.ntmps20
      go_wp2_with fail
      refine (mePoint_yes n i h1 h2 hi _).mono ?_
      rintro e w1 ⟨rfl, rfl⟩
      go_wp2_with fail
      refine (mePoint_no n j hpj _).mono ?_
      rintro e w1 ⟨rfl, rfl⟩
      go_wp2_with fail
      go_ret2
      exact gives_none (Below.refl _ _)
  · clear h
    go_enter Try.func20, Try.ntmps20
    go_wp2_with fail
    refine (mePoint_no n i hpi _).mono ?_
    rintro e w1 ⟨rfl, rfl⟩
    go_wp2_with fail
    go_ret2
    exact gives_none (Below.refl _ _)
end Go.Proofs.Ytjbdhgomcchoaaa
