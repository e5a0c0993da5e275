import Derived.Test.YtgpikaolgalpbaaCq
import Derived.Test.YtgpikaolgalpbaaZa
import Derived.Test.YtgpikaolgalpbaaZb
namespace Go.Proofs.Ytgpikaolgalpbaa
open Go.RowKit
set_option maxRecDepth 4000
/-- Whether the cell k has both points. -/
def withB (cs : List (List Int)) (i j : Int) (k : Nat) : Bool := hasB (cs.getD k []) i && hasB (cs.getD k []) j
set_option maxHeartbeats 800000 in
theorem meWith_any (cs : List (List Int)) (i j : Int) (a : Option Addr) (base n cap : Nat) (w : World) (hc : CellsV w base (.slice a n cap) cs) (hl : cs.length ≤ 1000) :
    Calls Try.prog 100 #[.slice a n cap, .int .i64 i, .int .i64 j] w fun e w' => ∃ v, e = .returned v ∧ w'.ownsRow w.heap.size 3 1 v (flt (withB cs i j) cs.length).length ((flt (withB cs i j) cs.length).map (Value.int .i64)) ∧ Below w.heap.size w w' := by
  obtain ⟨rfl, -, hrows⟩ := cells_row hc
  have HR := Lib.hid hrows
  clear hrows hc
  go_enter Try.func100, Try.ntmps100
  go_wp2_with fail
  go_loopw [7, 12] (fun v7 v12 wr => ∃ k : Nat, k ≤ cs.length ∧ v12 = .int .i64 k ∧ wr.ownsRow w.heap.size 3 1 v7 (flt (withB cs i j) k).length ((flt (withB cs i j) k).map (Value.int .i64)) ∧ Below w.heap.size w wr) (fun _ v12 _ => cs.length - (intOf v12).toNat)
  case atStart => exact ⟨0, Nat.zero_le _, rfl, World.ownsRow_nil _ _ _ _, Below.refl _ _⟩
  case round =>
    obtain ⟨k, hk, rfl, ho, hb⟩ := hrel
    have hfl := flt_len (withB cs i j) k
    by_cases hlt : k < cs.length
    · obtain ⟨g, ra, rc, rb, rfl, -, hgl, c1, hx, hr, -, -⟩ := HR.out k hlt
      have c1 := (hb.cell (p := ⟨g, k, none⟩) hgl).trans c1
      have hr1 := hr.below hb (hx.imp_right fun h => h.2.1)
      have HW : Hid (withB cs i j k = (hasB (cs.getD k []) i && hasB (cs.getD k []) j)) := rfl
      have hz := hb.size
      have hi : (k : Int) < (cs.length : Int) := by omega
      have HY := Lib.hid (flt_yes (withB cs i j) k)
      have HN := Lib.hid (flt_no (withB cs i j) k)
      generalize cs.getD k [] = c at c1 hr1 HW
      clear hr hx
      go_wp2_with fail
      refine (l1Has_any c i ra rb 0 _ rc _ rfl hr1).mono ?_
      rintro e w' ⟨rfl, rfl⟩
      cases h1 : hasB c i
      · have e := Lib.hid (HN.out (by rw [HW.out, h1]; rfl))
        clear h1
        go_wp2_with fail
        go_roundw
        case rel => exact ⟨k + 1, by omega, by go_num, by rw [e.out]; exact ho, hb⟩
        case measure => simp [intOf]; omega
      · have H1 := Lib.hid h1
        clear h1
        go_wp2_with fail
        refine (l1Has_any c j ra rb 0 _ rc _ rfl hr1).mono ?_
        rintro e w' ⟨rfl, rfl⟩
        cases h2 : hasB c j
        · have e := Lib.hid (HN.out (by rw [HW.out, H1.out, h2]; rfl))
          clear h2
          go_wp2_with fail
          go_roundw
          case rel => exact ⟨k + 1, by omega, by go_num, by rw [e.out]; exact ho, hb⟩
          case measure => simp [intOf]; omega
        · have e := Lib.hid (HY.out (by rw [HW.out, H1.out, h2]; rfl))
          clear h2
          go_wp2_with (at_builtin; refine append_int w.heap.size _ _ (flt (withB cs i j) k) _ rfl _ _ rfl rfl rfl ho hz (by omega) ?_; intro v' w3 ho3 hb3)
          go_roundw
          case rel => exact ⟨k + 1, by omega, by go_num, by rw [e.out]; exact ho3, hb.trans hb3⟩
          case measure => simp [intOf]; omega
    · have hk2 : k = cs.length := by omega
      subst hk2
      go_wp2_with fail
      obtain ⟨-, a', c', b', rfl, -, -⟩ := own_shape ho
      go_ret
      exact ⟨_, rfl, ho, hb⟩
end Go.Proofs.Ytgpikaolgalpbaa
