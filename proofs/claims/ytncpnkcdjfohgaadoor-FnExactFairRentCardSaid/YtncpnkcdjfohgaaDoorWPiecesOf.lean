import Derived.Test.YtncpnkcdjfohgaaDoorMb4
namespace Go.Proofs.YtncpnkcdjfohgaaDoor
open Go.RowKit
set_option maxRecDepth 4000
def OutPiecesOf (w : World) (r0 : List Int) (r1 : Bool) (e : Ending) (w' : World) : Prop := ∃ v0, e = .returned (.tuple #[v0, .bool r1]) ∧ OI w' w.heap.size w'.heap.size v0 r0 ∧ Below w.heap.size w w'
def okC (n : Int) (ts : List (List Int)) (i : Int) : Prop := tstB n ts = true ∧ Pr.okPt n i
def okP (p : Int) : Prop := 0 ≤ p ∧ p ≤ 2
theorem isPerson_yes (p : Int) (h : okP p) (w : World) : Calls Tryd.prog 70 #[.int .i64 p] w fun e w' => e = .returned (.bool true) ∧ w = w' := by
  obtain ⟨h1, h2⟩ := h
  have h3 : p < 3 := by omega
  go_enter Tryd.func70, Tryd.ntmps70
  go_wp2_with fail
  go_ret
  exact ⟨ret_bool (by simp <;> omega), rfl⟩
theorem isPerson_no (p : Int) (h : ¬ okP p) (w : World) : Calls Tryd.prog 70 #[.int .i64 p] w fun e w' => e = .returned (.bool false) ∧ w = w' := by
  by_cases h1 : 0 ≤ p
  · have h3 : ¬ p < 3 := fun h3 => h ⟨h1, by omega⟩
    clear h
    go_enter Tryd.func70, Tryd.ntmps70
    go_wp2_with fail
    go_ret
    exact ⟨ret_bool (by simp <;> omega), rfl⟩
  · clear h
    go_enter Tryd.func70, Tryd.ntmps70
    go_wp2_with fail
    go_ret
    exact ⟨ret_bool (by simp), rfl⟩
end Go.Proofs.YtncpnkcdjfohgaaDoor
