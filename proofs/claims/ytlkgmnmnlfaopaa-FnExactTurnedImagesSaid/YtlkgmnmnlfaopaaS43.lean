import Derived.Test.YtlkgmnmnlfaopaaS34
namespace Go.Proofs.Ytlkgmnmnlfaopaa
open Go.RowKit
set_option maxRecDepth 4000
set_option maxHeartbeats 400000 in
theorem l1Own3 (x y z : Int) (b off cap : Nat) (w : World) (hb : b < w.heap.size) (c0 : w.cell? ⟨b, off, none⟩ = some (.int .i64 x)) (c1 : w.cell? ⟨b, off + 1, none⟩ = some (.int .i64 y)) (c2 : w.cell? ⟨b, off + 2, none⟩ = some (.int .i64 z)) :
    Calls Try.prog 88 #[.slice (some ⟨b, off, none⟩) 3 cap] w fun e w' => ∃ v, e = .returned v ∧ w'.ownsRow w.heap.size 3 1 v [x, y, z].length ([x, y, z].map (Value.int .i64)) ∧ Below w.heap.size w w' := by
  have hba := balloc (Below.refl w.heap.size w) (.cells #[] 3)
  have d0 := (hba.cell (p := ⟨b, off, none⟩) hb).trans c0
  have d1 := (hba.cell (p := ⟨b, off + 1, none⟩) hb).trans c1
  have d2 := (hba.cell (p := ⟨b, off + 2, none⟩) hb).trans c2
  have hO : (w.alloc (.cells #[] 3)).ownsRow w.heap.size 3 1 (.slice (some ⟨w.heap.size, 0, none⟩) 0 0) ([] : List Int).length (([] : List Int).map (Value.int .i64)) :=
    own_block (cap := 0) (xs := []) (Nat.le_refl _) (heap_alloc_new w _) rfl rfl (by simp [maxLen])
  have hz := hba.size
  clear c0 c1 c2
  go_enter Try.func88, Try.ntmps88
  go_wp2_with (at_builtin; refine append_three w.heap.size b off cap _ _ ([] : List Int) x y z rfl _ _ rfl rfl rfl d0 d1 d2 hO hz (by simp) ?_; intro v' w6 ho6 hb6)
  go_ret
  exact ⟨_, rfl, ho6, hba.trans hb6⟩
end Go.Proofs.Ytlkgmnmnlfaopaa
