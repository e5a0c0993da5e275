import Derived.Test.YtelchpdlfedleaaGe
namespace Go.Proofs.Ytelchpdlfedleaa
open Go.RowKit
set_option maxRecDepth 4000
set_option maxHeartbeats 800000 in
theorem walkLast_any (r : Array Value) (pv : Value) (u v : Int) (f : Bool) (base : Nat) (pre : List Nat) (l : Nat) (w : World) (hsz : r.size = 3) (ho : w.ownsRow base 3 1 pv (ints (pre ++ [l])).length ((ints (pre ++ [l])).map (Value.int .i64))) (hl : pre.length ≤ 1000) :
    Calls Try.prog 98 #[.agg (wkA r pv u v f)] w fun e w' => e = .returned (.int .i64 l) ∧ Below w.heap.size w w' := by
  obtain ⟨-, pa, pc, pb, rfl, hx, hr⟩ := own_shape ho
  have HIL := Lib.hid (ints_lastlen pre l)
  have HLA := Lib.hid (ints_last pre l)
  obtain ⟨rfl, c0⟩ := hr.2 pre.length (by rw [HIL.out]; omega)
  rw [HLA.out, Nat.zero_add] at c0
  have hpb := own_lt ho pb rfl
  have hB := balloc (Below.refl w.heap.size w) (.cells (wkA r (.slice (some ⟨pb, 0, none⟩) (ints (pre ++ [l])).length pc) u v f) 123)
  have q3 := blk_cell (heap_alloc_new w (.cells (wkA r (.slice (some ⟨pb, 0, none⟩) (ints (pre ++ [l])).length pc) u v f) 123)) 3 _ (wk_at hsz _ _ _ _ 0)
  have c1 := (hB.cell (p := ⟨pb, pre.length, none⟩) hpb).trans c0
  have hsub : wrap64 (((ints (pre ++ [l])).length : Int) - 1) = (pre.length : Int) := by
    rw [HIL.out, IntWalk.wrap64_in _ ⟨by omega, by omega⟩]
    omega
  have hpi : (pre.length : Int) < ((ints (pre ++ [l])).length : Int) := by rw [HIL.out]; omega
  clear hr hx ho c0
  generalize (ints (pre ++ [l])).length = m at hB q3 c1 hsub hpi ⊢
  go_enter Try.func98, Try.ntmps98
  go_wp2_with fail
  go_ret
  exact ⟨rfl, hB⟩
end Go.Proofs.Ytelchpdlfedleaa
