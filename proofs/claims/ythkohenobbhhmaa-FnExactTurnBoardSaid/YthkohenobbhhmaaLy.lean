import Derived.Test.YthkohenobbhhmaaZa
import Derived.Shelf.Slices.Reverse
import Derived.Shelf.Slices.Clone
import Derived.Ground.Names2Prog
import Derived.Lib.OwnBridge
namespace Go.Proofs.Ythkohenobbhhmaa
open Go.RowKit
set_option maxRecDepth 4000
def renR : Go.Shelf.Ren := ⟨fun | 112 => 65 | n => n, fun | 28 => 22 | 3 => 3 | 4 => 4 | 0 => 0 | n => n, fun | n => n⟩
theorem laysR : Go.Proofs.Lays.n112 Try.prog renR := {
  mixed := by kernel_rfl
  f112 := Try.func65.trans (congrArg some (by kernel_rfl))
  t0 := Try.underlying0
  a0 := Try.isAgg0
  z0 := Try.sizeOf0
  v0 := Try.zeroValue0
  t3 := Try.underlying3
  a3 := Try.isAgg3
  z3 := Try.sizeOf3
  v3 := Try.zeroValue3
  t4 := Try.underlying4
  a4 := Try.isAgg4
  z4 := Try.sizeOf4
  v4 := Try.zeroValue4
  t28 := Try.underlying22
  a28 := Try.isAgg22
  z28 := Try.sizeOf22
  v28 := Try.zeroValue22 }
def renC : Go.Shelf.Ren := ⟨fun | 15 => 87 | n => n, fun | 22 => 22 | 3 => 3 | 4 => 4 | n => n, fun | n => n⟩
theorem laysC : Go.Proofs.Lays2.n15 Try.prog renC := {
  mixed := by kernel_rfl
  f15 := Try.func87.trans (congrArg some (by kernel_rfl))
  t3 := Try.underlying3
  a3 := Try.isAgg3
  z3 := Try.sizeOf3
  v3 := Try.zeroValue3
  t4 := Try.underlying4
  a4 := Try.isAgg4
  z4 := Try.sizeOf4
  v4 := Try.zeroValue4
  t22 := Try.underlying22
  a22 := Try.isAgg22
  z22 := Try.sizeOf22
  v22 := Try.zeroValue22
  i3 := by kernel_rfl }
theorem clone_rd (xs : List Int) (b off n c : Nat) (w : World) (hn : xs.length = n) (hs : n ≤ 1000) (hc : ∀ j, j < xs.length → w.cell? ⟨b, off + j, none⟩ = some (.int .i64 (xs.getD j 0))) :
    Calls Try.prog 87 #[.slice (some ⟨b, off, none⟩) n c] w fun e w' => ∃ v, e = .returned v ∧ w'.ownsRow w.heap.size 3 1 v n (xs.map (Value.int .i64)) ∧ v ≠ .slice none 0 0 ∧ Below w.heap.size w w' := by
  have h := Any.slices_Clone_int laysC b off n c xs w (by omega) (by omega) hc
  refine h.mono ?_
  rintro e w' ⟨v, he, ho, hv, hb⟩
  rw [← hn, List.take_length] at ho
  exact ⟨v, he, by rw [← hn]; exact ho, hv, hb⟩
/-- A slice of the call's own, turned round in place. -/
theorem reverse_own (xs : List Int) (base n : Nat) (v : Value) (w : World) (ho : w.ownsRow base 3 1 v n (xs.map (Value.int .i64))) (hv : v ≠ .slice none 0 0) (hs : n ≤ 1000) :
    Calls Try.prog 65 #[v] w fun e w' => e = .returned (.tuple #[]) ∧ w'.ownsRow base 3 1 v n (xs.reverse.map (Value.int .i64)) ∧ Below base w w' := by
  obtain ⟨g, cap, rfl, hg, hgl, hnc, hcm, hl, hH⟩ := Go.Lib.holds_of_ownsRow ho hv
  have h := Any.slices_Reverse_int laysR g 0 cap xs w hH (by omega)
  rw [hl] at h
  refine h.mono ?_
  rintro e w' ⟨he, q, rfl⟩
  refine ⟨he, ?_, Go.Lib.below_putRow (Below.refl _ _) hg⟩
  have := Go.Lib.ownsRow_putRow (q := q) (k := n) (ys := xs.reverse) ho (by simpa using hl) (Nat.le_refl _)
  rwa [List.take_of_length_le (by simp [hl])] at this
end Go.Proofs.Ythkohenobbhhmaa
