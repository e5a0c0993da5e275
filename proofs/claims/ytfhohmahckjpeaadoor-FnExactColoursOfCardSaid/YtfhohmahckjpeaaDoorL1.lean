import Derived.Test.YtfhohmahckjpeaaDoorK6b
import Derived.OpenVars
namespace Go.Proofs.YtfhohmahckjpeaaDoor
open Go.RowKit
set_option maxRecDepth 4000
/-- The table of math/bits by which the least bit is told. -/
def dbT : List Nat := [0, 1, 56, 2, 57, 49, 28, 3, 61, 58, 42, 50, 38, 29, 17, 4, 62, 47, 59, 36, 45, 43, 51, 22, 53, 39, 33, 30, 24, 18, 12, 5, 63, 55, 48, 27, 60, 41, 37, 16, 46, 35, 44, 21, 52, 32, 23, 11, 54, 26, 40, 15, 34, 20, 31, 10, 25, 14, 19, 9, 13, 8, 7, 6]
def DbV (w : World) : Prop := (∀ j, j < 64 → w.cell? ⟨1, j, none⟩ = some (.int .u8 (dbT.getD j 0 : Nat))) ∧ 1 < w.heap.size
theorem DbV_later {w w' : World} (h : DbV w) (hb : Below w.heap.size w w') : DbV w' := by
  obtain ⟨h1, h2⟩ := h
  exact ⟨fun j hj => (hb.cell (p := ⟨1, j, none⟩) h2).trans (h1 j hj), by have := hb.size; omega⟩
def ixT : List Nat := [0, 1, 3, 7, 15, 31, 63, 62]
theorem trail_all : ∀ s : Nat, s < 256 → 0 < s → (IntKind.u64.wrap (bits BinOp.and IntKind.u64 (s : Int) (IntKind.u64.wrap (-(s : Int))) * 285870213051353865) / 288230376151711744) = ((ixT.getD (lsi s) 0 : Nat) : Int) := by decide +kernel
theorem ix_all : ∀ q, q < 8 → ixT.getD q 0 < 64 ∧ dbT.getD (ixT.getD q 0) 0 = q := by decide
theorem lsi_lt : ∀ s : Nat, s < 256 → 0 < s → lsi s < 8 := by decide +kernel
set_option maxHeartbeats 1600000 in
theorem trail64_any (s : Nat) (h0 : 0 < s) (hs : s < 256) (w : World) (hv : DbV w) :
    Calls Tryd.prog 28 #[.int .u64 s] w fun e w' => e = .returned (.int .i64 (lsi s : Nat)) ∧ w = w' := by
  have hb : ((s : Int) == 0) = false := by simp; omega
  have hE := trail_all s hs h0
  have hl : lsi s < 8 := lsi_lt s hs h0
  obtain ⟨hj, hT⟩ := ix_all (lsi s) hl
  have hc := hv.1 _ hj
  rw [hT] at hc
  clear hv hT
  generalize ixT.getD (lsi s) 0 = j at *
  generalize lsi s = q at *
  go_enter Tryd.func28, Tryd.ntmps28
  go_wp2_with fail
  go_ret
  exact ⟨ret_int (by first | rfl | simp | omega), rfl⟩
set_option maxHeartbeats 400000 in
theorem trail_any (s : Nat) (h0 : 0 < s) (hs : s < 256) (w : World) (hv : DbV w) :
    Calls Tryd.prog 23 #[.int .u64 s] w fun e w' => e = .returned (.int .i64 (lsi s : Nat)) ∧ w = w' := by
  have HT := Lib.hid (trail64_any s h0 hs w hv)
  clear hv
  go_enter Tryd.func23, Tryd.ntmps23
  go_wp2_with fail
  refine HT.out.mono ?_
  rintro e w' ⟨rfl, rfl⟩
  go_wp2_with fail
  go_ret
  exact ⟨rfl, rfl⟩
set_option maxHeartbeats 400000 in
theorem least_any8 (s : Nat) (h0 : 0 < s) (hs : s < 256) (w : World) (hv : DbV w) :
    Calls Tryd.prog 20 #[.int .i64 s] w fun e w' => e = .returned (.int .i64 (lsi s : Nat)) ∧ w = w' := by
  have h : IntKind.u64.wrap (s : Int) = (s : Int) := by
    clear h0; revert s; decide +kernel
  have HT := Lib.hid (trail_any s h0 hs w hv)
  clear hv
  go_enter Tryd.func20, Tryd.ntmps20
  go_wp2_with fail
  refine HT.out.mono ?_
  rintro e w' ⟨rfl, rfl⟩
  go_wp2_with fail
  go_ret
  exact ⟨rfl, rfl⟩
end Go.Proofs.YtfhohmahckjpeaaDoor
