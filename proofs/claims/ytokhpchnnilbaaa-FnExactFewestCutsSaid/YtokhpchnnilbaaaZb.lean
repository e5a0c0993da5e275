import Derived.Test.YtokhpchnnilbaaaZa
import Derived.ArgAppend
import Derived.Deep.Onto
namespace Go.Proofs.Ytokhpchnnilbaaa
open Go.RowKit
set_option maxRecDepth 4000
/-- Cells, three numbers each, that can be read. -/
def TRd (w : World) (a : Option Addr) (b : Nat) (xs : List Int) : Prop := ∀ j, j < xs.length → a = some ⟨b, 0, none⟩ ∧ w.cell? ⟨b, j, none⟩ = some (.int .i64 (xs.getD j 0))
theorem cells_shape {w : World} {base : Nat} {v : Value} {cs : List (List Int)} (h : CellsV w base v cs) : ∃ a n cap, v = .slice a n cap := by
  obtain ⟨vs, hvs, -, -⟩ := h
  rcases hvs.2 with ⟨h, -⟩ | ⟨g, cap, cur, h, -⟩
  · exact ⟨_, _, _, h⟩
  · exact ⟨_, _, _, h⟩
end Go.Proofs.Ytokhpchnnilbaaa

namespace Go.Proofs.Ytokhpchnnilbaaa
open Go.RowKit
set_option maxRecDepth 4000
/-- What a function does that answers a list of lists, and whether it succeeds. -/
def CGives (w : World) (cs : List (List Int)) (ok : Bool) (e : Ending) (w' : World) : Prop :=
  ∃ v, e = .returned (.tuple #[v, .bool ok]) ∧ CellsV w' w.heap.size v cs ∧ Below w.heap.size w w'
theorem cgives_none {w w' : World} (hb : Below w.heap.size w w') : CGives w [] false (.returned (.tuple #[.slice none 0 0, .bool false])) w' := ⟨_, rfl, cells_nil _ _, hb⟩
theorem Rd.drewN {w : World} {a : Option Addr} {b off : Nat} {xs : List Int} (h : Rd w a b off xs) (m : Nat) : Rd (w.drewN m) a b off xs := h.same ((Same.refl w).drewN m)
set_option maxHeartbeats 400000 in
theorem eqIntS_drew (xs : List Int) (a a' : Option Addr) (b off b' off' n n' cap cap' : Nat) (w : World) (hn : xs.length = n) (hn' : xs.length = n') (h : Rd w a b off xs) (h' : Rd w a' b' off' xs) :
    Calls Try.prog 21 #[.slice a n cap, .slice a' n' cap'] w fun e w' => e = .returned (.bool true) ∧ ∃ m, w' = w.drewN m := by
  subst hn hn'
  obtain ⟨hm, hc⟩ := h
  obtain ⟨_, hc'⟩ := h'
  unfold maxLen at hm
  have hne : ((xs.length : Int) != (xs.length : Int)) = false := by simp
  have HC := Lib.hid hc
  have HC' := Lib.hid hc'
  clear hc hc'
  go_enter Try.func21, Try.ntmps21
  go_wp2
  go_loopw [5] (fun v5 wr => ∃ k : Nat, k ≤ xs.length ∧ v5 = .int .i64 k ∧ ∃ m, wr = w.drewN m) (fun v5 _ => xs.length - (intOf v5).toNat)
  case atStart => exact ⟨0, Nat.zero_le _, rfl, 0, rfl⟩
  case round =>
    obtain ⟨k, hk, rfl, m, rfl⟩ := hrel
    by_cases hlt : k < xs.length
    · obtain ⟨ha, c⟩ := HC.out k hlt
      obtain ⟨ha', c'⟩ := HC'.out k hlt
      subst ha ha'
      have c1 : (w.drewN m).cell? ⟨b, off + k, none⟩ = some (.int .i64 (xs.getD k 0)) := c
      have c2 : (w.drewN m).cell? ⟨b', off' + k, none⟩ = some (.int .i64 (xs.getD k 0)) := c'
      have hi : (k : Int) < (xs.length : Int) := by omega
      have hne2 : (xs.getD k 0 != xs.getD k 0) = false := by simp
      obtain ⟨w0, hw0⟩ : ∃ w0, w0 = w.drewN m := ⟨_, rfl⟩
      rw [← hw0] at c1 c2 ⊢
      have HW := Lib.hid hw0
      clear c c' hw0
      go_wp2
      go_quiet (fail)
      go_wp2
      go_roundw
      case rel => exact ⟨k + 1, by omega, by go_num, _, by rw [HW.out, World.drewN_drewN]⟩
      case measure => simp [intOf]; omega
    · go_wp2
      go_ret
      exact ⟨rfl, m, rfl⟩
end Go.Proofs.Ytokhpchnnilbaaa
