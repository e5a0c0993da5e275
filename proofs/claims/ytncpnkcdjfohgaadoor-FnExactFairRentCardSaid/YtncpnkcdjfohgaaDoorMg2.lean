import Derived.Test.YtncpnkcdjfohgaaDoorMg0
import Derived.Test.YtncpnkcdjfohgaaDoorMd3
import Derived.Test.YtncpnkcdjfohgaaDoorMd5
namespace Go.Proofs.YtncpnkcdjfohgaaDoor
open Go.RowKit
set_option maxRecDepth 4000
theorem blkDeal : Blk 60 5 := ⟨.inl ⟨_, Tryd.underlying60⟩, by kernel_rfl⟩
def zeroD : Array Value := #[.int .i64 0, .int .i64 0, .int .i64 0, .int .i64 0, .int .i64 0]
theorem zeroD_size : zeroD.size = 5 := rfl
theorem zeroD_one : zeroD.all (·.oneCell') = true := by simp [zeroD, Value.oneCell']
def maxD : Array Value := #[.int .i64 0, .int .i64 0, .int .i64 0, .int .i64 0, .int .i64 9223372036854775807]
/-- A deal as it lies in memory. -/
def dA (i k : Nat) (e : Int) : Array Value := #[.int .i64 i, .int .i64 (shn (3 * k)), .int .i64 (shn (3 * k + 1)), .int .i64 (shn (3 * k + 2)), .int .i64 e]
theorem dA_size (i k : Nat) (e : Int) : (dA i k e).size = 5 := rfl
theorem dA_one (i k : Nat) (e : Int) : (dA i k e).all (·.oneCell') = true := by simp [dA, Value.oneCell']
theorem run_alloc_deal (w : World) : (Instr.alloc 60 true (.tuple #[])).run Tryd.prog w = .ok (.pointer (some ⟨w.heap.size, 0, none⟩)) (w.alloc (.cells zeroD 60)) := by kernel_rfl
theorem run_build_max (w : World) : (Instr.build 60 #[(2, .int .i64 9223372036854775807)]).run Tryd.prog w = .ok (.agg maxD) w := by kernel_rfl
theorem run_build_deal (i k : Nat) (e : Int) (w : World) : (Instr.build 60 #[(0, .int .i64 i), (1, .agg (shA k)), (2, .int .i64 e)]).run Tryd.prog w = .ok (.agg (dA i k e)) w := by kernel_rfl
/-- How the search for the least deal stands in its variable. -/
def DI (f : Nat → Int) (M : Nat) (cs : Array Value) (l : Int) : Prop := (M = 0 ∧ cs = maxD ∧ l = 9223372036854775807) ∨ ∃ j, IsB f M j ∧ cs = dA (j / 6) (j % 6) (-(f j)) ∧ l = -(f j)
theorem DI.size {f : Nat → Int} {M : Nat} {cs : Array Value} {l : Int} (h : DI f M cs l) : cs.size = 5 := by
  rcases h with ⟨-, rfl, -⟩ | ⟨j, -, rfl, -⟩ <;> rfl
theorem DI.least {f : Nat → Int} {M : Nat} {cs : Array Value} {l : Int} (h : DI f M cs l) : cs[4]? = some (.int .i64 l) := by
  rcases h with ⟨-, rfl, rfl⟩ | ⟨j, -, rfl, rfl⟩ <;> rfl
theorem DI.up {f : Nat → Int} {M : Nat} {cs : Array Value} {l e : Int} (h : DI f M cs l) (he : e = -(f M)) (hc : e < l) : DI f (M + 1) (dA (M / 6) (M % 6) e) e := by
  rcases h with ⟨rfl, -, -⟩ | ⟨j, h1, h2, h3⟩
  · exact .inr ⟨0, IsB.one f, by rw [he], he⟩
  · have hs := h1.step
    rw [if_pos (by omega)] at hs
    exact .inr ⟨M, hs, by rw [he], he⟩
theorem DI.stay {f : Nat → Int} {M : Nat} {cs : Array Value} {l e : Int} (h : DI f M cs l) (he : e = -(f M)) (h2 : e ≤ 2000) (hc : ¬ e < l) : DI f (M + 1) cs l := by
  rcases h with ⟨-, -, h⟩ | ⟨j, h1, h2, h3⟩
  · omega
  · have hs := h1.step
    rw [if_neg (by omega)] at hs
    exact .inr ⟨j, hs, h2, h3⟩
theorem DI.done {f : Nat → Int} {M j : Nat} {cs : Array Value} {l : Int} (h : DI f M cs l) (hj : IsB f M j) : cs = dA (j / 6) (j % 6) (-(f j)) := by
  rcases h with ⟨rfl, -⟩ | ⟨j', h1, h2, -⟩
  · exact absurd hj.1 (by omega)
  · obtain rfl := h1.uniq hj
    exact h2
end Go.Proofs.YtncpnkcdjfohgaaDoor
