import Derived.Test.YtelchpdlfedleaaCs
import Derived.LoopN
import Derived.BigRegion
namespace Go.Proofs.Ytelchpdlfedleaa
open Go.RowKit
set_option maxRecDepth 4000
/-- Nine numbers as the program keeps them. -/
def nineA (a b c d e f g h i : Int) : Array Value := #[.int .i64 a, .int .i64 b, .int .i64 c, .int .i64 d, .int .i64 e, .int .i64 f, .int .i64 g, .int .i64 h, .int .i64 i]
theorem eqSpot (a b c d e f : Int) (w : World) : (Op.equalIn 10000 50 (.agg #[.int .i64 a, .int .i64 b, .int .i64 c]) (.agg #[.int .i64 d, .int .i64 e, .int .i64 f])).run Try.prog w = .ok (a == d && (b == e && c == f)) w := by
  have u3 := Try.underlying3
  have a3 := Try.isAgg3
  have z3 := Try.sizeOf3
  rw [show (10000 : Nat) = 9999 + 1 from rfl, Op.equalIn]
  simp only [Sem.run_bind, run_underlying Try.underlying50, Result.andThen_ok]
  simp only [Std.Legacy.Range.forIn_eq_forIn_range', Std.Legacy.Range.size, Nat.sub_zero, Nat.add_sub_cancel, Nat.div_one, List.range'_succ, List.range'_zero, List.forIn_cons, List.forIn_nil]
  go_simp
  by_cases h1 : a = d <;> by_cases h2 : b = e <;> by_cases h3 : c = f <;> simp [h1, h2, h3]
/-- Whether the cell is an up cell, as the program asks it. -/
def upI (n p q r : Nat) : Bool :=
  ((n : Int) - (Pr.R p : Nat) - 1 == (n : Int) - (Pr.R q : Nat) && ((Pr.R p : Int) - (Pr.C p : Nat) == (Pr.R q : Int) - (Pr.C q : Nat) - 1 && ((Pr.C p : Nat) : Int) == ((Pr.C q : Nat) : Int))) &&
  ((n : Int) - (Pr.R q : Nat) == (n : Int) - (Pr.R r : Nat) && ((Pr.R q : Int) - (Pr.C q : Nat) - 1 == (Pr.R r : Int) - (Pr.C r : Nat) && ((Pr.C q : Nat) : Int) == ((Pr.C r : Nat) : Int) - 1))
end Go.Proofs.Ytelchpdlfedleaa
