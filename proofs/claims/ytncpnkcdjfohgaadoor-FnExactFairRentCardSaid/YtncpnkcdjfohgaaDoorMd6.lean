import Derived.Test.YtncpnkcdjfohgaaDoorMd4
import Derived.Test.YtncpnkcdjfohgaaDoorMb4
import Derived.Test.YtncpnkcdjfohgaaDoorMb5
namespace Go.Proofs.YtncpnkcdjfohgaaDoor
open Go.RowKit
set_option maxRecDepth 4000
theorem wof_bd {n i : Nat} {ts : List (List Int)} (h2 : n ≤ 8) (hi : i < Pr.cnt n) (hy : rowsB n 9 ts = true) : ∀ q, q < 9 → -1000 ≤ wof ts n i q ∧ wof ts n i q ≤ 1000 := fun q hq => by
  have := (wps_rows ts n i h2 hi hy).bd (q / 3) (by omega) (q % 3) (by omega)
  exact this
theorem wof_at (ts : List (List Int)) (n i p q : Nat) (hq : q < 3) : wof ts n i (3 * p + q) = worth (ts.getD p []) n i q := by
  rw [wof, show (3 * p + q) / 3 = p by omega, show (3 * p + q) % 3 = q by omega]
theorem ckTastes_yes' (n : Nat) (h1 : 1 ≤ n) (h2 : n ≤ 8) (ts : List (List Int)) (hy : rowsB n 9 ts = true) (a : Option Addr) (cap B : Nat) (w : World) (h : RdSS w B a ts) :
    Calls Tryd.prog 40 #[.int .i64 n, .slice a ts.length cap] w fun e w' => e = .returned (.bool true) ∧ w = w' := by
  have := ckTastes_side n h1 h2 ts a cap B w h
  rwa [hy] at this
/-- The worths at a point. -/
def wpt (ts : List (List Int)) (n i p q : Nat) : Int := worth (ts.getD p []) n i q
end Go.Proofs.YtncpnkcdjfohgaaDoor
