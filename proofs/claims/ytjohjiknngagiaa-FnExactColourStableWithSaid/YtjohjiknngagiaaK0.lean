import Derived.Test.YtjohjiknngagiaaZk
namespace Go.Proofs.Ytjohjiknngagiaa
open Go.RowKit
set_option maxRecDepth 4000
/-- How many of the items 0 to f - 1 are in a set. -/
def popF : Nat → Nat → Nat
  | 0, _ => 0
  | f + 1, s => s % 2 + popF f (s / 2)
def pop (s : Nat) : Nat := popF 8 s
def isK (k s : Nat) : Bool := decide (pop s = k)
def kS (n k : Nat) : List Nat := (List.range (2 ^ n)).filter (isK k)
def kI (n k : Nat) : List Int := (kS n k).map (fun (j : Nat) => (j : Int))
/-- knChoose's loop. -/
def chK (d : Nat) : Nat → Nat
  | 0 => 1
  | i + 1 => chK d i * (d + (i + 1)) / (i + 1)
def chs (n k : Nat) : Nat := if n < k then 0 else chK (n - k) k
theorem chK_bd : ∀ d, d < 9 → ∀ i, i < 9 → chK d i ≤ 12870 ∧ chK d i * (d + (i + 1)) ≤ 250000 := by decide +kernel
theorem kS_len : ∀ n, n < 9 → ∀ k, k < 9 → (kS n k).length = chs n k := by decide +kernel
theorem kS_deg : ∀ n, n < 9 → 1 ≤ n → ∀ k, k < 9 → 1 ≤ k → k ≤ n → ((kS n k).filter (fun s => decide ((kS n k).getD 0 0 &&& s = 0))).length = chs (n - k) k := by decide +kernel
/-- The least item. -/
def lsiF : Nat → Nat → Nat
  | 0, _ => 0
  | f + 1, s => if s % 2 = 1 then 0 else 1 + lsiF f (s / 2)
def lsi (s : Nat) : Nat := lsiF 8 s
def stb (n s : Nat) : Bool := (List.range n).all (fun i => !(decide ((i + 1) % n ≠ i) && s.testBit i && s.testBit ((i + 1) % n)))
def stbM (n k s : Nat) : Bool := decide (k = 1) || decide (s &&& ((s <<< 1) &&& (2 ^ n - 1) ||| s >>> (n - 1)) = 0)
theorem stb_eq : ∀ n, n < 9 → 1 ≤ n → ∀ s, s < 2 ^ n → ∀ k, k < 9 → pop s = k → stb n s = stbM n k s := by decide +kernel
def stS (n k : Nat) : List Nat := (kS n k).filter (stb n)
def cntSt (n k : Nat) : Nat := if k = 1 then n else if n < 2 * k then 0 else n * chs (n - k) k / (n - k)
theorem stS_len : ∀ n, n < 9 → 1 ≤ n → ∀ k, k < 9 → 1 ≤ k → k ≤ n → (stS n k).length = cntSt n k := by decide +kernel
end Go.Proofs.Ytjohjiknngagiaa
