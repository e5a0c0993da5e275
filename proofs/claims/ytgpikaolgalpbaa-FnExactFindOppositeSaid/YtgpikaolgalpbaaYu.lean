import Derived.Test.YtgpikaolgalpbaaYt
namespace Go.Proofs.Ytgpikaolgalpbaa
open Go.RowKit
set_option maxRecDepth 4000
/-- Labels without an opposite edge along the border. -/
def okTurns (n : Int) (xs : List Int) : Bool := sqB n xs && ((sqPs n.toNat).filter (sumB xs 0)).isEmpty
def valTurns (n : Int) (xs : List Int) : Int := if okTurns n xs then Int.tdiv (sT xs (sqPs n.toNat)) 4 else 0
def OutT (w : World) (x : Int) (ok : Bool) (e : Ending) (w' : World) : Prop := e = .returned (.tuple #[.int .i64 x, .bool ok]) ∧ Below w.heap.size w w'
theorem ret_ib {a c : Int} {b d : Bool} (h : a = c) (k : b = d) : Ending.returned (.tuple #[.int .i64 a, .bool b]) = .returned (.tuple #[.int .i64 c, .bool d]) := by rw [h, k]
theorem turns_no {n : Int} {xs : List Int} (h : sqB n xs = false) : okTurns n xs = false ∧ valTurns n xs = 0 := by
  have : okTurns n xs = false := by simp [okTurns, h]
  exact ⟨this, by simp [valTurns, this]⟩
theorem turns_yes {n : Nat} {xs : List Int} (h : sqB n xs = true) (k : (sqPs n).filter (sumB xs 0) = []) : okTurns n xs = true ∧ valTurns n xs = Int.tdiv (sT xs (sqPs n)) 4 := by
  have : okTurns n xs = true := by simp [okTurns, h, k]
  exact ⟨this, by simp [valTurns, this]⟩
theorem turns_opp {n : Nat} {xs : List Int} (k : (sqPs n).filter (sumB xs 0) ≠ []) : okTurns n xs = false ∧ valTurns n xs = 0 := by
  have : okTurns n xs = false := by
    unfold okTurns
    rw [Int.toNat_natCast]
    cases e : (sqPs n).filter (sumB xs 0) with
    | nil => exact absurd e k
    | cons a l => simp
  exact ⟨this, by simp [valTurns, this]⟩
set_option maxHeartbeats 1600000 in
theorem implSquareTurns (n : Int) (xs : List Int) (a : Option Addr) (b len cap : Nat) (w : World) (hn : xs.length = len) (hsm : len ≤ 1048576) (h : Rd w a b 0 xs) (hb0 : len = 0 ∨ b < w.heap.size) :
    Calls Try.prog 43 #[.int .i64 n, .slice a len cap] w (OutT w (valTurns n xs) (okTurns n xs)) := by
  cases hL : sqB n xs
  · have H1 := Lib.hid (turns_no hL)
    have HR := Lib.hid (lsqOf_no n xs a b len cap w hn h hb0 hsm hL)
    clear hL hn h hb0
    go_enter Try.func43, Try.ntmps43
    go_wp2_with fail
    refine HR.out.mono ?_
    rintro e w1 ⟨rfl, hb1⟩
    have hB1 := balloc hb1 (.cells lq0 69)
    unfold lq0 at hB1 ⊢
    go_wp2_with fail
    go_returns
    exact ⟨ret_ib H1.out.2.symm H1.out.1.symm, hB1⟩
  · have HR := Lib.hid (lsqOf_yes n xs a b len cap w hn h hb0 hsm hL)
    obtain ⟨n, rfl, h1, h2, hl, hA⟩ := sqB_nat hL
    have HOB := Lib.hid (fun W (hB : Below w.heap.size w W) => oppOnBorder_any n xs a b len cap W hn (h.later hn hb0 hB) (by have := hB.size; omega) hL)
    have HTU := Lib.hid (fun W (hB : Below w.heap.size w W) => turns_any n xs a b len cap W hn (h.later hn hb0 hB) (by have := hB.size; omega) hL)
    have HY := Lib.hid (@turns_yes n xs hL)
    have HN := Lib.hid (@turns_opp n xs)
    have HLE := Lib.hid (by have e := sqPs_len n; have := List.length_filter_le (sumB xs 0) (sqPs n); omega : ((sqPs n).filter (sumB xs 0)).length ≤ 32)
    have hg1 : ∀ w1 : World, (w1.alloc (.cells (lqA n a len cap) 69)).heap[w1.heap.size]? = some (.cells (lqA n a len cap) 69 (0, 0)) := fun w1 => heap_alloc_new w1 _
    have HG1 := Lib.hid hg1
    clear hL hn h hb0 hA hl hg1
    go_enter Try.func43, Try.ntmps43
    go_wp2_with fail
    refine HR.out.mono ?_
    rintro e w1 ⟨rfl, hb1⟩
    have hB1 := balloc hb1 (.cells (lqA n a len cap) 69)
    unfold lqA at hB1 ⊢
    go_wp2_with fail
    refine (HOB.out _ hB1).mono ?_
    rintro e w2 ⟨v, rfl, hp2, hb2⟩
    obtain ⟨pa, pc, pb, rfl, -⟩ := pair_shape hp2
    have hg2 := (hb2.block w1.heap.size (by simp)).trans (HG1.out w1)
    have q0 : w2.cell? ⟨w1.heap.size, 0, none⟩ = some (.int .i64 n) := cell_of_row _ _ _ _ _ (0, 0) hg2
    have q1 : w2.cell? ⟨w1.heap.size, 1, none⟩ = some (.iface 101 (.slice a len cap)) := cell_of_row _ _ _ _ _ (0, 0) hg2
    have hB2 := bnext hB1 hb2
    have hle := HLE.out
    clear hp2 hb2 hB1 hg2
    cases hF : (sqPs n).filter (sumB xs 0) with
    | nil =>
      have H1 := Lib.hid (HY.out hF)
      rw [List.length_nil]
      clear hF hle
      go_wp2_with fail
      refine (HTU.out _ hB2).mono ?_
      rintro e w3 ⟨rfl, hb3⟩
      go_wp2_with fail
      go_returns
      exact ⟨ret_ib H1.out.2.symm H1.out.1.symm, bnext hB2 hb3⟩
    | cons c l =>
      have H1 := Lib.hid (HN.out (by rw [hF]; exact List.cons_ne_nil _ _))
      rw [hF, List.length_cons] at hle
      rw [List.length_cons]
      clear hF
      generalize hm : l.length = m at hle ⊢
      clear hm
      have hpos : (0 : Int) < ((m + 1 : Nat) : Int) := by omega
      go_wp2_with fail
      go_returns
      exact ⟨ret_ib H1.out.2.symm H1.out.1.symm, hB2⟩
end Go.Proofs.Ytgpikaolgalpbaa
