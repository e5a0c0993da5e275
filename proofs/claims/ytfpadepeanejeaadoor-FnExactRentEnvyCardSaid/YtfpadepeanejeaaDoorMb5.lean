import Derived.Test.YtfpadepeanejeaaDoorWPiecesOf
import Derived.Test.YtfpadepeanejeaaDoorMd5
namespace Go.Proofs.YtfpadepeanejeaaDoor
open Go.RowKit
set_option maxRecDepth 4000
theorem idxOff (ts : List (List Int)) (n i p : Nat) (hp : p < 3) (w : World) : (Instr.index 56 (.agg (offA ts n i)) (.int .i64 p)).run Tryd.prog w = .ok (.agg #[.int .i64 (worth (ts.getD p []) n i 0), .int .i64 (worth (ts.getD p []) n i 1), .int .i64 (worth (ts.getD p []) n i 2)]) w := by
  rcases (show p = 0 ∨ p = 1 ∨ p = 2 by omega) with rfl | rfl | rfl
  · exact (show (Instr.index 56 (.agg (offA ts n i)) (.int .i64 0)).run Tryd.prog w = .ok (.agg #[.int .i64 (worth (ts.getD 0 []) n i 0), .int .i64 (worth (ts.getD 0 []) n i 1), .int .i64 (worth (ts.getD 0 []) n i 2)]) w by kernel_rfl)
  · exact (show (Instr.index 56 (.agg (offA ts n i)) (.int .i64 1)).run Tryd.prog w = .ok (.agg #[.int .i64 (worth (ts.getD 1 []) n i 0), .int .i64 (worth (ts.getD 1 []) n i 1), .int .i64 (worth (ts.getD 1 []) n i 2)]) w by kernel_rfl)
  · exact (show (Instr.index 56 (.agg (offA ts n i)) (.int .i64 2)).run Tryd.prog w = .ok (.agg #[.int .i64 (worth (ts.getD 2 []) n i 0), .int .i64 (worth (ts.getD 2 []) n i 1), .int .i64 (worth (ts.getD 2 []) n i 2)]) w by kernel_rfl)
set_option maxHeartbeats 800000 in
theorem cutOf_fail (n i : Int) (ts : List (List Int)) (hno : ¬ okC n ts i) (a : Option Addr) (cap : Nat) (w : World) (h : RdSS w w.heap.size a ts) :
    Calls Tryd.prog 29 #[.int .i64 n, .slice a ts.length cap, .int .i64 i] w fun e w' => e = .returned (.tuple #[.agg zeroC, .agg zeroS, .bool false]) ∧ Below w.heap.size w w' := by
  by_cases hn : 1 ≤ n ∧ n ≤ 8
  · obtain ⟨n, rfl⟩ := Int.eq_ofNat_of_zero_le (show 0 ≤ n by omega)
    have e : tstB n ts = rowsB n 9 ts := by simp [tstB]; omega
    cases hy : rowsB n 9 ts
    · exact cutOf_bad n i ts a cap w (by omega) (by omega) h hy
    · refine cutOf_no n (by omega) (by omega) i (fun hi => hno ⟨by rw [e, hy], by omega, by omega, hi.1, by simpa using hi.2⟩) ts a cap w h hy
  · exact cutOf_side n i ts a cap w hn
theorem okC_yes {n i : Int} {ts : List (List Int)} (h : okC n ts i) : ∃ m j : Nat, n = m ∧ i = j ∧ 1 ≤ m ∧ m ≤ 8 ∧ j < Pr.cnt m ∧ rowsB m 9 ts = true := by
  obtain ⟨hT, h1, h2, h3, h4⟩ := h
  obtain ⟨m, rfl⟩ := Int.eq_ofNat_of_zero_le (show 0 ≤ n by omega)
  obtain ⟨j, rfl⟩ := Int.eq_ofNat_of_zero_le h3
  have e : tstB m ts = rowsB m 9 ts := by simp [tstB]; omega
  exact ⟨m, j, rfl, rfl, by omega, by omega, by simpa using h4, by rw [← e]; exact hT⟩
theorem pcs_len (t : List Int) (n i : Nat) : (pcs t n i).length = 3 := rfl
end Go.Proofs.YtfpadepeanejeaaDoor
