import Derived.Test.YtcahecohjmahaaaDoorSb
import Derived.Test.YtcahecohjmahaaaDoorZa
namespace Go.Proofs.YtcahecohjmahaaaDoor
open Go.RowKit
set_option maxRecDepth 4000
/-- The border of a square: its points in order. -/
def bq (n q : Nat) : Int := if q < 2 * n then oi n ((q : Int) - n) (-(n : Int)) else if q < 4 * n then oi n n ((q : Int) - 2 * n - n) else if q < 6 * n then oi n ((n : Int) - ((q : Int) - 4 * n)) n else oi n (-(n : Int)) ((n : Int) - ((q : Int) - 6 * n))
def bol (n m : Nat) : List Int := (List.range m).map (bq n)
theorem bol_succ (n m : Nat) : bol n (m + 1) = bol n m ++ [bq n m] := by simp [bol, List.range_succ]
theorem bol_len (n m : Nat) : (bol n m).length = m := by simp [bol]
theorem bq1 (n k : Nat) (h : k < 2 * n) : bq n (0 + k) = oi n ((k : Int) - n) (-(n : Int)) := by
  simp only [bq, Nat.zero_add, if_pos h]
theorem bq2 (n k : Nat) (h : k < 2 * n) : bq n (2 * n + k) = oi n n ((k : Int) - n) := by
  simp only [bq, if_neg (show ¬ 2 * n + k < 2 * n by omega), if_pos (show 2 * n + k < 4 * n by omega)]
  congr 1; omega
theorem bq3 (n k : Nat) (h : k < 2 * n) : bq n (4 * n + k) = oi n ((n : Int) - k) n := by
  simp only [bq, if_neg (show ¬ 4 * n + k < 2 * n by omega), if_neg (show ¬ 4 * n + k < 4 * n by omega), if_pos (show 4 * n + k < 6 * n by omega)]
  congr 1; omega
theorem bq4 (n k : Nat) (h : k < 2 * n) : bq n (6 * n + k) = oi n (-(n : Int)) ((n : Int) - k) := by
  simp only [bq, if_neg (show ¬ 6 * n + k < 2 * n by omega), if_neg (show ¬ 6 * n + k < 4 * n by omega), if_neg (show ¬ 6 * n + k < 6 * n by omega)]
  congr 1; omega
set_option maxHeartbeats 1600000 in
theorem opBorder_any (n : Nat) (h1 : 1 ≤ n) (h2 : n ≤ 4) (w : World) :
    Calls Tryd.prog 86 #[.int .i64 n] w fun e w' => ∃ v, e = .returned v ∧ w'.ownsRow w.heap.size 3 1 v (bol n (8 * n)).length ((bol n (8 * n)).map (Value.int .i64)) ∧ Below w.heap.size w w' := by
  go_enter Tryd.func86, Tryd.ntmps86
  go_wp2_with fail
  go_loopw [3, 4] (fun v3 v wr => ∃ k : Nat, k ≤ 2 * n ∧ v = .int .i64 ((k : Int) - n) ∧ wr.ownsRow w.heap.size 3 1 v3 (bol n (0 + k)).length ((bol n (0 + k)).map (Value.int .i64)) ∧ Below w.heap.size w wr) (fun _ v _ => ((n : Int) - intOf v).toNat)
  case atStart => exact ⟨0, Nat.zero_le _, by go_num, World.ownsRow_nil _ _ _ _, Below.refl _ _⟩
  case round =>
    obtain ⟨k, hk, rfl, ho, hb⟩ := hrel
    have hl := bol_len n (0 + k)
    have hz := hb.size
    by_cases hlt : k < 2 * n
    · have e := Lib.hid (bol_succ n (0 + k))
      have HE := Lib.hid (bq1 n k hlt)
      have HL := Lib.hid hl
      clear hl
      go_wp2_with fail
      refine (opIndex_any n ((k : Int) - n) (-(n : Int)) (by omega) (by omega) (by omega) (by omega) (by omega) (by omega) _).mono ?_
      rintro e' w' ⟨rfl, rfl⟩
      rw [← HE.out]
      go_wp2_with (at_builtin; refine append_intg w.heap.size _ _ _ (bol n (0 + k)) _ rfl _ _ rfl rfl rfl (by simp) ho (by omega) (by have := HL.out; omega) ?_; intro v' w3 ho3 hb3)
      go_roundw
      case rel => exact ⟨k + 1, by omega, by go_num, by rw [show 0 + (k + 1) = 0 + k + 1 by omega, e.out]; simpa only [Nat.zero_add] using ho3, hb.trans hb3⟩
      case measure => simp [intOf]; omega
    · have hk2 : k = 2 * n := by omega
      rw [hk2] at ho
      clear hk2
      rw [show 0 + 2 * n = 2 * n + 0 by omega] at ho
      clear hl
      go_wp2_with fail
      clear hlt hk hz
      go_loopw [3, 5] (fun v3 v wr => ∃ k : Nat, k ≤ 2 * n ∧ v = .int .i64 ((k : Int) - n) ∧ wr.ownsRow w.heap.size 3 1 v3 (bol n (2 * n + k)).length ((bol n (2 * n + k)).map (Value.int .i64)) ∧ Below w.heap.size w wr) (fun _ v _ => ((n : Int) - intOf v).toNat)
      case atStart => exact ⟨0, Nat.zero_le _, by go_num, ho, hb⟩
      case round =>
        obtain ⟨k, hk, rfl, ho, hb⟩ := hrel
        have hl := bol_len n (2 * n + k)
        have hz := hb.size
        by_cases hlt : k < 2 * n
        · have e := Lib.hid (bol_succ n (2 * n + k))
          have HE := Lib.hid (bq2 n k hlt)
          have HL := Lib.hid hl
          clear hl
          go_wp2_with fail
          refine (opIndex_any n n ((k : Int) - n) (by omega) (by omega) (by omega) (by omega) (by omega) (by omega) _).mono ?_
          rintro e' w' ⟨rfl, rfl⟩
          rw [← HE.out]
          go_wp2_with (at_builtin; refine append_intg w.heap.size _ _ _ (bol n (2 * n + k)) _ rfl _ _ rfl rfl rfl (by simp) ho (by omega) (by have := HL.out; omega) ?_; intro v' w3 ho3 hb3)
          go_roundw
          case rel => exact ⟨k + 1, by omega, by go_num, by rw [show 2 * n + (k + 1) = 2 * n + k + 1 by omega, e.out]; exact ho3, hb.trans hb3⟩
          case measure => simp [intOf]; omega
        · have hk2 : k = 2 * n := by omega
          rw [hk2] at ho
          clear hk2
          rw [show 2 * n + 2 * n = 4 * n + 0 by omega] at ho
          clear hl
          go_wp2_with fail
          clear hlt hk hz
          go_loopw [3, 6] (fun v3 v wr => ∃ k : Nat, k ≤ 2 * n ∧ v = .int .i64 ((n : Int) - k) ∧ wr.ownsRow w.heap.size 3 1 v3 (bol n (4 * n + k)).length ((bol n (4 * n + k)).map (Value.int .i64)) ∧ Below w.heap.size w wr) (fun _ v _ => (intOf v + n).toNat)
          case atStart => exact ⟨0, Nat.zero_le _, by go_num, ho, hb⟩
          case round =>
            obtain ⟨k, hk, rfl, ho, hb⟩ := hrel
            have hl := bol_len n (4 * n + k)
            have hz := hb.size
            by_cases hlt : k < 2 * n
            · have e := Lib.hid (bol_succ n (4 * n + k))
              have HE := Lib.hid (bq3 n k hlt)
              have HL := Lib.hid hl
              clear hl
              go_wp2_with fail
              refine (opIndex_any n ((n : Int) - k) n (by omega) (by omega) (by omega) (by omega) (by omega) (by omega) _).mono ?_
              rintro e' w' ⟨rfl, rfl⟩
              rw [← HE.out]
              go_wp2_with (at_builtin; refine append_intg w.heap.size _ _ _ (bol n (4 * n + k)) _ rfl _ _ rfl rfl rfl (by simp) ho (by omega) (by have := HL.out; omega) ?_; intro v' w3 ho3 hb3)
              go_roundw
              case rel => exact ⟨k + 1, by omega, by go_num, by rw [show 4 * n + (k + 1) = 4 * n + k + 1 by omega, e.out]; exact ho3, hb.trans hb3⟩
              case measure => simp [intOf]; omega
            · have hk2 : k = 2 * n := by omega
              rw [hk2] at ho
              clear hk2
              rw [show 4 * n + 2 * n = 6 * n + 0 by omega] at ho
              clear hl
              go_wp2_with fail
              clear hlt hk hz
              go_loopw [3, 7] (fun v3 v wr => ∃ k : Nat, k ≤ 2 * n ∧ v = .int .i64 ((n : Int) - k) ∧ wr.ownsRow w.heap.size 3 1 v3 (bol n (6 * n + k)).length ((bol n (6 * n + k)).map (Value.int .i64)) ∧ Below w.heap.size w wr) (fun _ v _ => (intOf v + n).toNat)
              case atStart => exact ⟨0, Nat.zero_le _, by go_num, ho, hb⟩
              case round =>
                obtain ⟨k, hk, rfl, ho, hb⟩ := hrel
                have hl := bol_len n (6 * n + k)
                have hz := hb.size
                by_cases hlt : k < 2 * n
                · have e := Lib.hid (bol_succ n (6 * n + k))
                  have HE := Lib.hid (bq4 n k hlt)
                  have HL := Lib.hid hl
                  clear hl
                  go_wp2_with fail
                  refine (opIndex_any n (-(n : Int)) ((n : Int) - k) (by omega) (by omega) (by omega) (by omega) (by omega) (by omega) _).mono ?_
                  rintro e' w' ⟨rfl, rfl⟩
                  rw [← HE.out]
                  go_wp2_with (at_builtin; refine append_intg w.heap.size _ _ _ (bol n (6 * n + k)) _ rfl _ _ rfl rfl rfl (by simp) ho (by omega) (by have := HL.out; omega) ?_; intro v' w3 ho3 hb3)
                  go_roundw
                  case rel => exact ⟨k + 1, by omega, by go_num, by rw [show 6 * n + (k + 1) = 6 * n + k + 1 by omega, e.out]; exact ho3, hb.trans hb3⟩
                  case measure => simp [intOf]; omega
                · have hk2 : k = 2 * n := by omega
                  rw [hk2] at ho
                  clear hk2
                  obtain ⟨-, a, cap, b, rfl, -, -⟩ := own_shape ho
                  go_wp2_with fail
                  go_ret
                  rw [show 8 * n = 6 * n + 2 * n by omega]
                  exact ⟨_, rfl, ho, hb⟩
end Go.Proofs.YtcahecohjmahaaaDoor
