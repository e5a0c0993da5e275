import Derived.Test.YtjbdhgomcchoaaaSides
import Derived.Test.YtjbdhgomcchoaaaIdx
namespace Go.Proofs.Ytjbdhgomcchoaaa
open Go.RowKit
def be (n q : Nat) : Nat := if q < n then Pr.T q else if q < 2 * n then Pr.T n + (q - n) else Pr.T (3 * n - q) + (3 * n - q)
def bor (n m : Nat) : List Int := (List.range m).map (fun q => ((be n q : Nat) : Int))
theorem bor_succ (n m : Nat) : bor n (m + 1) = bor n m ++ [((be n m : Nat) : Int)] := by simp [bor, List.range_succ]
theorem bor_len (n m : Nat) : (bor n m).length = m := by simp [bor]
theorem be1 (n k : Nat) (h : k < n) : ((be n k : Nat) : Int) = (Pr.T ((n : Int) - ((n : Int) - (k : Int))).toNat : Nat) + 0 := by
  rw [show ((n : Int) - ((n : Int) - (k : Int))).toNat = k by omega]; simp [be, h]
theorem be1' (n k : Nat) (h : k < n) : ((be n (0 + k) : Nat) : Int) = (Pr.T ((n : Int) - ((n : Int) - (k : Int))).toNat : Nat) + 0 := by rw [Nat.zero_add]; exact be1 n k h
theorem be2 (n k : Nat) (h : k < n) : ((be n (n + k) : Nat) : Int) = (Pr.T ((n : Int) - 0).toNat : Nat) + (k : Int) := by
  rw [show ((n : Int) - 0).toNat = n by omega]; simp [be, show ¬ n + k < n by omega, show n + k < 2 * n by omega, show n + k - n = k by omega]
theorem be3 (n k : Nat) (h : k < n) : ((be n (2 * n + k) : Nat) : Int) = (Pr.T ((n : Int) - (k : Int)).toNat : Nat) + ((n : Int) - (k : Int)) := by
  rw [show ((n : Int) - (k : Int)).toNat = n - k by omega]; simp [be, show ¬ 2 * n + k < n by omega, show ¬ 2 * n + k < 2 * n by omega, show 3 * n - (2 * n + k) = n - k by omega]; omega
set_option maxHeartbeats 1000000 in
theorem meBorder_any (n : Nat) (h2 : n ≤ 8) (w : World) :
    Calls Try.prog 91 #[.int .i64 n] w fun e w' => ∃ v, e = .returned v ∧ w'.ownsRow w.heap.size 3 1 v (bor n (3 * n)).length ((bor n (3 * n)).map (Value.int .i64)) ∧ Below w.heap.size w w' := by
  go_enter Try.func91, Try.ntmps91
  go_wp2_with fail
  go_loopw [3, 4] (fun v3 v4 wr => ∃ k : Nat, k ≤ n ∧ v4 = .int .i64 k ∧ wr.ownsRow w.heap.size 3 1 v3 (bor n (0 + k)).length ((bor n (0 + k)).map (Value.int .i64)) ∧ Below w.heap.size w wr) (fun _ v4 _ => n - (intOf v4).toNat)
  case atStart => exact ⟨0, Nat.zero_le _, rfl, World.ownsRow_nil _ _ _ _, Below.refl _ _⟩
  case round =>
    obtain ⟨k, hk, rfl, ho, hb⟩ := hrel
    have hl := bor_len n (0 + k)
    have hz := hb.size
    by_cases hlt : k < n
    · have e := Lib.hid (bor_succ n (0 + k))
      have HE := Lib.hid (be1' n k hlt)
      have HL := Lib.hid hl
      clear hl
      go_wp2_with fail
      refine (meIndex_any n ((n : Int) - k) 0 wr.heap.size 3 (by omega) (by omega) (by omega) (by omega) (by omega) _ (by go_cell) (by go_cell)).mono ?_
      rintro e' w' ⟨rfl, rfl⟩
      rw [← HE.out]
      go_wp2_with (at_builtin; refine append_intg w.heap.size _ _ _ (bor n (0 + k)) _ rfl _ _ rfl rfl rfl (by simp) (ho.alloc _) (by simp; omega) (by have := HL.out; omega) ?_; intro v' w3 ho3 hb3)
      go_roundw
      case rel => exact ⟨k + 1, by omega, by go_num, by rw [show 0 + (k + 1) = 0 + k + 1 by omega, e.out]; simpa only [Nat.zero_add] using ho3, (hb.alloc hz _).trans hb3⟩
      case measure => simp [intOf]; omega
    · have hk2 : n = k := by omega
      subst hk2
      rw [show 0 + n = n + 0 by omega] at ho
      clear hlt hl hk
      go_wp2_with fail
      go_loopw [3, 5] (fun v3 v4 wr => ∃ k : Nat, k ≤ n ∧ v4 = .int .i64 k ∧ wr.ownsRow w.heap.size 3 1 v3 (bor n (n + k)).length ((bor n (n + k)).map (Value.int .i64)) ∧ Below w.heap.size w wr) (fun _ v4 _ => n - (intOf v4).toNat)
      case atStart => exact ⟨0, Nat.zero_le _, rfl, ho, hb⟩
      case round =>
        obtain ⟨k, hk, rfl, ho, hb⟩ := hrel
        have hl := bor_len n (n + k)
        have hz := hb.size
        by_cases hlt : k < n
        · have e := Lib.hid (bor_succ n (n + k))
          have HE := Lib.hid (be2 n k hlt)
          have HL := Lib.hid hl
          clear hl
          go_wp2_with fail
          refine (meIndex_any n 0 k wr.heap.size 3 (by omega) (by omega) (by omega) (by omega) (by omega) _ (by go_cell) (by go_cell)).mono ?_
          rintro e' w' ⟨rfl, rfl⟩
          rw [← HE.out]
          go_wp2_with (at_builtin; refine append_intg w.heap.size _ _ _ (bor n (n + k)) _ rfl _ _ rfl rfl rfl (by simp) (ho.alloc _) (by simp; omega) (by have := HL.out; omega) ?_; intro v' w3 ho3 hb3)
          go_roundw
          case rel => exact ⟨k + 1, by omega, by go_num, by rw [show n + (k + 1) = n + k + 1 by omega, e.out]; exact ho3, (hb.alloc hz _).trans hb3⟩
          case measure => simp [intOf]; omega
        · have hk2 : n = k := by omega
          subst hk2
          rw [show n + n = 2 * n + 0 by omega] at ho
          clear hlt hl hk
          go_wp2_with fail
          go_loopw [3, 6] (fun v3 v4 wr => ∃ k : Nat, k ≤ n ∧ v4 = .int .i64 k ∧ wr.ownsRow w.heap.size 3 1 v3 (bor n (2 * n + k)).length ((bor n (2 * n + k)).map (Value.int .i64)) ∧ Below w.heap.size w wr) (fun _ v4 _ => n - (intOf v4).toNat)
          case atStart => exact ⟨0, Nat.zero_le _, rfl, ho, hb⟩
          case round =>
            obtain ⟨k, hk, rfl, ho, hb⟩ := hrel
            have hl := bor_len n (2 * n + k)
            have hz := hb.size
            by_cases hlt : k < n
            · have e := Lib.hid (bor_succ n (2 * n + k))
              have HE := Lib.hid (be3 n k hlt)
              have HL := Lib.hid hl
              clear hl
              go_wp2_with fail
              refine (meIndex_any n k ((n : Int) - k) wr.heap.size 3 (by omega) (by omega) (by omega) (by omega) (by omega) _ (by go_cell) (by go_cell)).mono ?_
              rintro e' w' ⟨rfl, rfl⟩
              rw [← HE.out]
              go_wp2_with (at_builtin; refine append_intg w.heap.size _ _ _ (bor n (2 * n + k)) _ rfl _ _ rfl rfl rfl (by simp) (ho.alloc _) (by simp; omega) (by have := HL.out; omega) ?_; intro v' w3 ho3 hb3)
              go_roundw
              case rel => exact ⟨k + 1, by omega, by go_num, by rw [show 2 * n + (k + 1) = 2 * n + k + 1 by omega, e.out]; exact ho3, (hb.alloc hz _).trans hb3⟩
              case measure => simp [intOf]; omega
            · have hk2 : n = k := by omega
              subst hk2
              obtain ⟨-, a, cap, b, rfl, -, -⟩ := own_shape ho
              go_wp2_with fail
              go_ret
              rw [show 3 * n = 2 * n + n by omega]
              exact ⟨_, rfl, ho, hb⟩
end Go.Proofs.Ytjbdhgomcchoaaa
