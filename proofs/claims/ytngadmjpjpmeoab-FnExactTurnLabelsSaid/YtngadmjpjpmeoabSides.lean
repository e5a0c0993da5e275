import Derived.Test.YtngadmjpjpmeoabBase
import Derived.Test.YtngadmjpjpmeoabAp
namespace Go.Proofs.Ytngadmjpjpmeoab
open Go.RowKit
theorem own_base {w : World} {base base' e size n : Nat} {v : Value} {xs : List Value} (h : w.ownsRow base e size v n xs) (hg : base' ≤ base) : w.ownsRow base' e size v n xs := ⟨h.1, by
  rcases h.2 with h | ⟨g, cap, cur, hv, hg', r⟩
  · exact .inl h
  · exact .inr ⟨g, cap, cur, hv, by omega, r⟩⟩
/-- The first k of the indices whose number is 0. -/
def zer (l : List Int) (k : Nat) : List Int := ((List.range k).filter (fun j => l.getD j 0 == 0)).map (fun (j : Nat) => (j : Int))
theorem zer_yes (l : List Int) (k : Nat) (h : l.getD k 0 = 0) : zer l (k + 1) = zer l k ++ [(k : Int)] := by
  have h' : l[k]?.getD 0 = 0 := h
  simp [zer, List.range_succ, List.filter_append, h']
theorem zer_no (l : List Int) (k : Nat) (h : ¬ l.getD k 0 = 0) : zer l (k + 1) = zer l k := by
  have h' : ¬ l[k]?.getD 0 = 0 := h
  simp [zer, List.range_succ, List.filter_append, h']
theorem zer_len (l : List Int) (k : Nat) : (zer l k).length ≤ k := by
  simp only [zer, List.length_map]; exact Nat.le_trans (List.length_filter_le _ _) (by simp)
set_option maxHeartbeats 800000 in
theorem zeros_any (a b c : Int) (w : World) :
    Calls Try.prog 37 #[.agg #[.int .i64 a, .int .i64 b, .int .i64 c]] w fun e w' => ∃ v, e = .returned v ∧ w'.ownsRow w.heap.size 3 1 v (zer [a, b, c] 3).length ((zer [a, b, c] 3).map (Value.int .i64)) ∧ Below w.heap.size w w' := by
  have i0 : ∀ w, (Instr.index 53 (.agg #[.int .i64 a, .int .i64 b, .int .i64 c]) (.int .i64 0)).run Try.prog w = .ok (.int .i64 a) w := fun _ => by kernel_rfl
  have i1 : ∀ w, (Instr.index 53 (.agg #[.int .i64 a, .int .i64 b, .int .i64 c]) (.int .i64 1)).run Try.prog w = .ok (.int .i64 b) w := fun _ => by kernel_rfl
  have i2 : ∀ w, (Instr.index 53 (.agg #[.int .i64 a, .int .i64 b, .int .i64 c]) (.int .i64 2)).run Try.prog w = .ok (.int .i64 c) w := fun _ => by kernel_rfl
  go_enter Try.func37, Try.ntmps37
  go_wp2_with fail
  go_loopw [3, 7] (fun v3 v7 wr => ∃ k : Nat, k ≤ 3 ∧ v7 = .int .i64 k ∧ wr.ownsRow w.heap.size 3 1 v3 (zer [a, b, c] k).length ((zer [a, b, c] k).map (Value.int .i64)) ∧ Below w.heap.size w wr) (fun _ v7 _ => 3 - (intOf v7).toNat)
  case atStart => exact ⟨0, by omega, rfl, World.ownsRow_nil _ _ _ _, by go_grown⟩
  case round =>
    obtain ⟨k, hk, rfl, ho, hb⟩ := hrel
    have hz := hb.size
    have hl := zer_len [a, b, c] k
    rcases (show k = 3 ∨ k = 0 ∨ k = 1 ∨ k = 2 by omega) with rfl | rfl | rfl | rfl
    · go_wp2_with fail
      go_ret
      exact ⟨_, rfl, ho, hb⟩
    · by_cases hx : a = 0
      · have e := Lib.hid (zer_yes [a, b, c] 0 (by simpa using hx))
        have ht : (a == 0) = true := by simpa using hx
        clear hx
        go_wp2_with (at_builtin; refine append_int w.heap.size _ _ (zer [a, b, c] 0) _ rfl _ _ rfl rfl rfl ho hz (by omega) ?_; intro v' w1 ho1 hb1)
        go_roundw
        case rel => exact ⟨1, by omega, by go_num, by rw [e.out]; exact ho1, hb.trans hb1⟩
        case measure => simp [intOf]
      · have e := Lib.hid (zer_no [a, b, c] 0 (by simpa using hx))
        go_wp2_with fail
        go_roundw
        case rel => exact ⟨1, by omega, by go_num, by rw [e.out]; exact ho, hb⟩
        case measure => simp [intOf]
    · by_cases hx : b = 0
      · have e := Lib.hid (zer_yes [a, b, c] 1 (by simpa using hx))
        have ht : (b == 0) = true := by simpa using hx
        clear hx
        go_wp2_with (at_builtin; refine append_int w.heap.size _ _ (zer [a, b, c] 1) _ rfl _ _ rfl rfl rfl ho hz (by omega) ?_; intro v' w1 ho1 hb1)
        go_roundw
        case rel => exact ⟨2, by omega, by go_num, by rw [e.out]; exact ho1, hb.trans hb1⟩
        case measure => simp [intOf]
      · have e := Lib.hid (zer_no [a, b, c] 1 (by simpa using hx))
        go_wp2_with fail
        go_roundw
        case rel => exact ⟨2, by omega, by go_num, by rw [e.out]; exact ho, hb⟩
        case measure => simp [intOf]
    · by_cases hx : c = 0
      · have e := Lib.hid (zer_yes [a, b, c] 2 (by simpa using hx))
        have ht : (c == 0) = true := by simpa using hx
        clear hx
        go_wp2_with (at_builtin; refine append_int w.heap.size _ _ (zer [a, b, c] 2) _ rfl _ _ rfl rfl rfl ho hz (by omega) ?_; intro v' w1 ho1 hb1)
        go_roundw
        case rel => exact ⟨3, by omega, by go_num, by rw [e.out]; exact ho1, hb.trans hb1⟩
        case measure => simp [intOf]
      · have e := Lib.hid (zer_no [a, b, c] 2 (by simpa using hx))
        go_wp2_with fail
        go_roundw
        case rel => exact ⟨3, by omega, by go_num, by rw [e.out]; exact ho, hb⟩
        case measure => simp [intOf]
set_option maxHeartbeats 800000 in
theorem meSides_core (n i a b c : Int) (hm : ∀ w, Calls Try.prog 26 #[.int .i64 n, .int .i64 i] w fun e w' => e = .returned (.slice (some ⟨w.heap.size, 0, none⟩) 3 3) ∧ w' = w.alloc (.cells #[.int .i64 a, .int .i64 b, .int .i64 c] 3)) (w : World) :
    Calls Try.prog 33 #[.int .i64 n, .int .i64 i] w fun e w' => ∃ v, e = .returned v ∧ w'.ownsRow w.heap.size 3 1 v (zer [a, b, c] 3).length ((zer [a, b, c] 3).map (Value.int .i64)) ∧ Below w.heap.size w w' := by
  have HM := Lib.hid hm
  clear hm
  go_enter Try.func33, Try.ntmps33
  go_wp2_with fail
  refine (HM.out _).mono ?_
  rintro e w1 ⟨rfl, rfl⟩
  go_wp2_with fail
  go_loopw [5, 12] (fun v5 v12 wr => ∃ k : Nat, k ≤ 3 ∧ v12 = .int .i64 k ∧ wr.ownsRow (w.heap.size + 1) 3 1 v5 (zer [a, b, c] k).length ((zer [a, b, c] k).map (Value.int .i64)) ∧ Below (w.heap.size + 1) (w.alloc (.cells #[.int .i64 a, .int .i64 b, .int .i64 c] 3)) wr) (fun _ v12 _ => 3 - (intOf v12).toNat)
  case atStart => exact ⟨0, by omega, rfl, World.ownsRow_nil _ _ _ _, Below.refl _ _⟩
  case round =>
    obtain ⟨k, hk, rfl, ho, hb⟩ := hrel
    have hz := hb.size
    simp only [World.size_alloc] at hz
    have hl := zer_len [a, b, c] k
    have c0 : wr.cell? ⟨w.heap.size, 0, none⟩ = some (.int .i64 a) := by rw [hb.cell (by simp)]; go_cell
    have c1 : wr.cell? ⟨w.heap.size, 1, none⟩ = some (.int .i64 b) := by rw [hb.cell (by simp)]; go_cell
    have c2 : wr.cell? ⟨w.heap.size, 2, none⟩ = some (.int .i64 c) := by rw [hb.cell (by simp)]; go_cell
    rcases (show k = 3 ∨ k = 0 ∨ k = 1 ∨ k = 2 by omega) with rfl | rfl | rfl | rfl
    · go_wp2_with fail
      go_ret
      have hg : w.heap.size ≤ w.heap.size + 1 := by omega
      exact ⟨_, rfl, ⟨ho.1, by
        rcases ho.2 with h | ⟨g, cap, cur, hv, hg', r⟩
        · exact .inl h
        · exact .inr ⟨g, cap, cur, hv, by omega, r⟩⟩, Below.trans (by go_grown) (hb.mono hg)⟩
    · by_cases hx : a = 0
      · have e := Lib.hid (zer_yes [a, b, c] 0 (by simpa using hx))
        have ht : (a == 0) = true := by simpa using hx
        clear hx
        go_wp2_with (at_builtin; refine append_int (w.heap.size + 1) _ _ (zer [a, b, c] 0) _ rfl _ _ rfl rfl rfl ho hz (by omega) ?_; intro v' w1 ho1 hb1)
        go_roundw
        case rel => exact ⟨1, by omega, by go_num, by rw [e.out]; exact ho1, hb.trans hb1⟩
        case measure => simp [intOf]
      · have e := Lib.hid (zer_no [a, b, c] 0 (by simpa using hx))
        go_wp2_with fail
        go_roundw
        case rel => exact ⟨1, by omega, by go_num, by rw [e.out]; exact ho, hb⟩
        case measure => simp [intOf]
    · by_cases hx : b = 0
      · have e := Lib.hid (zer_yes [a, b, c] 1 (by simpa using hx))
        have ht : (b == 0) = true := by simpa using hx
        clear hx
        go_wp2_with (at_builtin; refine append_int (w.heap.size + 1) _ _ (zer [a, b, c] 1) _ rfl _ _ rfl rfl rfl ho hz (by omega) ?_; intro v' w1 ho1 hb1)
        go_roundw
        case rel => exact ⟨2, by omega, by go_num, by rw [e.out]; exact ho1, hb.trans hb1⟩
        case measure => simp [intOf]
      · have e := Lib.hid (zer_no [a, b, c] 1 (by simpa using hx))
        go_wp2_with fail
        go_roundw
        case rel => exact ⟨2, by omega, by go_num, by rw [e.out]; exact ho, hb⟩
        case measure => simp [intOf]
    · by_cases hx : c = 0
      · have e := Lib.hid (zer_yes [a, b, c] 2 (by simpa using hx))
        have ht : (c == 0) = true := by simpa using hx
        clear hx
        go_wp2_with (at_builtin; refine append_int (w.heap.size + 1) _ _ (zer [a, b, c] 2) _ rfl _ _ rfl rfl rfl ho hz (by omega) ?_; intro v' w1 ho1 hb1)
        go_roundw
        case rel => exact ⟨3, by omega, by go_num, by rw [e.out]; exact ho1, hb.trans hb1⟩
        case measure => simp [intOf]
      · have e := Lib.hid (zer_no [a, b, c] 2 (by simpa using hx))
        go_wp2_with fail
        go_roundw
        case rel => exact ⟨3, by omega, by go_num, by rw [e.out]; exact ho, hb⟩
        case measure => simp [intOf]
theorem meSides_any (n i : Nat) (h1 : 1 ≤ n) (h2 : n ≤ 8) (hi : i < 45) (w : World) :
    Calls Try.prog 33 #[.int .i64 n, .int .i64 i] w fun e w' => ∃ v, e = .returned v ∧ w'.ownsRow w.heap.size 3 1 v (zer (pt n i) 3).length ((zer (pt n i) 3).map (Value.int .i64)) ∧ Below w.heap.size w w' :=
  meSides_core n i _ _ _ (fun w => meAt_any n i h1 h2 hi w) w
end Go.Proofs.Ytngadmjpjpmeoab
