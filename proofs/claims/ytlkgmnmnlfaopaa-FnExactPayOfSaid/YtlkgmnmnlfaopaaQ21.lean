import Derived.LoopN
import Derived.BigRegion
import Derived.BigQuiet
import Derived.Test.YtlkgmnmnlfaopaaQ9
import Derived.Test.YtlkgmnmnlfaopaaQ14
namespace Go.Proofs.Ytlkgmnmnlfaopaa
open Go.RowKit
set_option maxRecDepth 4000
/-- The sum of the first k numbers. -/
def sumK (xs : List Int) : Nat → Int
  | 0 => 0
  | k + 1 => sumK xs k + xs.getD k 0
theorem sumK_bd (xs : List Int) (P : Nat) (h : ∀ j, (xs.getD j 0).natAbs ≤ P) : ∀ k, (sumK xs k).natAbs ≤ k * P
  | 0 => by simp [sumK]
  | k + 1 => by
    have h1 := sumK_bd xs P h k
    have h2 := h k
    have h3 := Int.natAbs_add_le (sumK xs k) (xs.getD k 0)
    simp only [sumK]
    rw [Nat.succ_mul]
    omega
set_option maxHeartbeats 800000 in
theorem gmSum_any (xs : List Int) (P : Nat) (hP : P ≤ 1000000000000) (h : ∀ j, (xs.getD j 0).natAbs ≤ P) (hl : xs.length ≤ 1000) (a : Option Addr) (cap B : Nat) (w : World) (hr : RdS w B a xs) :
    Calls Try.prog 67 #[.slice a xs.length cap] w fun e w' => e = .returned (.int .i64 (sumK xs xs.length)) ∧ w = w' := by
  obtain ⟨b, off, hb, -⟩ := hr
  have HC := Lib.hid hb.2
  have HK : Hid (∀ k, sumK xs (k + 1) = sumK xs k + xs.getD k 0) := Lib.hid (fun k => rfl)
  have HZ : Hid (sumK xs 0 = 0) := Lib.hid rfl
  have HB := Lib.hid (fun k (hk : k < xs.length) => show (sumK xs k).natAbs ≤ 1000000000000000 ∧ (xs.getD k 0).natAbs ≤ 1000000000000 from by
    have h1 := sumK_bd xs P h k
    have h2 := h k
    have h3 : k * P ≤ 1000 * 1000000000000 := Nat.mul_le_mul (by omega) hP
    omega)
  clear hb h
  go_enter Try.func67, Try.ntmps67
  go_wp2_with fail
  go_loop [3, 8] (fun v3 v8 => ∃ k : Nat, k ≤ xs.length ∧ v8 = .int .i64 k ∧ v3 = .int .i64 (sumK xs k)) (fun _ v8 => xs.length - (intOf v8).toNat)
  case atStart => exact ⟨0, Nat.zero_le _, rfl, by rw [HZ.out]⟩
  case round =>
    obtain ⟨k, hk, rfl, rfl⟩ := hrel
    by_cases hlt : k < xs.length
    · obtain ⟨ha, c0⟩ := HC.out k hlt
      subst ha
      have hki : (k : Int) < (xs.length : Int) := by omega
      obtain ⟨p1, p2⟩ := HB.out k hlt
      have HKk := Lib.hid (HK.out k)
      generalize xs.getD k 0 = x at *
      generalize sumK xs k = s at *
      have e2 : wrap64 (s + x) = s + x := IntWalk.wrap64_in _ ⟨by omega, by omega⟩
      have e4 : IntKind.i64.wrap (s + x) = s + x := IntWalk.i64_in _ ⟨by omega, by omega⟩
      clear p1 p2
      go_wp2_with fail
      go_round
      case rel => exact ⟨k + 1, by omega, by go_num, by rw [HKk.out]⟩
      case measure => simp [intOf]; omega
    · have HE : Hid (k = xs.length) := Lib.hid (by omega)
      go_wp2_with fail
      go_ret
      exact ⟨ret_int (by rw [← HE.out]), rfl⟩
theorem same1_any (x : Int) (w : World) : Calls Try.prog 104 #[.int .i64 x] w fun e w' => e = .returned (.int .i64 x) ∧ w = w' := by
  go_enter Try.func104, Try.ntmps104
  go_wp2_with fail
  go_ret
  exact ⟨rfl, rfl⟩
set_option maxHeartbeats 800000 in
theorem total_any (xs : List Int) (P : Nat) (hP : P ≤ 1000000000000) (h : ∀ j, (xs.getD j 0).natAbs ≤ P) (hl : xs.length ≤ 1000) (a : Option Addr) (cap B : Nat) (w : World) (hr : RdS w B a xs) :
    Calls Try.prog 71 #[.slice a xs.length cap] w fun e w' => e = .returned (.int .i64 (sumK xs xs.length)) ∧ w = w' := by
  have HS : Hid (∀ w, RdS w B a xs → Calls Try.prog 103 #[.slice a xs.length cap, .func (.func 104) #[] #[]] w fun e w' => e = .returned (.int .i64 (sumK xs xs.length)) ∧ w = w') := Lib.hid (fun w hr => by
    obtain ⟨b, off, hb, -⟩ := hr
    have HC := Lib.hid hb.2
    have HK : Hid (∀ k, sumK xs (k + 1) = sumK xs k + xs.getD k 0) := Lib.hid (fun k => rfl)
    have HZ : Hid (sumK xs 0 = 0) := Lib.hid rfl
    have HB := Lib.hid (fun k (hk : k < xs.length) => show (sumK xs k).natAbs ≤ 1000000000000000 ∧ (xs.getD k 0).natAbs ≤ 1000000000000 from by
      have h1 := sumK_bd xs P h k
      have h2 := h k
      have h3 : k * P ≤ 1000 * 1000000000000 := Nat.mul_le_mul (by omega) hP
      omega)
    clear hb h
    go_enter Try.func103, Try.ntmps103
    go_wp2_with fail
    go_loop [5, 10] (fun v5 v10 => ∃ k : Nat, k ≤ xs.length ∧ v10 = .int .i64 k ∧ v5 = .int .i64 (sumK xs k)) (fun _ v10 => xs.length - (intOf v10).toNat)
    case atStart => exact ⟨0, Nat.zero_le _, rfl, by rw [HZ.out]⟩
    case round =>
      obtain ⟨k, hk, rfl, rfl⟩ := hrel
      by_cases hlt : k < xs.length
      · obtain ⟨ha, c0⟩ := HC.out k hlt
        subst ha
        have hki : (k : Int) < (xs.length : Int) := by omega
        obtain ⟨p1, p2⟩ := HB.out k hlt
        have HKk := Lib.hid (HK.out k)
        generalize xs.getD k 0 = x at *
        generalize sumK xs k = s at *
        have e2 : wrap64 (s + x) = s + x := IntWalk.wrap64_in _ ⟨by omega, by omega⟩
        have e4 : IntKind.i64.wrap (s + x) = s + x := IntWalk.i64_in _ ⟨by omega, by omega⟩
        clear p1 p2
        go_wp2_with fail
        refine (same1_any x _).mono ?_
        rintro e w' ⟨rfl, rfl⟩
        go_wp2_with fail
        go_round
        case rel => exact ⟨k + 1, by omega, by go_num, by rw [HKk.out]⟩
        case measure => simp [intOf]; omega
      · have HE : Hid (k = xs.length) := Lib.hid (by omega)
        go_wp2_with fail
        go_ret
        exact ⟨ret_int (by rw [← HE.out]), rfl⟩)
  have HR := Lib.hid hr
  clear hr h
  go_enter Try.func71, Try.ntmps71
  go_wp2_with fail
  refine (HS.out _ HR.out).mono ?_
  rintro e w' ⟨rfl, rfl⟩
  go_wp2_with fail
  go_ret
  exact ⟨rfl, rfl⟩
/-- What the model adds up for one row. -/
def pinK (x : Int) (r y : List Int) : Nat → Int
  | 0 => 0
  | j + 1 => pinK x r y j + x * y.getD j 0 * r.getD j 0
def pallK (rs : List (List Int)) (x y : List Int) (n : Nat) : Nat → Int
  | 0 => 0
  | i + 1 => pallK rs x y n i + pinK (x.getD i 0) (rs.getD i []) y n
theorem pin_dot (x : Int) (r y : List Int) : ∀ j, pinK x r y j = x * dotK r y j
  | 0 => by simp [pinK, dotK]
  | j + 1 => by
    simp only [pinK, dotK, pin_dot x r y j, Int.mul_add]
    congr 1
    rw [Int.mul_assoc, Int.mul_comm (y.getD j 0)]
theorem pall_dot (rs : List (List Int)) (x y : List Int) (n : Nat) : ∀ i, i ≤ rs.length → pallK rs x y n i = dotK x (payL rs y n) i
  | 0, _ => rfl
  | i + 1, h => by
    simp only [pallK, dotK, pall_dot rs x y n i (by omega), pin_dot, payL_at rs y n i (by omega)]
def dfn (c : Nat → Nat → Int) (x : List Int) : Nat → Nat → Int
  | 0, _ => 0
  | i + 1, j => dfn c x i j + c i j * x.getD i 0
def eK (c : Nat → Nat → Int) (x y : List Int) (i : Nat) : Nat → Int
  | 0 => 0
  | k + 1 => eK c x y i k + y.getD k 0 * dfn c x i k
theorem eK_zero (c : Nat → Nat → Int) (x y : List Int) : ∀ k, eK c x y 0 k = 0
  | 0 => rfl
  | k + 1 => by simp [eK, eK_zero c x y k, dfn]
theorem eK_succ (c : Nat → Nat → Int) (x y r : List Int) (i : Nat) (hr : ∀ j, c i j = r.getD j 0) : ∀ k, eK c x y (i + 1) k = eK c x y i k + pinK (x.getD i 0) r y k
  | 0 => by simp [eK, pinK]
  | k + 1 => by
    have e : y.getD k 0 * (c i k * x.getD i 0) = x.getD i 0 * y.getD k 0 * r.getD k 0 := by
      rw [hr, Int.mul_comm (r.getD k 0), ← Int.mul_assoc, Int.mul_comm (y.getD k 0)]
    simp only [eK, pinK, eK_succ c x y r i hr k, dfn, Int.mul_add, e]
    omega
theorem pall_eK (rs : List (List Int)) (x y : List Int) (n : Nat) : ∀ i, pallK rs x y n i = eK (fun i j => (rs.getD i []).getD j 0) x y i n
  | 0 => (eK_zero _ x y n).symm
  | i + 1 => by rw [eK_succ _ x y (rs.getD i []) i (fun _ => rfl), ← pall_eK rs x y n i]; rfl
theorem dot_dfn (c : Nat → Nat → Int) (x r : List Int) (k : Nat) : ∀ i, (∀ j, j < i → r.getD j 0 = c j k) → dotK r x i = dfn c x i k
  | 0, _ => rfl
  | i + 1, h => by simp only [dotK, dfn, dot_dfn c x r k i (fun j hj => h j (by omega)), h i (by omega)]
theorem dot_eK (rs : List (List Int)) (m n : Nat) (x y : List Int) : ∀ k, k ≤ n → dotK y (payL (trL rs m n) x m) k = eK (fun i j => (rs.getD i []).getD j 0) x y m k
  | 0, _ => rfl
  | k + 1, h => by
    simp only [dotK, eK, dot_eK rs m n x y k (by omega)]
    rw [payL_at _ _ _ k (by unfold trL; rw [gridL_len]; omega), dot_dfn (fun i j => (rs.getD i []).getD j 0) x _ k m (fun j hj => by
      unfold trL; rw [gridL_at _ _ _ _ (by omega), rowL_at _ _ _ hj])]
theorem pall_turned (rs : List (List Int)) (m n : Nat) (x y : List Int) : pallK rs x y n m = dotK y (payL (trL rs m n) x m) n := by
  rw [pall_eK, dot_eK rs m n x y n (Nat.le_refl _)]
end Go.Proofs.Ytlkgmnmnlfaopaa
