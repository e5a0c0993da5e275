import Derived.LoopN
import Derived.BigRegion
import Derived.BigQuiet
import Derived.Test.YtlkgmnmnlfaopaaQ8
import Derived.Test.YtlkgmnmnlfaopaaQ2
import Derived.Test.YtlkgmnmnlfaopaaZa
namespace Go.Proofs.Ytlkgmnmnlfaopaa
open Go.RowKit
set_option maxRecDepth 4000
/-- The sum of the first j products of two lists. -/
def dotK (r y : List Int) : Nat → Int
  | 0 => 0
  | j + 1 => dotK r y j + r.getD j 0 * y.getD j 0
theorem mul_bd {a b : Int} {P Y : Nat} (ha : a.natAbs ≤ P) (hb : b.natAbs ≤ Y) : (a * b).natAbs ≤ P * Y := by
  rw [Int.natAbs_mul]; exact Nat.mul_le_mul ha hb
theorem dotK_bd (r y : List Int) (P Y : Nat) (hr : ∀ j, (r.getD j 0).natAbs ≤ P) (hy : ∀ j, (y.getD j 0).natAbs ≤ Y) : ∀ j, (dotK r y j).natAbs ≤ j * (P * Y)
  | 0 => by simp [dotK]
  | j + 1 => by
    have h1 := dotK_bd r y P Y hr hy j
    have h2 := mul_bd (hr j) (hy j)
    have h3 := Int.natAbs_add_le (dotK r y j) (r.getD j 0 * y.getD j 0)
    simp only [dotK]
    rw [Nat.succ_mul]
    omega
theorem getD_abs {xs : List Int} {P : Nat} (h : ∀ k, k < xs.length → (xs.getD k 0).natAbs ≤ P) (j : Nat) : (xs.getD j 0).natAbs ≤ P := by
  by_cases hj : j < xs.length
  · exact h j hj
  · rw [List.getD_eq_getElem?_getD, List.getElem?_eq_none (by omega)]; simp
set_option maxHeartbeats 1600000 in
theorem sop_any (r y : List Int) (P Y : Nat) (hr : ∀ j, (r.getD j 0).natAbs ≤ P) (hy : ∀ j, (y.getD j 0).natAbs ≤ Y) (hPY : P * Y ≤ 1000000000000) (hl3 : r.length ≤ 1000) (hly : r.length ≤ y.length)
    (a a' : Option Addr) (cap cap' B B' : Nat) (w : World) (h : RdS w B a r) (h' : RdS w B' a' y) :
    Calls Try.prog 68 #[.slice a r.length cap, .slice a' y.length cap'] w fun e w' => e = .returned (.int .i64 (dotK r y r.length)) ∧ w = w' := by
  obtain ⟨b, off, hb, -⟩ := h
  obtain ⟨b', off', hb', -⟩ := h'
  have hym := hb'.1
  unfold maxLen at hym
  have HC := Lib.hid hb.2
  have HC' := Lib.hid hb'.2
  have HK : Hid (∀ j, dotK r y (j + 1) = dotK r y j + r.getD j 0 * y.getD j 0) := Lib.hid (fun j => rfl)
  have HZ : Hid (dotK r y 0 = 0) := Lib.hid rfl
  have HB := Lib.hid (fun j (hj : j < r.length) => show (dotK r y j).natAbs ≤ 1000000000000000 ∧ (r.getD j 0 * y.getD j 0).natAbs ≤ 1000000000000 from by
    have h1 := dotK_bd r y P Y hr hy j
    have h2 := mul_bd (hr j) (hy j)
    have h3 : j * (P * Y) ≤ 1000 * 1000000000000 := Nat.mul_le_mul (by omega) hPY
    omega)
  clear hr hy hPY hb hb'
  go_enter Try.func68, Try.ntmps68
  go_wp2_with fail
  go_loop [5, 10] (fun v5 v10 => ∃ k : Nat, k ≤ r.length ∧ v10 = .int .i64 k ∧ v5 = .int .i64 (dotK r y k)) (fun _ v10 => r.length - (intOf v10).toNat)
  case atStart => exact ⟨0, by omega, rfl, by rw [HZ.out]⟩
  case round =>
    obtain ⟨k, hk, rfl, rfl⟩ := hrel
    by_cases hlt : k < r.length
    · obtain ⟨ha, c0⟩ := HC.out k hlt
      obtain ⟨ha', c1⟩ := HC'.out k (by omega)
      subst ha ha'
      have hki : (k : Int) < (r.length : Int) := by omega
      have hkj : (k : Int) < (y.length : Int) := by omega
      obtain ⟨p1, p2⟩ := HB.out k hlt
      have HKk := Lib.hid (HK.out k)
      generalize r.getD k 0 = x at *
      generalize y.getD k 0 = z at *
      generalize dotK r y k = s at *
      have e1 : wrap64 (x * z) = x * z := IntWalk.wrap64_in _ ⟨by omega, by omega⟩
      have e2 : wrap64 (s + x * z) = s + x * z := IntWalk.wrap64_in _ ⟨by omega, by omega⟩
      have e3 : IntKind.i64.wrap (x * z) = x * z := IntWalk.i64_in _ ⟨by omega, by omega⟩
      have e4 : IntKind.i64.wrap (s + x * z) = s + x * z := IntWalk.i64_in _ ⟨by omega, by omega⟩
      clear p1 p2
      go_wp2_with fail
      go_round
      case rel => exact ⟨k + 1, by omega, by go_num, by rw [HKk.out]⟩
      case measure => simp [intOf]; omega
    · have HE : Hid (k = r.length) := Lib.hid (by omega)
      go_wp2_with fail
      go_ret
      exact ⟨ret_int (by rw [← HE.out]), rfl⟩
/-- What each row gives. -/
def payL (rs : List (List Int)) (y : List Int) (n : Nat) : List Int := (List.range rs.length).map (fun i => dotK (rs.getD i []) y n)
theorem payL_len (rs : List (List Int)) (y : List Int) (n : Nat) : (payL rs y n).length = rs.length := by simp [payL]
theorem payL_at (rs : List (List Int)) (y : List Int) (n k : Nat) (hk : k < rs.length) : (payL rs y n).getD k 0 = dotK (rs.getD k []) y n := by
  simp [payL, List.getD, hk]
/-- The rows that give most. -/
def bestL (ps : List Int) : List Int := flt (fun i => decide (ps.getD i 0 = mxK ps (ps.length - 1))) ps.length
set_option maxHeartbeats 400000 in
theorem rowCount_any (gr : List (List Int)) (ar : Option Addr) (cr : Nat) (v2 : Value) (w : World) :
    Calls Try.prog 75 #[.agg #[.slice ar gr.length cr, v2]] w fun e w' => e = .returned (.int .i64 gr.length) ∧ Below w.heap.size w w' := by
  have hb := balloc (Below.refl w.heap.size w) (.cells #[.slice ar gr.length cr, v2] 27)
  have c0 := blk_cell (heap_alloc_new w (.cells #[.slice ar gr.length cr, v2] 27)) 0 _ rfl
  go_enter Try.func75, Try.ntmps75
  go_wp2_with fail
  go_ret
  exact ⟨rfl, hb⟩
set_option maxHeartbeats 400000 in
theorem columnCount_any (gr : List (List Int)) (ar : Option Addr) (cr B : Nat) (v2 : Value) (w : World) (h : RdSS w B ar gr) (h0 : 0 < gr.length) (hB : B ≤ w.heap.size) :
    Calls Try.prog 76 #[.agg #[.slice ar gr.length cr, v2]] w fun e w' => e = .returned (.int .i64 (gr.getD 0 []).length) ∧ Below w.heap.size w w' := by
  have hb := balloc (Below.refl w.heap.size w) (.cells #[.slice ar gr.length cr, v2] 27)
  obtain ⟨-, b, off, hx⟩ := rdss_chg h (chg_below hb) hB (.inr rfl)
  obtain ⟨rfl, -, ra, rc, k0, -⟩ := hx 0 h0
  rw [Nat.add_zero] at k0
  have c0 := blk_cell (heap_alloc_new w (.cells #[.slice (some ⟨b, off, none⟩) gr.length cr, v2] 27)) 0 _ rfl
  clear hx h
  generalize (gr.getD 0 []).length = n at *
  go_enter Try.func76, Try.ntmps76
  go_wp2_with fail
  go_ret
  exact ⟨rfl, hb⟩
end Go.Proofs.Ytlkgmnmnlfaopaa
