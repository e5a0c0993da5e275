import Derived.Test.YtianmmjjcegkjaaDoorH1
import Derived.Test.YtianmmjjcegkjaaDoorLm
import Derived.Test.YtianmmjjcegkjaaDoorMu
namespace Go.Proofs.YtianmmjjcegkjaaDoor
open Go.RowKit
set_option maxRecDepth 4000
/-- A row that a call has made lies in none of the elder blocks. -/
theorem own_far {w : World} {base n g : Nat} {et : TypeId} {v : Value} {xs : List Int} (h : w.ownsRow base et 1 v n (xs.map (Value.int .i64))) (hg : g < base) : n = xs.length ∧ ∃ a cap b, v = .slice a n cap ∧ b ≠ g ∧ Rd w a b 0 xs := by
  obtain ⟨hn, a, cap, b, rfl, ha, hr⟩ := own_shape h
  refine ⟨hn, a, cap, ?_⟩
  by_cases hb : b = g
  · by_cases hx : xs.length = 0
    · exact ⟨base, rfl, by omega, hr.1, fun j hj => absurd hj (by omega)⟩
    · have ha2 := (hr.2 0 (by omega)).1
      subst ha2
      obtain ⟨cur, -, -, hlo⟩ := own_obj h
      omega
  · exact ⟨b, rfl, hb, hr⟩
theorem rl_no (G : Net) (F : Nat → Nat) (i j : Nat) (h : G.op j = false) : G.rl F i j = F := by simp [Net.rl, h]
theorem rl_row (G : Net) (F : Nat → Nat) (i j s v : Nat) (h : G.op j = true) (hv : F i + G.cst j = v) : (frow F s).set j (lsJ (F j) (v : Int)) = frow (G.rl F i j) s := by
  subst hv
  rw [lsJ_nat, frow_set]
  simp [Net.rl, h]
theorem stp_take (G : Net) (i : Nat) (F : Nat → Nat) (js : List Nat) (k : Nat) (h : k < js.length) : stp G i F (js.take (k + 1)) = G.rl (stp G i F (js.take k)) i (js.getD k 0) := by
  have e : js.take (k + 1) = js.take k ++ [js.getD k 0] := by
    rw [List.take_add_one, List.getD, List.getElem?_eq_getElem h]
    rfl
  rw [e, stp_snoc]
theorem stp_le (G : Net) (i : Nat) (F : Nat → Nat) (js : List Nat) (x : Nat) : stp G i F js x ≤ F x := by
  rw [← rls_stp]
  exact Net.rls_mono i js F x
theorem stp_all (G : Net) (i : Nat) (F : Nat → Nat) (s : Nat) : frow (stp G i (G.pas F i) (G.nb i)) s = frow (G.pas F (i + 1)) s := by
  rw [← rls_stp]
  rfl
theorem ints_at (js : List Nat) (k : Nat) (h : k < js.length) : (js.map (fun (j : Nat) => (j : Int))).getD k 0 = ((js.getD k 0 : Nat) : Int) := by simp [List.getD, h]
theorem getD_mem (js : List Nat) (k : Nat) (h : k < js.length) : js.getD k 0 ∈ js := by
  rw [List.getD, List.getElem?_eq_getElem h]
  exact List.getElem_mem h
theorem bst_yes (G : Net) (F : Nat → Nat) (k v : Nat) (h : G.fin k = true) (hv : F k = v) : lsJ (G.bst F k : Nat) (v : Nat) = (G.bst F (k + 1) : Nat) := by
  subst hv
  rw [lsJ_nat]
  simp [Net.bst, h]
theorem bst_no (G : Net) (F : Nat → Nat) (k : Nat) (h : G.fin k = false) : (G.bst F k : Nat) = G.bst F (k + 1) := by simp [Net.bst, h]
theorem bst_bd (G : Net) (F : Nat → Nat) : ∀ k, G.bst F k ≤ G.s + 1
  | 0 => Nat.le_refl _
  | k + 1 => by
    have := bst_bd G F k
    rw [Net.bst]
    split <;> omega
end Go.Proofs.YtianmmjjcegkjaaDoor
