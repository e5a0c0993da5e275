import Derived.Test.YtcahecohjmahaaaDoorSf
import Derived.Test.YtcahecohjmahaaaDoorZa
namespace Go.Proofs.YtcahecohjmahaaaDoor
open Go.RowKit
set_option maxRecDepth 4000
/-- A label of a square. -/
def sl4 (x : Int) : Bool := decide (-2 ≤ x ∧ x ≤ 2 ∧ x ≠ 0)
def all4 (xs : List Int) : Bool := xs.all sl4
theorem all4_no (xs : List Int) (k : Nat) (hk : k < xs.length) (h : sl4 (xs.getD k 0) = false) : all4 xs = false := by
  simp only [all4, List.all_eq_false]
  refine ⟨xs.getD k 0, ?_, by rw [h]; exact Bool.false_ne_true⟩
  rw [List.getD_eq_getElem?_getD, List.getElem?_eq_getElem hk]
  exact List.getElem_mem hk
theorem all4_yes (xs : List Int) (h : ∀ k, k < xs.length → sl4 (xs.getD k 0) = true) : all4 xs = true := by
  simp only [all4, List.all_eq_true]
  intro x hx
  obtain ⟨k, hk, rfl⟩ := List.getElem_of_mem hx
  have e := h k hk
  rwa [List.getD_eq_getElem?_getD, List.getElem?_eq_getElem hk] at e
theorem all4_at {xs : List Int} (h : all4 xs = true) (k : Nat) (hk : k < xs.length) : -2 ≤ xs.getD k 0 ∧ xs.getD k 0 ≤ 2 ∧ xs.getD k 0 ≠ 0 := by
  have e := List.all_eq_true.1 h (xs.getD k 0) (by rw [List.getD_eq_getElem?_getD, List.getElem?_eq_getElem hk]; exact List.getElem_mem hk)
  simpa [sl4] using e
/-- Labels of a square of a reach. -/
def sqB (n : Int) (xs : List Int) : Bool := decide (1 ≤ n ∧ n ≤ 4 ∧ (xs.length : Int) = sqc n) && all4 xs
theorem sqB_yes {n : Int} {xs : List Int} (h : sqB n xs = true) : 1 ≤ n ∧ n ≤ 4 ∧ (xs.length : Int) = sqc n ∧ all4 xs = true := by
  simp only [sqB, Bool.and_eq_true, decide_eq_true_eq] at h
  exact ⟨h.1.1, h.1.2.1, h.1.2.2, h.2⟩
theorem sqB_of {n : Int} {xs : List Int} (h1 : 1 ≤ n) (h2 : n ≤ 4) (hl : (xs.length : Int) = sqc n) : sqB n xs = all4 xs := by
  simp [sqB, h1, h2, hl]
theorem sqB_len {n : Int} {xs : List Int} (hl : (xs.length : Int) ≠ sqc n) : sqB n xs = false := by
  simp [sqB, hl]
theorem sqB_reach {n : Int} {xs : List Int} (h : ¬ (1 ≤ n ∧ n ≤ 4)) : sqB n xs = false := by
  rw [sqB, Bool.and_eq_false_iff]
  exact .inl (decide_eq_false (fun k => h ⟨k.1, k.2.1⟩))
set_option maxHeartbeats 800000 in
theorem isSquareLabel_any (x : Int) (w : World) :
    Calls Tryd.prog 144 #[.int .i64 x] w fun e w' => e = .returned (.bool (sl4 x)) ∧ w = w' := by
  by_cases h1 : -2 ≤ x
  · by_cases h2 : x ≤ 2
    · by_cases h3 : x = 0
      · subst h3
        go_enter Tryd.func144, Tryd.ntmps144
        go_wp2
        go_ret
        exact ⟨ret_bool (by simp [sl4]), rfl⟩
      · have h3' : (x != 0) = true := by simpa using h3
        go_enter Tryd.func144, Tryd.ntmps144
        go_wp2
        go_ret
        exact ⟨ret_bool (by simp [sl4, h1, h2, h3]), rfl⟩
    · go_enter Tryd.func144, Tryd.ntmps144
      go_wp2
      go_ret
      exact ⟨ret_bool (show sl4 x = false from decide_eq_false (by omega)).symm, rfl⟩
  · go_enter Tryd.func144, Tryd.ntmps144
    go_wp2
    go_ret
    exact ⟨ret_bool (show sl4 x = false from decide_eq_false (by omega)).symm, rfl⟩
set_option maxHeartbeats 1000000 in
theorem opLabels_any (n : Int) (xs : List Int) (a : Option Addr) (b off len cap : Nat) (w : World) (hn : xs.length = len) (h : Rd w a b off xs) (hm : len ≤ 1048576) :
    Calls Tryd.prog 49 #[.int .i64 n, .slice a len cap] w fun e w' => e = .returned (.bool (sqB n xs)) ∧ w = w' := by
  by_cases hr : 1 ≤ n ∧ n ≤ 4
  · obtain ⟨h1, h2⟩ := hr
    by_cases hl : (len : Int) = sqc n
    · have hq : ((len : Int) != sqc n) = false := by simp [hl]
      have HE := Lib.hid (sqB_of (xs := xs) h1 h2 (by rw [hn]; exact hl))
      have HR := Lib.hid h
      have HN := Lib.hid hn
      clear h hn hl
      go_enter Tryd.func49, Tryd.ntmps49
      go_wp2_with fail
      refine (opReach_yes n h1 h2 _).mono ?_
      rintro e w' ⟨rfl, rfl⟩
      go_wp2_with fail
      refine (opCount_any n h1 h2 _).mono ?_
      rintro e w' ⟨rfl, rfl⟩
      go_wp2_with fail
      go_loop [19] (fun v19 => ∃ k : Nat, k ≤ len ∧ v19 = .int .i64 k ∧ Hid (∀ j, j < k → sl4 (xs.getD j 0) = true)) (fun v19 => len - (intOf v19).toNat)
      case atStart => exact ⟨0, Nat.zero_le _, rfl, Lib.hid (fun j hj => absurd hj (Nat.not_lt_zero _))⟩
      case round =>
        obtain ⟨k, hk, rfl, hall⟩ := hrel
        by_cases hlt : k < len
        · obtain ⟨ha, c⟩ := HR.out.2 k (by rw [HN.out]; exact hlt)
          subst ha
          have hki : (k : Int) < (len : Int) := by omega
          have hno := Lib.hid (all4_no xs k (by rw [HN.out]; exact hlt))
          have hst : Hid (sl4 (xs.getD k 0) = true → ∀ j, j < k + 1 → sl4 (xs.getD j 0) = true) := Lib.hid (fun h j hj => by
            by_cases e : j = k
            · rw [e]; exact h
            · exact hall.out j (by omega))
          clear hall
          generalize xs.getD k 0 = x at *
          by_cases hin : -2 ≤ x ∧ x ≤ 2
          · by_cases h0 : x = 0
            · have HF := Lib.hid (hno.out (by simp [sl4, h0]))
              have h0' : (x == 0) = true := by simpa using h0
              clear h0
              go_wp2_with fail
              refine (l1In_yes x (-2) 2 hin _).mono ?_
              rintro e w' ⟨rfl, rfl⟩
              go_wp2_with fail
              go_ret
              exact ⟨ret_bool (by rw [HE.out, HF.out]), rfl⟩
            · have HT := Lib.hid (hst.out (by simp [sl4, hin, h0]))
              have h0' : (x == 0) = false := by simpa using h0
              clear h0
              go_wp2_with fail
              refine (l1In_yes x (-2) 2 hin _).mono ?_
              rintro e w' ⟨rfl, rfl⟩
              go_wp2_with fail
              go_round
              case rel => exact ⟨k + 1, by omega, by go_num, HT⟩
              case measure => simp [intOf]; omega
          · have HF := Lib.hid (hno.out (decide_eq_false (fun h => hin ⟨h.1, h.2.1⟩)))
            go_wp2_with fail
            refine (l1In_no x (-2) 2 hin _).mono ?_
            rintro e w' ⟨rfl, rfl⟩
            go_wp2_with fail
            go_ret
            exact ⟨ret_bool (by rw [HE.out, HF.out]), rfl⟩
        · have hk2 : k = len := by omega
          have HT := Lib.hid (all4_yes xs (fun j hj => hall.out j (by rw [HN.out] at hj; omega)))
          clear hk2
          go_wp2_with fail
          go_ret
          exact ⟨ret_bool (by rw [HE.out, HT.out]), rfl⟩
    · have hq : ((len : Int) != sqc n) = true := by simpa using hl
      have HE := Lib.hid (sqB_len (n := n) (xs := xs) (by rw [hn]; exact hl))
      clear hl h hn
      go_enter Tryd.func49, Tryd.ntmps49
      go_wp2_with fail
      refine (opReach_yes n h1 h2 _).mono ?_
      rintro e w' ⟨rfl, rfl⟩
      go_wp2_with fail
      refine (opCount_any n h1 h2 _).mono ?_
      rintro e w' ⟨rfl, rfl⟩
      go_wp2_with fail
      go_ret
      exact ⟨ret_bool HE.out.symm, rfl⟩
  · have HE := Lib.hid (sqB_reach (xs := xs) hr)
    clear h
    go_enter Tryd.func49, Tryd.ntmps49
    go_wp2_with fail
    refine (opReach_no n hr _).mono ?_
    rintro e w' ⟨rfl, rfl⟩
    go_wp2_with fail
    go_ret
    exact ⟨ret_bool HE.out.symm, rfl⟩
set_option maxHeartbeats 800000 in
theorem labelAt_any (xs : List Int) (a : Option Addr) (b len cap i : Nat) (w : World) (hn : xs.length = len) (h : Rd w a b 0 xs) (hi : i < len) :
    Calls Tryd.prog 199 #[.slice a len cap, .int .i64 i] w fun e w' => e = .returned (.int .i64 (xs.getD i 0)) ∧ w = w' := by
  obtain ⟨ha, c⟩ := h.2 i (by rw [hn]; exact hi)
  subst ha
  rw [Nat.zero_add] at c
  have hii : (i : Int) < (len : Int) := by omega
  clear h hn
  go_enter Tryd.func199, Tryd.ntmps199
  go_wp2
  go_ret
  exact ⟨rfl, rfl⟩
end Go.Proofs.YtcahecohjmahaaaDoor
