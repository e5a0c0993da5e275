import Derived.Test.YtncpnkcdjfohgaaDoorMa6
namespace Go.Proofs.YtncpnkcdjfohgaaDoor
open Go.RowKit
set_option maxRecDepth 4000
/-- The closure that finds a number out of bounds. -/
def outC (g : Nat) : Value := .func (.func 116) #[] #[.pointer (some ⟨g, 0, none⟩)]
def outB (hi x : Int) : Bool := decide (x < 0) || decide (hi < x)
set_option maxHeartbeats 400000 in
theorem outC_any (g : Nat) (hi x : Int) (w : World) (hc : w.cell? ⟨g, 0, none⟩ = some (.int .i64 hi)) :
    Calls Tryd.prog 116 #[.int .i64 x, .pointer (some ⟨g, 0, none⟩)] w fun e w' => e = .returned (.bool (outB hi x)) ∧ w = w' := by
  by_cases h1 : x < 0
  · go_enter Tryd.func116, Tryd.ntmps116
    go_wp2_with fail
    go_ret
    exact ⟨ret_bool (by simp [outB, h1]), rfl⟩
  · by_cases h2 : hi < x
    · go_enter Tryd.func116, Tryd.ntmps116
      go_wp2_with fail
      go_ret
      exact ⟨ret_bool (by simp [outB, h2]), rfl⟩
    · go_enter Tryd.func116, Tryd.ntmps116
      go_wp2_with fail
      go_ret
      exact ⟨ret_bool (by simp [outB, h1, h2]), rfl⟩
theorem outB_all {hi : Int} {xs : List Int} (h : ∀ j, j < xs.length → outB hi (xs.getD j 0) = false) : allB 0 hi xs = true :=
  allB_yes 0 hi xs (fun k hk => by have := h k hk; simp only [outB, Bool.or_eq_false_iff, decide_eq_false_iff_not] at this; omega)
theorem outB_no {hi : Int} {xs : List Int} (k : Nat) (hk : k < xs.length) (h : outB hi (xs.getD k 0) = true) : allB 0 hi xs = false :=
  allB_no 0 hi xs k hk (fun hh => by simp only [outB, Bool.or_eq_true, decide_eq_true_eq] at h; omega)
set_option maxHeartbeats 800000 in
theorem indexFunc_out (xs : List Int) (a : Option Addr) (cap B g : Nat) (hi : Int) (w : World) (h : RdS w B a xs) (hc : w.cell? ⟨g, 0, none⟩ = some (.int .i64 hi)) :
    Calls Tryd.prog 123 #[.slice a xs.length cap, outC g] w fun e w' => ∃ r, e = .returned (.int .i64 r) ∧ w = w' ∧ -1 ≤ r ∧ (decide (0 ≤ r)) = !(allB 0 hi xs) := by
  obtain ⟨b, off, hr, -⟩ := h
  have hm := hr.1
  unfold maxLen at hm
  have HR := Lib.hid hr.2
  have HOC : Hid (outC g = .func (.func 116) #[] #[.pointer (some ⟨g, 0, none⟩)]) := Lib.hid rfl
  clear hr
  rw [HOC.out]
  go_enter Tryd.func123, Tryd.ntmps123
  go_wp2_with fail
  go_loop [8] (fun vk => ∃ k : Nat, k ≤ xs.length ∧ vk = .int .i64 k ∧ ∀ j, j < k → outB hi (xs.getD j 0) = false) (fun vk => xs.length - (intOf vk).toNat)
  case atStart => exact ⟨0, Nat.zero_le _, rfl, by omega⟩
  case round =>
    obtain ⟨k, hk, rfl, hall⟩ := hrel
    have HA := Lib.hid hall
    clear hall
    by_cases hlt : k < xs.length
    · obtain ⟨ha, c1⟩ := HR.out k hlt
      subst ha
      have hki : (k : Int) < (xs.length : Int) := by omega
      have HNO := Lib.hid (outB_no (hi := hi) (xs := xs) k hlt)
      have HX : Hid (outB hi (xs.getD k 0) = false → ∀ j, j < k + 1 → outB hi (xs.getD j 0) = false) := Lib.hid (fun hx j hj => by
        by_cases e : j = k
        · rw [e]; exact hx
        · exact HA.out j (by omega))
      clear HA
      generalize xs.getD k 0 = x at *
      go_wp2_with fail
      refine (outC_any g hi x w hc).mono ?_
      rintro e w' ⟨rfl, rfl⟩
      cases hO : outB hi x
      · have HOx := Lib.hid hO
        clear hO
        go_wp2_with fail
        go_round
        case rel => exact ⟨k + 1, by omega, by go_num, HX.out HOx.out⟩
        case measure => simp [intOf]; omega
      · have HF := Lib.hid (HNO.out hO)
        clear hO
        go_wp2_with fail
        go_ret
        exact ⟨_, rfl, rfl, by omega, by rw [HF.out]; simp⟩
    · have hk2 : xs.length = k := by omega
      have hT := Lib.hid (outB_all (hi := hi) (xs := xs) (fun j hj => HA.out j (by omega)))
      clear hk2
      go_wp2_with fail
      go_ret
      exact ⟨_, rfl, rfl, by omega, by rw [hT.out]; simp⟩
set_option maxHeartbeats 400000 in
theorem containsFunc_out (xs : List Int) (a : Option Addr) (cap B g : Nat) (hi : Int) (w : World) (h : RdS w B a xs) (hc : w.cell? ⟨g, 0, none⟩ = some (.int .i64 hi)) :
    Calls Tryd.prog 115 #[.slice a xs.length cap, outC g] w fun e w' => e = .returned (.bool (!(allB 0 hi xs))) ∧ w = w' := by
  have H := Lib.hid (indexFunc_out xs a cap B g hi w h hc)
  clear h hc
  go_enter Tryd.func115, Tryd.ntmps115
  go_wp2_with fail
  refine H.out.mono ?_
  rintro e w' ⟨r, rfl, rfl, hr, hd⟩
  have HD := Lib.hid hd
  clear hd
  go_wp2_with fail
  go_ret
  exact ⟨ret_bool (by rw [← HD.out]; try simp), rfl⟩
set_option maxHeartbeats 1600000 in
theorem areForPeople_any (m : Nat) (hi : Int) (ts : List (List Int)) (a : Option Addr) (cap : Nat) (w : World) (h : RdSS w w.heap.size a ts) :
    Calls Tryd.prog 105 #[.slice a ts.length cap, .int .i64 m, .int .i64 hi] w fun e w' => e = .returned (.bool (rowsB m hi ts)) ∧ Below w.heap.size w w' := by
  have hmf : ∀ (fn : Fn) (first cap : Array Value) (w : World), (Instr.makeFunc fn first cap).run Tryd.prog w = .ok (.func fn first cap) w := fun _ _ _ _ => rfl
  have HRD := Lib.hid h
  have hm := h.1
  unfold maxLen at hm
  clear h
  obtain ⟨w1, hw1⟩ : ∃ w1, w1 = w.alloc (.cells #[.int .i64 hi] 3) := ⟨_, rfl⟩
  have hB1 : Below w.heap.size w w1 := by rw [hw1]; exact balloc (Below.refl _ _) _
  have hc1 : w1.cell? ⟨w.heap.size, 0, none⟩ = some (.int .i64 hi) := by rw [hw1, World.cell?_alloc_at _ _ _ _ rfl]; rfl
  have hz1 : w.heap.size < w1.heap.size := by rw [hw1]; simp
  by_cases h3 : ts.length = 3
  · have hne : ((ts.length : Int) != 3) = false := by rw [h3]; rfl
    have HL := Lib.hid h3
    have hl3 : ts.length ≤ 3 := by omega
    have HW1 := Lib.hid hw1
    clear h3 hw1
    go_enter Tryd.func105, Tryd.ntmps105
    go_wp2_with fail
    rw [← HW1.out]
    go_loop [14] (fun vk => ∃ k : Nat, k ≤ ts.length ∧ vk = .int .i64 k ∧ ∀ j, j < k → okT m hi (ts.getD j []) = true) (fun vk => ts.length - (intOf vk).toNat)
    case atStart => exact ⟨0, Nat.zero_le _, rfl, by omega⟩
    case round =>
      obtain ⟨k, hk, rfl, hall⟩ := hrel
      have HA := Lib.hid hall
      clear hall
      by_cases hlt : k < ts.length
      · obtain ⟨-, b, off, hrow⟩ := rdss_later HRD.out hB1
        obtain ⟨ha, hbl, ra, rc, c1, hr⟩ := hrow k hlt
        subst ha
        have hki : (k : Int) < (ts.length : Int) := by omega
        have HR := Lib.hid hr
        have HNO := Lib.hid (rowsB_no m hi ts k hlt)
        have HX : Hid (okT m hi (ts.getD k []) = true → ∀ j, j < k + 1 → okT m hi (ts.getD j []) = true) := Lib.hid (fun hx j hj => by
          by_cases e : j = k
          · rw [e]; exact hx
          · exact HA.out j (by omega))
        clear hr HA hrow
        generalize ts.getD k [] = t at *
        by_cases hln : t.length = m
        · have hne2 : ((t.length : Int) != (m : Int)) = false := by rw [hln]; simp
          have HLN := Lib.hid hln
          clear hln
          go_wp2_with fail
          refine (containsFunc_out t ra rc _ w.heap.size hi w1 HR.out hc1).mono ?_
          rintro e w' ⟨rfl, rfl⟩
          cases hA : allB 0 hi t
          · go_wp2_with fail
            go_ret
            exact ⟨ret_bool (HNO.out (by simp [okT, hA])).symm, hB1⟩
          · have HAl := Lib.hid hA
            clear hA
            go_wp2_with fail
            go_round
            case rel => exact ⟨k + 1, by omega, by go_num, HX.out (by simp [okT, HAl.out, HLN.out])⟩
            case measure => simp [intOf]; omega
        · have hne2 : ((t.length : Int) != (m : Int)) = true := by simp; omega
          have hF := Lib.hid (HNO.out (by simp [okT, hln]))
          clear hln HNO
          go_wp2_with fail
          go_ret
          exact ⟨ret_bool hF.out.symm, hB1⟩
      · have hk2 : ts.length = k := by omega
        have hT := Lib.hid (rowsB_yes m hi ts HL.out (fun j hj => HA.out j (by omega)))
        clear hk2
        go_wp2_with fail
        go_ret
        exact ⟨ret_bool hT.out.symm, hB1⟩
  · have hne : ((ts.length : Int) != 3) = true := by simp; omega
    have hF := Lib.hid (rowsB_len m hi ts h3)
    have HW1 := Lib.hid hw1
    clear h3 hw1
    go_enter Tryd.func105, Tryd.ntmps105
    go_wp2_with fail
    rw [← HW1.out]
    go_ret
    exact ⟨ret_bool hF.out.symm, hB1⟩
end Go.Proofs.YtncpnkcdjfohgaaDoor
