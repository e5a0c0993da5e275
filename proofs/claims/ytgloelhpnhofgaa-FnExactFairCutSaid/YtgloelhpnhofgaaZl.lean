import Derived.Test.YtgloelhpnhofgaaZc
import Derived.Test.YtgloelhpnhofgaaZd
import Derived.Test.YtgloelhpnhofgaaZk
import Derived.BigRegion
import Derived.RegionTactic
namespace Go.Proofs.Ytgloelhpnhofgaa
open Go.RowKit
set_option maxRecDepth 4000
/-- The owner of a point. -/
def ownr (i : Nat) : Int := (((Pr.R i : Int) - (Pr.C i : Nat)) + 2 * (Pr.C i : Nat)) % 3
theorem ownr_bd (i : Nat) (h : i < 45) : 0 ≤ ownr i ∧ ownr i ≤ 2 := by
  have h1 := Pr.RC_bd i h
  unfold ownr
  omega
set_option maxHeartbeats 400000 in
theorem ckOwner_any (n i : Nat) (h1 : 1 ≤ n) (h2 : n ≤ 8) (hi : i < 45) (w : World) :
    Calls Try.prog 71 #[.int .i64 n, .int .i64 i] w fun e w' => e = .returned (.int .i64 (ownr i)) ∧ Below w.heap.size w w' := by
  have hb := Pr.RC_bd i hi
  have HN : Hid (ownr i = (((Pr.R i : Int) - (Pr.C i : Nat)) + 2 * (Pr.C i : Nat)) % 3) := Lib.hid rfl
  have HM := Lib.hid (fun w => meAt_any n i h1 h2 hi w)
  generalize Pr.R i = r at *
  generalize Pr.C i = c at *
  go_enter Try.func71, Try.ntmps71
  go_wp2_with fail
  refine (HM.out _).mono ?_
  rintro e w1 ⟨rfl, rfl⟩
  go_wp2_with fail
  go_quiet (fail)
  go_wp2
  go_ret
  exact ⟨ret_int (by rw [HN.out]), (balloc (Below.refl _ _) _).trans ((Same.refl _).drewN _ _)⟩
set_option maxHeartbeats 400000 in
theorem owner_any (n i : Nat) (hi : i < 45) (w : World) :
    Calls Try.prog 108 #[.agg #[.int .i64 ((n : Int) - (Pr.R i : Nat)), .int .i64 ((Pr.R i : Int) - (Pr.C i : Nat)), .int .i64 (Pr.C i : Nat)]] w fun e w' => e = .returned (.int .i64 (ownr i)) ∧ Below w.heap.size w w' := by
  have hb := Pr.RC_bd i hi
  have HN : Hid (ownr i = (((Pr.R i : Int) - (Pr.C i : Nat)) + 2 * (Pr.C i : Nat)) % 3) := Lib.hid rfl
  generalize Pr.R i = r at *
  generalize Pr.C i = c at *
  go_enter Try.func108, Try.ntmps108
  go_wp2_with fail
  go_ret
  exact ⟨ret_int (by rw [HN.out]), by go_grown⟩
end Go.Proofs.Ytgloelhpnhofgaa

namespace Go.Proofs.Ytgloelhpnhofgaa
open Go.RowKit
set_option maxRecDepth 4000
/-- A list of so many numbers, all within 0 and hi. -/
def okT (m : Nat) (hi : Int) (t : List Int) : Bool := decide (t.length = m) && allB 0 hi t
/-- Three such lists. -/
def rowsB (m : Nat) (hi : Int) (ts : List (List Int)) : Bool := decide (ts.length = 3) && ts.all (okT m hi)
theorem rowsB_no (m : Nat) (hi : Int) (ts : List (List Int)) (k : Nat) (hk : k < ts.length) (h : okT m hi (ts.getD k []) = false) : rowsB m hi ts = false := by
  rw [Bool.eq_false_iff]
  intro hh
  simp only [rowsB, Bool.and_eq_true, List.all_eq_true] at hh
  have := hh.2 (ts.getD k []) (by simp [List.getD, List.getElem?_eq_getElem hk])
  rw [this] at h; cases h
theorem rowsB_len (m : Nat) (hi : Int) (ts : List (List Int)) (h : ts.length ≠ 3) : rowsB m hi ts = false := by
  simp [rowsB, h]
theorem rowsB_yes (m : Nat) (hi : Int) (ts : List (List Int)) (hl : ts.length = 3) (h : ∀ k, k < ts.length → okT m hi (ts.getD k []) = true) : rowsB m hi ts = true := by
  simp only [rowsB, Bool.and_eq_true, List.all_eq_true, decide_eq_true_eq]
  refine ⟨hl, fun t ht => ?_⟩
  obtain ⟨k, hk, rfl⟩ := List.getElem_of_mem ht
  have := h k hk
  simpa [List.getD, List.getElem?_eq_getElem hk] using this
theorem rowsB_at {m : Nat} {hi : Int} {ts : List (List Int)} (h : rowsB m hi ts = true) : ts.length = 3 ∧ ∀ k, k < ts.length → (ts.getD k []).length = m ∧ allB 0 hi (ts.getD k []) = true := by
  simp only [rowsB, Bool.and_eq_true, List.all_eq_true, decide_eq_true_eq] at h
  refine ⟨h.1, fun k hk => ?_⟩
  have := h.2 (ts.getD k []) (by simp [List.getD, List.getElem?_eq_getElem hk])
  simpa [okT] using this
/-- Tastes for n. -/
def tstB (n : Int) (ts : List (List Int)) : Bool := decide (1 ≤ n ∧ n ≤ 8) && rowsB n.toNat 9 ts
theorem rds_same {w w' : World} {B : Nat} {a : Option Addr} {xs : List Int} (h : RdS w B a xs) (hs : Same w w') : RdS w' B a xs := by
  obtain ⟨b, off, h, h2⟩ := h
  exact ⟨b, off, h.same hs, h2⟩
theorem l1All_rd (xs : List Int) (a : Option Addr) (cap B : Nat) (lo hi : Int) (w : World) (h : RdS w B a xs) :
    Calls Try.prog 99 #[.slice a xs.length cap, .int .i64 lo, .int .i64 hi] w fun e w' => e = .returned (.bool (allB lo hi xs)) ∧ w = w' := by
  obtain ⟨b, off, h, -⟩ := h
  exact l1All_any xs a b off _ cap lo hi w rfl h
set_option maxHeartbeats 800000 in
theorem ckTastes_side (n : Nat) (h1 : 1 ≤ n) (h2 : n ≤ 8) (ts : List (List Int)) (a : Option Addr) (cap B : Nat) (w : World) (h : RdSS w B a ts) :
    Calls Try.prog 67 #[.int .i64 n, .slice a ts.length cap] w fun e w' => e = .returned (.bool (rowsB n 9 ts)) ∧ w = w' := by
  obtain ⟨hm, b, off, hc⟩ := h
  unfold maxLen at hm
  have HC := Lib.hid hc
  clear hc
  by_cases h3 : ts.length = 3
  · have hne : ((ts.length : Int) != 3) = false := by rw [h3]; rfl
    have HL := Lib.hid h3
    have hl3 : ts.length ≤ 3 := by omega
    clear h3
    go_enter Try.func67, Try.ntmps67
    go_wp2_with fail
    refine (meSide_yes n h1 h2 _).mono ?_
    rintro e w' ⟨rfl, rfl⟩
    go_wp2_with fail
    go_loop [17] (fun vk => ∃ k : Nat, k ≤ ts.length ∧ vk = .int .i64 k ∧ ∀ j, j < k → okT n 9 (ts.getD j []) = true) (fun vk => ts.length - (intOf vk).toNat)
    case atStart => exact ⟨0, Nat.zero_le _, rfl, by omega⟩
    case round =>
      obtain ⟨k, hk, rfl, hall⟩ := hrel
      have HA := Lib.hid hall
      clear hall
      by_cases hlt : k < ts.length
      · obtain ⟨ha, hbl, ra, rc, c1, hr⟩ := HC.out k hlt
        subst ha
        have hi : (k : Int) < (ts.length : Int) := by omega
        have HR := Lib.hid hr
        have HNO := Lib.hid (rowsB_no n 9 ts k hlt)
        have HX : Hid (okT n 9 (ts.getD k []) = true → ∀ j, j < k + 1 → okT n 9 (ts.getD j []) = true) := Lib.hid (fun hx j hj => by
          by_cases e : j = k
          · rw [e]; exact hx
          · exact HA.out j (by omega))
        have HM : Hid ((ts.getD k []).length ≤ maxLen) := Lib.hid (rds_max hr)
        clear hr HA
        generalize ts.getD k [] = t at *
        by_cases hln : t.length = n
        · have hne2 : ((t.length : Int) != (n : Int)) = false := by rw [hln]; simp
          have HLN := Lib.hid hln
          clear hln
          go_wp2_with fail
          refine (l1All_rd t ra rc B 0 9 w HR.out).mono ?_
          rintro e w' ⟨rfl, rfl⟩
          cases hA : allB 0 9 t
          · go_wp2_with fail
            go_ret
            exact ⟨ret_bool (HNO.out (by simp [okT, hA])).symm, rfl⟩
          · have HAl := Lib.hid hA
            clear hA
            go_wp2_with fail
            go_round
            case rel => exact ⟨k + 1, by omega, by go_num, HX.out (by simp [okT, HAl.out, HLN.out])⟩
            case measure => simp [intOf]; omega
        · have hne2 : ((t.length : Int) != (n : Int)) = true := by simp; omega
          have hF := Lib.hid (HNO.out (by simp [okT, hln]))
          clear hln HNO
          go_wp2_with fail
          go_ret
          exact ⟨ret_bool hF.out.symm, rfl⟩
      · have hk2 : ts.length = k := by omega
        have hT := Lib.hid (rowsB_yes n 9 ts HL.out (fun j hj => HA.out j (by omega)))
        clear hk2
        go_wp2_with fail
        go_ret
        exact ⟨ret_bool hT.out.symm, rfl⟩
  · have hne : ((ts.length : Int) != 3) = true := by simp; omega
    have hF := Lib.hid (rowsB_len n 9 ts h3)
    clear h3
    go_enter Try.func67, Try.ntmps67
    go_wp2_with fail
    refine (meSide_yes n h1 h2 _).mono ?_
    rintro e w' ⟨rfl, rfl⟩
    go_wp2_with fail
    go_ret
    exact ⟨ret_bool hF.out.symm, rfl⟩
set_option maxHeartbeats 800000 in
theorem ckTastes_any (n : Int) (ts : List (List Int)) (a : Option Addr) (cap B : Nat) (w : World) (h : RdSS w B a ts) :
    Calls Try.prog 67 #[.int .i64 n, .slice a ts.length cap] w fun e w' => e = .returned (.bool (tstB n ts)) ∧ w = w' := by
  by_cases hn : 1 ≤ n ∧ n ≤ 8
  · obtain ⟨n, rfl⟩ := Int.eq_ofNat_of_zero_le (show 0 ≤ n by omega)
    have e : tstB n ts = rowsB n 9 ts := by simp [tstB]; omega
    rw [e]
    exact ckTastes_side n (by omega) (by omega) ts a cap B w h
  · have e : tstB n ts = false := by simp [tstB]; omega
    rw [e]
    have HN := Lib.hid hn
    clear hn e h
    go_enter Try.func67, Try.ntmps67
    go_wp2_with fail
    refine (meSide_no n HN.out _).mono ?_
    rintro e w' ⟨rfl, rfl⟩
    go_wp2_with fail
    go_ret
    exact ⟨rfl, rfl⟩
end Go.Proofs.Ytgloelhpnhofgaa

namespace Go.Proofs.Ytgloelhpnhofgaa
open Go.RowKit
set_option maxRecDepth 4000
/-- The closure that finds a number out of bounds. -/
def outC (g : Nat) : Value := .func (.func 128) #[] #[.pointer (some ⟨g, 0, none⟩)]
def outB (hi x : Int) : Bool := decide (x < 0) || decide (hi < x)
set_option maxHeartbeats 400000 in
theorem outC_any (g : Nat) (hi x : Int) (w : World) (hc : w.cell? ⟨g, 0, none⟩ = some (.int .i64 hi)) :
    Calls Try.prog 128 #[.int .i64 x, .pointer (some ⟨g, 0, none⟩)] w fun e w' => e = .returned (.bool (outB hi x)) ∧ w = w' := by
  by_cases h1 : x < 0
  · go_enter Try.func128, Try.ntmps128
    go_wp2_with fail
    go_ret
    exact ⟨ret_bool (by simp [outB, h1]), rfl⟩
  · by_cases h2 : hi < x
    · go_enter Try.func128, Try.ntmps128
      go_wp2_with fail
      go_ret
      exact ⟨ret_bool (by simp [outB, h2]), rfl⟩
    · go_enter Try.func128, Try.ntmps128
      go_wp2_with fail
      go_ret
      exact ⟨ret_bool (by simp [outB, h1, h2]), rfl⟩
theorem outB_all {hi : Int} {xs : List Int} (h : ∀ j, j < xs.length → outB hi (xs.getD j 0) = false) : allB 0 hi xs = true :=
  allB_yes 0 hi xs (fun k hk => by have := h k hk; simp only [outB, Bool.or_eq_false_iff, decide_eq_false_iff_not] at this; omega)
theorem outB_no {hi : Int} {xs : List Int} (k : Nat) (hk : k < xs.length) (h : outB hi (xs.getD k 0) = true) : allB 0 hi xs = false :=
  allB_no 0 hi xs k hk (fun hh => by simp only [outB, Bool.or_eq_true, decide_eq_true_eq] at h; omega)
set_option maxHeartbeats 800000 in
theorem indexFunc_out (xs : List Int) (a : Option Addr) (cap B g : Nat) (hi : Int) (w : World) (h : RdS w B a xs) (hc : w.cell? ⟨g, 0, none⟩ = some (.int .i64 hi)) :
    Calls Try.prog 132 #[.slice a xs.length cap, outC g] w fun e w' => ∃ r, e = .returned (.int .i64 r) ∧ w = w' ∧ -1 ≤ r ∧ (decide (0 ≤ r)) = !(allB 0 hi xs) := by
  obtain ⟨b, off, hr, -⟩ := h
  have hm := hr.1
  unfold maxLen at hm
  have HR := Lib.hid hr.2
  have HOC : Hid (outC g = .func (.func 128) #[] #[.pointer (some ⟨g, 0, none⟩)]) := Lib.hid rfl
  clear hr
  rw [HOC.out]
  go_enter Try.func132, Try.ntmps132
  go_wp2_with fail
  go_loop [8] (fun vk => ∃ k : Nat, k ≤ xs.length ∧ vk = .int .i64 k ∧ ∀ j, j < k → outB hi (xs.getD j 0) = false) (fun vk => xs.length - (intOf vk).toNat)
  case atStart => exact ⟨0, Nat.zero_le _, rfl, by omega⟩
  case round =>
    obtain ⟨k, hk, rfl, hall⟩ := hrel
    have HA := Lib.hid hall
    clear hall
    by_cases hlt : k < xs.length
    · obtain ⟨ha, c1⟩ := HR.out k hlt
      subst ha
      have hki : (k : Int) < (xs.length : Int) := by omega
      have HNO := Lib.hid (outB_no (hi := hi) (xs := xs) k hlt)
      have HX : Hid (outB hi (xs.getD k 0) = false → ∀ j, j < k + 1 → outB hi (xs.getD j 0) = false) := Lib.hid (fun hx j hj => by
        by_cases e : j = k
        · rw [e]; exact hx
        · exact HA.out j (by omega))
      clear HA
      generalize xs.getD k 0 = x at *
      go_wp2_with fail
      refine (outC_any g hi x w hc).mono ?_
      rintro e w' ⟨rfl, rfl⟩
      cases hO : outB hi x
      · have HOx := Lib.hid hO
        clear hO
        go_wp2_with fail
        go_round
        case rel => exact ⟨k + 1, by omega, by go_num, HX.out HOx.out⟩
        case measure => simp [intOf]; omega
      · have HF := Lib.hid (HNO.out hO)
        clear hO
        go_wp2_with fail
        go_ret
        exact ⟨_, rfl, rfl, by omega, by rw [HF.out]; simp⟩
    · have hk2 : xs.length = k := by omega
      have hT := Lib.hid (outB_all (hi := hi) (xs := xs) (fun j hj => HA.out j (by omega)))
      clear hk2
      go_wp2_with fail
      go_ret
      exact ⟨_, rfl, rfl, by omega, by rw [hT.out]; simp⟩
set_option maxHeartbeats 400000 in
theorem containsFunc_out (xs : List Int) (a : Option Addr) (cap B g : Nat) (hi : Int) (w : World) (h : RdS w B a xs) (hc : w.cell? ⟨g, 0, none⟩ = some (.int .i64 hi)) :
    Calls Try.prog 127 #[.slice a xs.length cap, outC g] w fun e w' => e = .returned (.bool (!(allB 0 hi xs))) ∧ w = w' := by
  have H := Lib.hid (indexFunc_out xs a cap B g hi w h hc)
  clear h hc
  go_enter Try.func127, Try.ntmps127
  go_wp2_with fail
  refine H.out.mono ?_
  rintro e w' ⟨r, rfl, rfl, hr, hd⟩
  have HD := Lib.hid hd
  clear hd
  go_wp2_with fail
  go_ret
  exact ⟨ret_bool (by rw [← HD.out]; try simp), rfl⟩
set_option maxHeartbeats 1600000 in
theorem areForPeople_any (m : Nat) (hi : Int) (ts : List (List Int)) (a : Option Addr) (cap : Nat) (w : World) (h : RdSS w w.heap.size a ts) :
    Calls Try.prog 123 #[.slice a ts.length cap, .int .i64 m, .int .i64 hi] w fun e w' => e = .returned (.bool (rowsB m hi ts)) ∧ Below w.heap.size w w' := by
  have hmf : ∀ (fn : Fn) (first cap : Array Value) (w : World), (Instr.makeFunc fn first cap).run Try.prog w = .ok (.func fn first cap) w := fun _ _ _ _ => rfl
  have HRD := Lib.hid h
  have hm := h.1
  unfold maxLen at hm
  clear h
  obtain ⟨w1, hw1⟩ : ∃ w1, w1 = w.alloc (.cells #[.int .i64 hi] 3) := ⟨_, rfl⟩
  have hB1 : Below w.heap.size w w1 := by rw [hw1]; exact balloc (Below.refl _ _) _
  have hc1 : w1.cell? ⟨w.heap.size, 0, none⟩ = some (.int .i64 hi) := by rw [hw1, World.cell?_alloc_at _ _ _ _ rfl]; rfl
  have hz1 : w.heap.size < w1.heap.size := by rw [hw1]; simp
  by_cases h3 : ts.length = 3
  · have hne : ((ts.length : Int) != 3) = false := by rw [h3]; rfl
    have HL := Lib.hid h3
    have hl3 : ts.length ≤ 3 := by omega
    have HW1 := Lib.hid hw1
    clear h3 hw1
    go_enter Try.func123, Try.ntmps123
    go_wp2_with fail
    rw [← HW1.out]
    go_loop [14] (fun vk => ∃ k : Nat, k ≤ ts.length ∧ vk = .int .i64 k ∧ ∀ j, j < k → okT m hi (ts.getD j []) = true) (fun vk => ts.length - (intOf vk).toNat)
    case atStart => exact ⟨0, Nat.zero_le _, rfl, by omega⟩
    case round =>
      obtain ⟨k, hk, rfl, hall⟩ := hrel
      have HA := Lib.hid hall
      clear hall
      by_cases hlt : k < ts.length
      · obtain ⟨-, b, off, hrow⟩ := rdss_later HRD.out hB1
        obtain ⟨ha, hbl, ra, rc, c1, hr⟩ := hrow k hlt
        subst ha
        have hki : (k : Int) < (ts.length : Int) := by omega
        have HR := Lib.hid hr
        have HNO := Lib.hid (rowsB_no m hi ts k hlt)
        have HX : Hid (okT m hi (ts.getD k []) = true → ∀ j, j < k + 1 → okT m hi (ts.getD j []) = true) := Lib.hid (fun hx j hj => by
          by_cases e : j = k
          · rw [e]; exact hx
          · exact HA.out j (by omega))
        clear hr HA hrow
        generalize ts.getD k [] = t at *
        by_cases hln : t.length = m
        · have hne2 : ((t.length : Int) != (m : Int)) = false := by rw [hln]; simp
          have HLN := Lib.hid hln
          clear hln
          go_wp2_with fail
          refine (containsFunc_out t ra rc _ w.heap.size hi w1 HR.out hc1).mono ?_
          rintro e w' ⟨rfl, rfl⟩
          cases hA : allB 0 hi t
          · go_wp2_with fail
            go_ret
            exact ⟨ret_bool (HNO.out (by simp [okT, hA])).symm, hB1⟩
          · have HAl := Lib.hid hA
            clear hA
            go_wp2_with fail
            go_round
            case rel => exact ⟨k + 1, by omega, by go_num, HX.out (by simp [okT, HAl.out, HLN.out])⟩
            case measure => simp [intOf]; omega
        · have hne2 : ((t.length : Int) != (m : Int)) = true := by simp; omega
          have hF := Lib.hid (HNO.out (by simp [okT, hln]))
          clear hln HNO
          go_wp2_with fail
          go_ret
          exact ⟨ret_bool hF.out.symm, hB1⟩
      · have hk2 : ts.length = k := by omega
        have hT := Lib.hid (rowsB_yes m hi ts HL.out (fun j hj => HA.out j (by omega)))
        clear hk2
        go_wp2_with fail
        go_ret
        exact ⟨ret_bool hT.out.symm, hB1⟩
  · have hne : ((ts.length : Int) != 3) = true := by simp; omega
    have hF := Lib.hid (rowsB_len m hi ts h3)
    have HW1 := Lib.hid hw1
    clear h3 hw1
    go_enter Try.func123, Try.ntmps123
    go_wp2_with fail
    rw [← HW1.out]
    go_ret
    exact ⟨ret_bool hF.out.symm, hB1⟩
end Go.Proofs.Ytgloelhpnhofgaa

namespace Go.Proofs.Ytgloelhpnhofgaa
open Go.RowKit
set_option maxRecDepth 4000
/-- A cake as it lies in memory: its side, and how much each person likes each slice. -/
def cakeF (n : Nat) (f : Nat → Int) : Array Value := (Value.int .i64 n :: (List.range 24).map fun q => Value.int .i64 (f q)).toArray
def zeroC : Array Value := cakeF 0 fun _ => 0
theorem cakeF_size (n : Nat) (f : Nat → Int) : (cakeF n f).size = 25 := by simp [cakeF]
theorem zeroC_size : zeroC.size = 25 := cakeF_size _ _
theorem cakeF_one (n : Nat) (f : Nat → Int) : (cakeF n f).all (·.oneCell') = true := by
  simp only [cakeF, List.all_toArray, List.all_cons, List.all_map, Bool.and_eq_true, List.all_eq_true]
  exact ⟨rfl, fun _ _ => rfl⟩
theorem zeroC_one : zeroC.all (·.oneCell') = true := cakeF_one _ _
theorem cakeF_at (n : Nat) (f : Nat → Int) (q : Nat) (h : q < 24) : (cakeF n f)[1 + q]? = some (.int .i64 (f q)) := by
  simp only [cakeF, List.getElem?_toArray]
  rw [show 1 + q = q + 1 by omega, List.getElem?_cons_succ, List.getElem?_map, List.getElem?_range h]
  rfl
theorem cakeF_zero (n : Nat) (f : Nat → Int) : (cakeF n f)[0]? = some (.int .i64 n) := by simp [cakeF]
theorem cakeF_congr (n : Nat) {f g : Nat → Int} (h : ∀ q, q < 24 → f q = g q) : cakeF n f = cakeF n g := by
  unfold cakeF
  congr 2
  exact List.map_congr_left fun q hq => by rw [h q (by simpa using hq)]
theorem cakeF_set (n : Nat) (f : Nat → Int) (q : Nat) (x : Int) (h : q < 24) : (cakeF n f).setIfInBounds (1 + q) (.int .i64 x) = cakeF n (fun p => if p = q then x else f p) := by
  apply Array.ext_getElem?
  intro i
  rw [Array.getElem?_setIfInBounds]
  cases i with
  | zero => rw [if_neg (by omega), cakeF_zero, cakeF_zero]
  | succ p =>
    by_cases e : 1 + q = p + 1
    · rw [if_pos e, if_pos (by rw [cakeF_size]; omega)]
      have e2 : p = q := by omega
      subst e2
      rw [show p + 1 = 1 + p by omega, cakeF_at _ _ _ h, if_pos rfl]
    · rw [if_neg e]
      by_cases hp : p < 24
      · rw [show p + 1 = 1 + p by omega, cakeF_at _ _ _ hp, cakeF_at _ _ _ hp, if_neg (by omega)]
      · rw [Array.getElem?_eq_none (by rw [cakeF_size]; omega), Array.getElem?_eq_none (by rw [cakeF_size]; omega)]
theorem blkCake : Blk 88 25 := ⟨.inl ⟨_, Try.underlying88⟩, by kernel_rfl⟩
theorem run_alloc_cake (w : World) : (Instr.alloc 88 true (.tuple #[])).run Try.prog w = .ok (.pointer (some ⟨w.heap.size, 0, none⟩)) (w.alloc (.cells zeroC 88)) := by kernel_rfl
theorem run_build0_cake (w : World) : (Instr.build 88 #[]).run Try.prog w = .ok (.agg zeroC) w := by kernel_rfl
theorem run_buildn_cake (n : Nat) (w : World) : (Instr.build 88 #[(0, .agg #[.int .i64 n])]).run Try.prog w = .ok (.agg (cakeF n fun _ => 0)) w := by kernel_rfl
section
variable {ops : Array Oper} {rest : List Oper} {o : Oper} {a : Act} {w : World} {Q : Exit → Act → World → Prop}
theorem build0_cake (hgd : o.guard = none) (ho : o.op = .build 88 #[])
    (h : wpList Try.prog ops Q rest (a.put o.dst (.agg zeroC)) w) : wpList Try.prog ops Q (o :: rest) a w := by
  refine wpList_plain hgd fun K hK => ?_
  unfold Oper.wp
  simp [execOp, ho, run_build0_cake, Result.andThen]
  exact hK _ _ h
theorem buildn_cake (hgd : o.guard = none) (x : Operand) (n : Nat) (ho : o.op = .build 88 #[(0, x)]) (hx : a.eval x = .agg #[.int .i64 n])
    (h : wpList Try.prog ops Q rest (a.put o.dst (.agg (cakeF n fun _ => 0))) w) : wpList Try.prog ops Q (o :: rest) a w := by
  refine wpList_plain hgd fun K hK => ?_
  unfold Oper.wp
  simp [execOp, ho, hx, run_buildn_cake, Result.andThen]
  exact hK _ _ h
end
/-- How much somebody likes a slice, by the cell where it lies. -/
def tv (ts : List (List Int)) (q : Nat) : Int := (ts.getD (q % 3) []).getD (q / 3) 0
def cakeA (n : Nat) (ts : List (List Int)) : Array Value := cakeF n (tv ts)
theorem cakeA_size (n : Nat) (ts : List (List Int)) : (cakeA n ts).size = 25 := cakeF_size _ _
theorem cakeA_one (n : Nat) (ts : List (List Int)) : (cakeA n ts).all (·.oneCell') = true := cakeF_one _ _
end Go.Proofs.Ytgloelhpnhofgaa

namespace Go.Proofs.Ytgloelhpnhofgaa
open Go.RowKit
set_option maxRecDepth 4000
set_option maxHeartbeats 1600000 in
theorem withTastes_no (n : Nat) (_h1 : 1 ≤ n) (_h2 : n ≤ 8) (ts : List (List Int)) (a : Option Addr) (cap : Nat) (w : World) (h : RdSS w w.heap.size a ts) (hno : rowsB n 9 ts = false) :
    Calls Try.prog 103 #[.agg #[.int .i64 n], .slice a ts.length cap] w fun e w' => e = .returned (.tuple #[.agg zeroC, .bool false]) ∧ Below w.heap.size w w' := by
  have HRD := Lib.hid h
  have HNO := Lib.hid hno
  clear h hno
  go_enter Try.func103, Try.ntmps103
  go_wp2_with (with_reducible refine alloc_blk zeroC run_alloc_cake rfl rfl ?_)
  have hb0 := balloc (balloc (Below.refl w.heap.size w) (.cells #[.int .i64 n] 55)) (.cells zeroC 88)
  refine (areForPeople_any n 9 ts a cap _ (rdss_mono (rdss_later HRD.out hb0) hb0.size)).mono ?_
  rintro e w1 ⟨rfl, hb1⟩
  rw [HNO.out]
  have hB1 := bnext hb0 hb1
  have hg : w1.heap[w.heap.size + 1]? = some (.cells zeroC 88 (0, 0)) := by
    refine (hb1.block _ (by simp)).trans ?_
    have := heap_alloc_new (w.alloc (.cells #[.int .i64 n] 55)) (.cells zeroC 88)
    rwa [World.size_alloc] at this
  have HG := Lib.hid hg
  clear hg hb0 hb1
  go_wp2_with (first | (with_reducible refine build0_cake rfl rfl ?_) | ((with_reducible refine store_blk blkCake rfl _ _ rfl (w.heap.size + 1) zeroC zeroC ?_ ?_ HG.out zeroC_size zeroC_size zeroC_one (w.heap.size + 1) (Nat.le_refl _) ?_); exact rfl; exact rfl; intro w4 hg4 hb4 _ _; have hB4 := hB1.trans (hb4.mono (Nat.le_succ _))))
  exact bodyPost_ret (results_blk blkCake rfl _ _ (w.heap.size + 1) _ _ rfl rfl hg4 zeroC_size) rfl ⟨rfl, hB4⟩

set_option maxHeartbeats 3200000 in
theorem withTastes_yes (n : Nat) (h1 : 1 ≤ n) (h2 : n ≤ 8) (ts : List (List Int)) (a : Option Addr) (cap : Nat) (w : World) (h : RdSS w w.heap.size a ts) (hyes : rowsB n 9 ts = true) :
    Calls Try.prog 103 #[.agg #[.int .i64 n], .slice a ts.length cap] w fun e w' => e = .returned (.tuple #[.agg (cakeA n ts), .bool true]) ∧ Below w.heap.size w w' := by
  have HRD := Lib.hid h
  obtain ⟨hl3, hrow⟩ := rowsB_at hyes
  have HY := Lib.hid hyes
  have HROW := Lib.hid hrow
  have HL3 := Lib.hid hl3
  clear h hyes hrow hl3
  go_enter Try.func103, Try.ntmps103
  go_wp2_with (with_reducible refine alloc_blk zeroC run_alloc_cake rfl rfl ?_)
  have hb0 := balloc (balloc (Below.refl w.heap.size w) (.cells #[.int .i64 n] 55)) (.cells zeroC 88)
  refine (areForPeople_any n 9 ts a cap _ (rdss_mono (rdss_later HRD.out hb0) hb0.size)).mono ?_
  rintro e w1 ⟨rfl, hb1⟩
  rw [HY.out]
  have hB1 := bnext hb0 hb1
  have hg : w1.heap[w.heap.size + 1]? = some (.cells zeroC 88 (0, 0)) := by
    refine (hb1.block _ (by simp)).trans ?_
    have := heap_alloc_new (w.alloc (.cells #[.int .i64 n] 55)) (.cells zeroC 88)
    rwa [World.size_alloc] at this
  have hm1 : w1.cell? ⟨w.heap.size, 0, none⟩ = some (.int .i64 n) := by
    refine (hb1.cell (by simp; omega)).trans ?_
    rw [World.cell?_alloc_past _ _ _ (by simp [World.size_alloc]), World.cell?_alloc_at _ _ _ _ rfl]; rfl
  have hz1 : w.heap.size + 2 ≤ w1.heap.size := by have := hb1.size; simpa using this
  have HG := Lib.hid hg
  clear hg hb0 hb1
  go_wp2_with (first | (with_reducible refine alloc_blk zeroC run_alloc_cake rfl rfl ?_) | ((with_reducible refine buildn_cake rfl _ n rfl ?_ ?_); exact rfl) | ((with_reducible refine store_blk blkCake rfl _ _ rfl w1.heap.size (cakeF n fun _ => 0) zeroC ?_ ?_ (heap_alloc_new _ _) zeroC_size (cakeF_size _ _) (cakeF_one _ _) w1.heap.size (Nat.le_refl _) ?_); exact rfl; exact rfl; intro w2 hg2 hb2 _ hsz2))
  have hB2 : Below w.heap.size w w2 := (balloc hB1 _).trans (hb2.mono (by omega))
  have hz2 : w1.heap.size < w2.heap.size := by rw [hsz2]; simp
  have HG2 := Lib.hid (((hb2.block _ (by omega)).trans (Below.heap_alloc w1 _ _ (by omega))).trans HG.out)
  clear hb2 hsz2 hm1
  go_wp2_with fail
  go_loopw [21] (fun v21 wr => ∃ (p : Nat) (f : Nat → Int), p ≤ ts.length ∧ v21 = .int .i64 p ∧ wr.heap[w1.heap.size]? = some (.cells (cakeF n f) 88 (0, 0)) ∧ (∀ q, q < 24 → f q = if q % 3 < p then tv ts q else 0) ∧ Below w.heap.size w wr ∧ wr.heap[w.heap.size + 1]? = some (.cells zeroC 88 (0, 0))) (fun v21 _ => ts.length - (intOf v21).toNat)
  case atStart => exact ⟨0, fun _ => 0, Nat.zero_le _, rfl, hg2, fun q _ => by rw [if_neg (by omega)], hB2, HG2.out⟩
  case round =>
    clear hg2 HG2 hB2
    obtain ⟨p, f, hp, rfl, hg, hf, hb, hg4⟩ := hrel
    obtain ⟨wo, rfl⟩ : ∃ wo : World, wo = wr := ⟨_, rfl⟩
    have HF := Lib.hid hf
    have HG4 := Lib.hid hg4
    clear hf hg4
    by_cases hlt : p < ts.length
    · obtain ⟨-, b, off, hrow⟩ := HRD.out
      obtain ⟨ha, hbl, ra, rc, c0, rb, ro, hr, hrb⟩ := hrow p hlt
      obtain ⟨htl, hta⟩ := HROW.out p hlt
      subst ha
      have c1 := (hb.cell (p := ⟨b, off + p, none⟩) hbl).trans c0
      have hpi : (p : Int) < (ts.length : Int) := by omega
      have hp3 : (p : Int) < 3 := by have := HL3.out; omega
      have HTV : Hid (∀ q j, q % 3 = p → q / 3 = j → tv ts q = (ts.getD p []).getD j 0) := Lib.hid (fun q j h1 h2 => by rw [tv, h1, h2])
      have HR := Lib.hid hr
      clear hrow c0 hta hr
      generalize ts.getD p [] = t at *
      have hn1 : t.length = n := htl
      have HTL := Lib.hid htl
      have htb : t.length ≤ 8 := by omega
      clear htl hn1
      go_wp2_with fail
      go_loopw [28] (fun v28 wr => ∃ (j : Nat) (f : Nat → Int), j ≤ t.length ∧ v28 = .int .i64 j ∧ wr.heap[w1.heap.size]? = some (.cells (cakeF n f) 88 (0, 0)) ∧ (∀ q, q < 24 → f q = if q % 3 < p ∨ (q % 3 = p ∧ q / 3 < j) then tv ts q else 0) ∧ Below w.heap.size w wr ∧ wr.heap[w.heap.size + 1]? = some (.cells zeroC 88 (0, 0))) (fun v28 _ => t.length - (intOf v28).toNat)
      case atStart => exact ⟨0, f, Nat.zero_le _, rfl, hg, fun q hq => by rw [HF.out q hq]; congr 1; simp, hb, HG4.out⟩
      case round =>
        clear hg HG4 hb HF c1
        obtain ⟨j, f, hj, rfl, hg, hf, hb, hg4⟩ := hrel
        have HF := Lib.hid hf
        have HG4 := Lib.hid hg4
        clear hf hg4
        by_cases hltj : j < t.length
        · obtain ⟨hra, cj⟩ := HR.out.2 j hltj
          subst hra
          have hrb' : rb < w.heap.size := by omega
          have c2 := (hb.cell (p := ⟨rb, ro + j, none⟩) hrb').trans cj
          have HX := Lib.hid (HTV.out (3 * j + p) j (by omega) (by omega))
          have hji : (j : Int) < (t.length : Int) := by omega
          have hj8 : (j : Int) < 8 := by omega
          have c3 := blk_cell hg (1 + (3 * j + p)) _ (cakeF_at n f (3 * j + p) (by omega))
          have f3 := frozen_of_row wr w1.heap.size (1 + (3 * j + p)) _ _ hg
          have HS := Lib.hid (heap_setCell_same wr w1.heap.size (1 + (3 * j + p)) _ _ (.int .i64 (t.getD j 0)) hg)
          rw [cakeF_set n f (3 * j + p) _ (by omega)] at HS
          rw [show 1 + (3 * j + p) = 1 + j * 3 + p by omega] at c3 f3 HS
          have HE : Hid (∀ q, q < 24 → (if q = 3 * j + p then t.getD j 0 else f q) = if q % 3 < p ∨ (q % 3 = p ∧ q / 3 < j + 1) then tv ts q else 0) := Lib.hid (fun q hq => by
            by_cases e : q = 3 * j + p
            · rw [if_pos e, if_pos (by omega), e, HX.out]
            · rw [if_neg e, HF.out q hq]
              congr 1
              simp only [eq_iff_iff]
              omega)
          have HG5 : Hid (∀ v, (wr.setCell ⟨w1.heap.size, 1 + j * 3 + p, none⟩ v).heap[w.heap.size + 1]? = some (.cells zeroC 88 (0, 0))) := Lib.hid (fun v => (Below.heap_setCell _ _ _ _ (by show w.heap.size + 1 ≠ w1.heap.size; omega)).trans HG4.out)
          clear cj HX HF HG4
          generalize t.getD j 0 = x at *
          generalize f (3 * j + p) = old at c3
          go_wp2_with fail
          go_roundw
          case rel => exact ⟨j + 1, _, by omega, by go_num, HS.out, HE.out, hb.setCell (p := ⟨w1.heap.size, 1 + j * 3 + p, none⟩) (by show w.heap.size ≤ w1.heap.size; omega) _, HG5.out _⟩
          case measure => simp [intOf]; omega
        · have hj2 : j = t.length := by omega
          have HE : Hid (∀ q, q < 24 → f q = if q % 3 < p + 1 then tv ts q else 0) := Lib.hid (fun q hq => by
            rw [HF.out q hq]
            by_cases h1 : q % 3 < p
            · rw [if_pos (.inl h1), if_pos (by omega)]
            · by_cases h2 : q % 3 = p
              · rw [if_pos (show q % 3 < p + 1 by omega)]
                by_cases h3 : q / 3 < j
                · rw [if_pos (.inr ⟨h2, h3⟩)]
                · rw [if_neg (by omega), HTV.out q (q / 3) h2 rfl, List.getD_eq_getElem?_getD, List.getElem?_eq_none (by omega)]; rfl
              · rw [if_neg (by omega), if_neg (by omega)])
          clear HF hj2
          go_wp2_with fail
          go_roundw
          case rel => exact ⟨p + 1, f, by omega, by go_num, hg, HE.out, hb, HG4.out⟩
          case measure => simp [intOf]; omega
    · have hp2 : p = 3 := by have := HL3.out; omega
      have HE : Hid (cakeF n f = cakeA n ts) := Lib.hid (cakeF_congr n (fun q hq => by rw [HF.out q hq, if_pos (by omega)]))
      rw [HE.out] at hg
      clear hp2 HF HE
      go_wp2_with (first | ((with_reducible refine load_blk blkCake ?_ _ rfl w1.heap.size ?_ (cakeA n ts) hg (cakeA_size _ _) ?_); exact rfl; exact rfl; simp only [Act.put, List.setIfInBounds_toArray, List.set_cons_zero, List.set_cons_succ]) | ((with_reducible refine store_blk blkCake rfl _ _ rfl (w.heap.size + 1) (cakeA n ts) zeroC ?_ ?_ HG4.out zeroC_size (cakeA_size _ _) (cakeA_one _ _) (w.heap.size + 1) (Nat.le_refl _) ?_); exact rfl; exact rfl; intro w4 hg4 hb4 _ _; have hB4 := hb.trans (hb4.mono (Nat.le_succ _))))
      exact bodyPost_ret (results_blk blkCake rfl _ _ (w.heap.size + 1) _ _ rfl rfl hg4 (cakeA_size _ _)) rfl ⟨rfl, hB4⟩
end Go.Proofs.Ytgloelhpnhofgaa

namespace Go.Proofs.Ytgloelhpnhofgaa
open Go.RowKit
set_option maxRecDepth 4000
/-- The sum of k numbers from lo on. -/
def sl (t : List Int) (lo k : Nat) : Int := ((t.drop lo).take k).sum
theorem sl_zero (t : List Int) (lo : Nat) : sl t lo 0 = 0 := by simp [sl]
theorem sl_succ (t : List Int) (lo k : Nat) : sl t lo (k + 1) = sl t lo k + t.getD (lo + k) 0 := by
  unfold sl
  rw [List.take_add_one, List.sum_append, List.getElem?_drop, List.getD_eq_getElem?_getD]
  cases t[lo + k]? <;> simp
theorem getD_bd {lo hi : Int} (hl : lo ≤ 0) (hh : 0 ≤ hi) {t : List Int} (h : allB lo hi t = true) (k : Nat) : lo ≤ t.getD k 0 ∧ t.getD k 0 ≤ hi := by
  by_cases hk : k < t.length
  · exact allB_at h k hk
  · rw [List.getD_eq_getElem?_getD, List.getElem?_eq_none (by omega)]
    simp; omega
theorem sl_bd {t : List Int} (h : allB 0 9 t = true) (lo : Nat) : ∀ k : Nat, 0 ≤ sl t lo k ∧ sl t lo k ≤ 9 * (k : Int)
  | 0 => by rw [sl_zero]; simp
  | k + 1 => by
    have h1 := sl_bd h lo k
    have h2 := getD_bd (by omega) (by omega) h (lo + k)
    rw [sl_succ]
    omega
/-- The sizes of the three pieces at a point, and the slices ahead of each. -/
def sz3 (n i k : Nat) : Nat := if k = 0 then n - Pr.R i else if k = 1 then Pr.R i - Pr.C i else if k = 2 then Pr.C i else 0
def pre3 (n i k : Nat) : Nat := if k = 0 then 0 else if k = 1 then n - Pr.R i else if k = 2 then n - Pr.C i else n
theorem pre3_succ (n i k : Nat) (hR : Pr.R i ≤ n) (hC : Pr.C i ≤ Pr.R i) (hk : k < 3) : pre3 n i (k + 1) = pre3 n i k + sz3 n i k := by
  unfold pre3 sz3
  rcases (by omega : k = 0 ∨ k = 1 ∨ k = 2) with rfl | rfl | rfl <;> simp <;> omega
theorem pre3_le (n i k : Nat) (hR : Pr.R i ≤ n) (hC : Pr.C i ≤ Pr.R i) (hk : k < 3) : pre3 n i k + sz3 n i k ≤ n := by
  unfold pre3 sz3
  rcases (by omega : k = 0 ∨ k = 1 ∨ k = 2) with rfl | rfl | rfl <;> simp <;> omega
theorem sz3_pt (n i k : Nat) (hR : Pr.R i ≤ n) (hC : Pr.C i ≤ Pr.R i) (hk : k < 3) : (pt n i).getD k 0 = (sz3 n i k : Nat) := by
  unfold pt sz3
  rcases (by omega : k = 0 ∨ k = 1 ∨ k = 2) with rfl | rfl | rfl <;> simp <;> omega
/-- What a piece is worth. -/
def worth (t : List Int) (n i k : Nat) : Int := sl t (pre3 n i k) (sz3 n i k)
def pcs (t : List Int) (n i : Nat) : List Int := [worth t n i 0, worth t n i 1, worth t n i 2]
theorem worth_bd {t : List Int} (h : allB 0 9 t = true) (n i k : Nat) (h2 : n ≤ 8) (hR : Pr.R i ≤ n) (hC : Pr.C i ≤ Pr.R i) (hk : k < 3) : 0 ≤ worth t n i k ∧ worth t n i k ≤ 72 := by
  have h1 := sl_bd h (pre3 n i k) (sz3 n i k)
  have h3 := pre3_le n i k hR hC hk
  unfold worth
  omega
/-- The worths while they are summed up: those of the first k pieces, and m slices of the next one. -/
def outL (t : List Int) (n i k m : Nat) : List Int := (List.range 3).map fun j => if j < k then worth t n i j else if j = k then sl t (pre3 n i k) m else 0
theorem outL_at (t : List Int) (n i k m j : Nat) (hj : j < 3) : (outL t n i k m)[j]? = some (if j < k then worth t n i j else if j = k then sl t (pre3 n i k) m else 0) := by
  rw [outL, List.getElem?_map, List.getElem?_range hj]; rfl
theorem outL_len (t : List Int) (n i k m : Nat) : (outL t n i k m).length = 3 := by simp [outL]
theorem outL_zero (t : List Int) (n i : Nat) : outL t n i 0 0 = [0, 0, 0] := by
  simp only [outL, sl_zero]; rfl
theorem outL_next (t : List Int) (n i k : Nat) : outL t n i k (sz3 n i k) = outL t n i (k + 1) 0 := by
  unfold outL
  refine List.map_congr_left fun j _ => ?_
  by_cases h1 : j < k
  · rw [if_pos h1, if_pos (by omega)]
  · by_cases h2 : j = k
    · rw [if_neg h1, if_pos h2, if_pos (by omega), h2]; rfl
    · rw [if_neg h1, if_neg h2, if_neg (by omega), sl_zero]; simp
theorem outL_all (t : List Int) (n i : Nat) : outL t n i 3 0 = pcs t n i := by
  simp only [outL, pcs, sl_zero]; rfl
theorem outL_set (t : List Int) (n i k m : Nat) (hk : k < 3) : ((outL t n i k m).map (Value.int .i64)).toArray.setIfInBounds k (.int .i64 (sl t (pre3 n i k) m + t.getD (pre3 n i k + m) 0)) = ((outL t n i k (m + 1)).map (Value.int .i64)).toArray := by
  rw [List.setIfInBounds_toArray]
  congr 1
  apply List.ext_getElem?
  intro j
  rw [List.getElem?_set, List.getElem?_map, List.getElem?_map]
  by_cases e : k = j
  · subst e
    rw [if_pos rfl, if_pos (by rw [List.length_map, outL_len]; exact hk), outL_at _ _ _ _ _ _ hk, ← sl_succ]
    simp
  · rw [if_neg e]
    by_cases hj : j < 3
    · rw [outL_at _ _ _ _ _ _ hj, outL_at _ _ _ _ _ _ hj, if_neg (Ne.symm e), if_neg (Ne.symm e)]
    · rw [List.getElem?_eq_none (by rw [outL_len]; omega), List.getElem?_eq_none (by rw [outL_len]; omega)]
set_option maxHeartbeats 3200000 in
theorem ckPieces_own (n i : Nat) (h1 : 1 ≤ n) (h2 : n ≤ 8) (hi : i < Pr.cnt n) (t : List Int) (ht : t.length = n) (hA : allB 0 9 t = true) (a : Option Addr) (cap : Nat) (w : World) (h : RdS w w.heap.size a t) :
    Calls Try.prog 122 #[.int .i64 n, .slice a t.length cap, .int .i64 i] w fun e w' => ∃ v, e = .returned v ∧ w'.ownsRow w.heap.size 3 1 v (pcs t n i).length ((pcs t n i).map (Value.int .i64)) ∧ Below w.heap.size w w' := by
  have hc := (Pr.cnt_le n (by omega)).1
  have hR := Pr.R_le_of_lt n (by omega) i hi
  have hC := (Pr.RC_bd i (by omega)).1
  have HM := Lib.hid (fun w => meAt_any n i h1 h2 (by omega) w)
  have HSZ : Hid (∀ k, k < 3 → ([(n : Int) - (Pr.R i : Nat), (Pr.R i : Int) - (Pr.C i : Nat), (Pr.C i : Nat)] : List Int).getD k 0 = (sz3 n i k : Nat)) := Lib.hid (fun k hk => sz3_pt n i k hR hC hk)
  have HPS := Lib.hid (fun k hk => pre3_succ n i k hR hC hk)
  have HPL := Lib.hid (fun k hk => pre3_le n i k hR hC hk)
  have HWB := Lib.hid (fun k hk => worth_bd hA n i k h2 hR hC hk)
  have HA := Lib.hid hA
  have HT := Lib.hid ht
  obtain ⟨rb, ro, hr, hrb⟩ := h
  have HR := Lib.hid hr
  clear hA ht hr hC hR
  generalize (n : Int) - (Pr.R i : Nat) = ea at *
  generalize (Pr.R i : Int) - (Pr.C i : Nat) = eb at *
  generalize ((Pr.C i : Nat) : Int) = ec at *
  go_enter Try.func122, Try.ntmps122
  go_wp2_with fail
  obtain ⟨w1, hw1⟩ : ∃ w1, w1 = w.alloc (.cells #[.int .i64 0, .int .i64 0, .int .i64 0] 3) := ⟨_, rfl⟩
  rw [← hw1]
  refine (HM.out _).mono ?_
  rintro e w2 ⟨rfl, hw2⟩
  have hz1 : w1.heap.size = w.heap.size + 1 := by rw [hw1]; simp
  have hg1 : w1.heap[w.heap.size]? = some (.cells #[.int .i64 0, .int .i64 0, .int .i64 0] 3 (0, 0)) := by rw [hw1]; exact heap_alloc_new _ _
  have hb1 : Below w.heap.size w w1 := by rw [hw1]; exact balloc (Below.refl _ _) _
  have hb2 : Below w.heap.size w w2 := by rw [hw2]; exact balloc hb1 _
  have hg2 : w2.heap[w1.heap.size]? = some (.cells #[.int .i64 ea, .int .i64 eb, .int .i64 ec] 3 (0, 0)) := by rw [hw2]; exact heap_alloc_new _ _
  have hg3 : w2.heap[w.heap.size]? = some (.cells #[.int .i64 0, .int .i64 0, .int .i64 0] 3 (0, 0)) := by rw [hw2]; exact (Below.heap_alloc w1 _ _ (by omega)).trans hg1
  clear hw1 hw2 hg1 hb1
  rw [hz1] at hg2 ⊢
  clear hz1
  go_wp2_with fail
  go_loopw [8, 16] (fun v8 v16 wr => ∃ k : Nat, k ≤ 3 ∧ v16 = .int .i64 k ∧ v8 = .int .i64 (pre3 n i k : Nat) ∧ wr.heap[w.heap.size]? = some (.cells ((outL t n i k 0).map (Value.int .i64)).toArray 3 (0, 0)) ∧ wr.heap[w.heap.size + 1]? = some (.cells #[.int .i64 ea, .int .i64 eb, .int .i64 ec] 3 (0, 0)) ∧ Below w.heap.size w wr) (fun _ v16 _ => 3 - (intOf v16).toNat)
  case atStart => exact ⟨0, by omega, rfl, rfl, by rw [outL_zero]; exact hg3, hg2, hb2⟩
  case round =>
    clear hg2 hg3 hb2
    obtain ⟨k, hk, rfl, rfl, hg, hgm, hb⟩ := hrel
    obtain ⟨wo, rfl⟩ : ∃ wo : World, wo = wr := ⟨_, rfl⟩
    by_cases hlt : k < 3
    · have hki : (k : Int) < 3 := by omega
      have HS := HSZ.out k hlt
      have hcm := blk_cell hgm k (.int .i64 (([ea, eb, ec] : List Int).getD k 0)) (by rcases (by omega : k = 0 ∨ k = 1 ∨ k = 2) with rfl | rfl | rfl <;> rfl)
      rw [HS] at hcm
      have HPk := HPS.out k hlt
      have hpl := HPL.out k hlt
      have HN := Lib.hid (outL_next t n i k)
      have HSET := Lib.hid (fun m => outL_set t n i k m hlt)
      have HBD := Lib.hid (fun m => sl_bd HA.out (pre3 n i k) m)
      have HAT := Lib.hid (fun m => outL_at t n i k m k hlt)
      have HGM := Lib.hid hgm
      clear HS hgm
      have HPK := Lib.hid HPk
      clear HPk
      generalize sz3 n i k = s at *
      generalize pre3 n i k = p at *
      go_wp2_with fail
      go_loopw [8, 10] (fun v8 v10 wr => ∃ m : Nat, m ≤ s ∧ v10 = .int .i64 ((s - m : Nat) : Int) ∧ v8 = .int .i64 ((p + m : Nat) : Int) ∧ wr.heap[w.heap.size]? = some (.cells ((outL t n i k m).map (Value.int .i64)).toArray 3 (0, 0)) ∧ wr.heap[w.heap.size + 1]? = some (.cells #[.int .i64 ea, .int .i64 eb, .int .i64 ec] 3 (0, 0)) ∧ Below w.heap.size w wr) (fun _ v10 _ => (intOf v10).toNat)
      case atStart => exact ⟨0, by omega, rfl, rfl, hg, HGM.out, hb⟩
      case round =>
        clear hg HGM hb hcm
        obtain ⟨m, hm, rfl, rfl, hg, hgm, hb⟩ := hrel
        have HGM := Lib.hid hgm
        clear hgm
        by_cases hltm : m < s
        · have hpos : (0 : Int) < ((s - m : Nat) : Int) := by omega
          have hpm : p + m < t.length := by have := HT.out; omega
          obtain ⟨hra, cj⟩ := HR.out.2 (p + m) hpm
          subst hra
          have hrb' : rb < w.heap.size := by omega
          have c2 := (hb.cell (p := ⟨rb, ro + (p + m), none⟩) hrb').trans cj
          have hpi : ((p + m : Nat) : Int) < (t.length : Int) := by omega
          have hbd := HBD.out m
          have hgb := getD_bd (by omega) (by omega) HA.out (p + m)
          have c3 := blk_cell hg k (.int .i64 (sl t p m)) (by rw [List.getElem?_toArray, List.getElem?_map, HAT.out m]; simp)
          have f3 := frozen_of_row wr w.heap.size k _ _ hg
          have HS := Lib.hid (heap_setCell_same wr w.heap.size k _ _ (.int .i64 (sl t p m + t.getD (p + m) 0)) hg)
          rw [HSET.out m] at HS
          have HG5 : Hid (∀ v, (wr.setCell ⟨w.heap.size, k, none⟩ v).heap[w.heap.size + 1]? = some (.cells #[.int .i64 ea, .int .i64 eb, .int .i64 ec] 3 (0, 0))) := Lib.hid (fun v => (Below.heap_setCell _ _ _ _ (by show w.heap.size + 1 ≠ w.heap.size; omega)).trans HGM.out)
          clear cj HGM
          generalize t.getD (p + m) 0 = x at *
          generalize sl t p m = y at *
          have hm8 : m < 8 := by omega
          go_wp2_with fail
          go_region
          go_wp2_with fail
          go_roundw
          case rel => exact ⟨m + 1, by omega, by go_num, by go_num, HS.out, HG5.out _, (hb.setCell (p := ⟨w.heap.size, k, none⟩) (Nat.le_refl _) _).drew⟩
          case measure => simp [intOf]; omega
        · have hm2 : m = s := by omega
          have hg' : wr.heap[w.heap.size]? = some (.cells ((outL t n i (k + 1) 0).map (Value.int .i64)).toArray 3 (0, 0)) := by rw [hg, hm2, HN.out]
          have HPM : Hid (((p + m : Nat) : Int) = (pre3 n i (k + 1) : Nat)) := Lib.hid (by rw [HPK.out, hm2])
          clear hg hm2
          have hz : ((s - m : Nat) : Int) = 0 := by omega
          go_wp2_with fail
          go_roundw
          case rel => exact ⟨k + 1, by omega, by go_num, by rw [HPM.out], hg', HGM.out, hb⟩
          case measure => simp [intOf]; omega
    · have hk3 : k = 3 := by omega
      subst hk3
      rw [outL_all] at hg
      go_wp2_with fail
      go_ret
      exact ⟨_, rfl, own_block (cap := 3) (xs := pcs t n i) (Nat.le_refl _) hg (by simp) rfl (by simp [maxLen]), hb⟩
theorem ckPieces_any (n i : Nat) (h1 : 1 ≤ n) (h2 : n ≤ 8) (hi : i < Pr.cnt n) (t : List Int) (ht : t.length = n) (hA : allB 0 9 t = true) (a : Option Addr) (cap : Nat) (w : World) (h : RdS w w.heap.size a t) :
    Calls Try.prog 122 #[.int .i64 n, .slice a t.length cap, .int .i64 i] w fun e w' => ∃ v, e = .returned v ∧ OI w' w.heap.size w'.heap.size v (pcs t n i) ∧ Below w.heap.size w w' :=
  (ckPieces_own n i h1 h2 hi t ht hA a cap w h).mono fun _ _ ⟨v, e, ho, hb⟩ => ⟨v, e, oi_new ho, hb⟩
end Go.Proofs.Ytgloelhpnhofgaa

namespace Go.Proofs.Ytgloelhpnhofgaa
open Go.RowKit
set_option maxRecDepth 4000
set_option maxHeartbeats 1600000 in
theorem cakeOf_side (n : Int) (hn : ¬ (1 ≤ n ∧ n ≤ 8)) (ts : List (List Int)) (a : Option Addr) (cap : Nat) (w : World) :
    Calls Try.prog 69 #[.int .i64 n, .slice a ts.length cap] w fun e w' => e = .returned (.tuple #[.agg zeroC, .bool false]) ∧ Below w.heap.size w w' := by
  have HN := Lib.hid hn
  clear hn
  go_enter Try.func69, Try.ntmps69
  go_wp2_with (with_reducible refine alloc_blk zeroC run_alloc_cake rfl rfl ?_)
  have hb0 := balloc (Below.refl w.heap.size w) (.cells zeroC 88)
  refine (meshOf_no n HN.out _).mono ?_
  rintro e w1 ⟨rfl, hb1⟩
  have hB1 := balloc (bnext hb0 hb1) (.cells #[.int .i64 n] 55)
  have hg : (w1.alloc (.cells #[.int .i64 n] 55)).heap[w.heap.size]? = some (.cells zeroC 88 (0, 0)) :=
    (Below.heap_alloc w1 _ _ (by have := hb1.size; simp at this; omega)).trans ((hb1.block _ (by simp)).trans (heap_alloc_new _ _))
  have HG := Lib.hid hg
  clear hg hb0 hb1
  go_wp2_with (first | (with_reducible refine build0_cake rfl rfl ?_) | ((with_reducible refine store_blk blkCake rfl _ _ rfl (w.heap.size) (zeroC) (zeroC) ?_ ?_ HG.out (zeroC_size) (zeroC_size) (zeroC_one) (w.heap.size) (Nat.le_refl _) ?_); exact rfl; exact rfl; intro w4 hg4 hb4 _ _))
  exact bodyPost_ret (results_blk blkCake rfl _ _ w.heap.size _ _ rfl rfl hg4 zeroC_size) rfl ⟨rfl, hB1.trans hb4⟩
set_option maxHeartbeats 1600000 in
theorem cakeOf_no (n : Nat) (h1 : 1 ≤ n) (h2 : n ≤ 8) (ts : List (List Int)) (a : Option Addr) (cap : Nat) (w : World) (h : RdSS w w.heap.size a ts) (hy : rowsB n 9 ts = false) :
    Calls Try.prog 69 #[.int .i64 n, .slice a ts.length cap] w fun e w' => e = .returned (.tuple #[.agg (zeroC), .bool false]) ∧ Below w.heap.size w w' := by
  have HRD := Lib.hid h
  have HY := Lib.hid hy
  clear h hy
  go_enter Try.func69, Try.ntmps69
  go_wp2_with (with_reducible refine alloc_blk zeroC run_alloc_cake rfl rfl ?_)
  have hb0 := balloc (Below.refl w.heap.size w) (.cells zeroC 88)
  refine (meshOf_yes n h1 h2 _).mono ?_
  rintro e w1 ⟨rfl, hb1⟩
  have hB1 := balloc (bnext hb0 hb1) (.cells #[.int .i64 n] 55)
  have hg : (w1.alloc (.cells #[.int .i64 n] 55)).heap[w.heap.size]? = some (.cells zeroC 88 (0, 0)) :=
    (Below.heap_alloc w1 _ _ (by have := hb1.size; simp at this; omega)).trans ((hb1.block _ (by simp)).trans (heap_alloc_new _ _))
  have hlt : w.heap.size < (w1.alloc (.cells #[.int .i64 n] 55)).heap.size := by have := hb1.size; simp at this ⊢; omega
  have HG := Lib.hid hg
  have HLT := Lib.hid hlt
  clear hg hb0 hb1 hlt
  go_wp2_with fail
  refine (withTastes_no n h1 h2 ts a cap _ (rdss_mono (rdss_later HRD.out hB1) hB1.size) HY.out).mono ?_
  rintro e w2 ⟨rfl, hb2⟩
  have hB2 := bnext hB1 hb2
  have HG2 := Lib.hid ((hb2.block _ HLT.out).trans HG.out)
  clear hb2
  go_wp2_with ((with_reducible refine store_blk blkCake rfl _ _ rfl (w.heap.size) (zeroC) (zeroC) ?_ ?_ HG2.out (zeroC_size) (zeroC_size) (zeroC_one) (w.heap.size) (Nat.le_refl _) ?_); exact rfl; exact rfl; intro w4 hg4 hb4 _ _)
  exact bodyPost_ret (results_blk blkCake rfl _ _ w.heap.size _ _ rfl rfl hg4 (zeroC_size)) rfl ⟨rfl, hB2.trans hb4⟩
set_option maxHeartbeats 1600000 in
theorem cakeOf_yes (n : Nat) (h1 : 1 ≤ n) (h2 : n ≤ 8) (ts : List (List Int)) (a : Option Addr) (cap : Nat) (w : World) (h : RdSS w w.heap.size a ts) (hy : rowsB n 9 ts = true) :
    Calls Try.prog 69 #[.int .i64 n, .slice a ts.length cap] w fun e w' => e = .returned (.tuple #[.agg (cakeA n ts), .bool true]) ∧ Below w.heap.size w w' := by
  have HRD := Lib.hid h
  have HY := Lib.hid hy
  clear h hy
  go_enter Try.func69, Try.ntmps69
  go_wp2_with (with_reducible refine alloc_blk zeroC run_alloc_cake rfl rfl ?_)
  have hb0 := balloc (Below.refl w.heap.size w) (.cells zeroC 88)
  refine (meshOf_yes n h1 h2 _).mono ?_
  rintro e w1 ⟨rfl, hb1⟩
  have hB1 := balloc (bnext hb0 hb1) (.cells #[.int .i64 n] 55)
  have hg : (w1.alloc (.cells #[.int .i64 n] 55)).heap[w.heap.size]? = some (.cells zeroC 88 (0, 0)) :=
    (Below.heap_alloc w1 _ _ (by have := hb1.size; simp at this; omega)).trans ((hb1.block _ (by simp)).trans (heap_alloc_new _ _))
  have hlt : w.heap.size < (w1.alloc (.cells #[.int .i64 n] 55)).heap.size := by have := hb1.size; simp at this ⊢; omega
  have HG := Lib.hid hg
  have HLT := Lib.hid hlt
  clear hg hb0 hb1 hlt
  go_wp2_with fail
  refine (withTastes_yes n h1 h2 ts a cap _ (rdss_mono (rdss_later HRD.out hB1) hB1.size) HY.out).mono ?_
  rintro e w2 ⟨rfl, hb2⟩
  have hB2 := bnext hB1 hb2
  have HG2 := Lib.hid ((hb2.block _ HLT.out).trans HG.out)
  clear hb2
  go_wp2_with ((with_reducible refine store_blk blkCake rfl _ _ rfl (w.heap.size) (cakeA n ts) (zeroC) ?_ ?_ HG2.out (zeroC_size) (cakeA_size _ _) (cakeA_one _ _) (w.heap.size) (Nat.le_refl _) ?_); exact rfl; exact rfl; intro w4 hg4 hb4 _ _)
  exact bodyPost_ret (results_blk blkCake rfl _ _ w.heap.size _ _ rfl rfl hg4 (cakeA_size _ _)) rfl ⟨rfl, hB2.trans hb4⟩
/-- The closure that picks a person's number. -/
def pickC (g : Nat) : Value := .func (.func 134) #[] #[.pointer (some ⟨g, 0, none⟩)]
set_option maxHeartbeats 800000 in
theorem pickC_any (g p : Nat) (hp : p < 3) (x y z : Int) (w : World) (hg : g < w.heap.size) (hc : w.cell? ⟨g, 0, none⟩ = some (.int .i64 p)) :
    Calls Try.prog 134 #[.agg #[.int .i64 x, .int .i64 y, .int .i64 z], .pointer (some ⟨g, 0, none⟩)] w fun e w' => e = .returned (.int .i64 (([x, y, z] : List Int).getD p 0)) ∧ Below w.heap.size w w' := by
  have c1 : (w.alloc (.cells #[.int .i64 x, .int .i64 y, .int .i64 z] 85)).cell? ⟨g, 0, none⟩ = some (.int .i64 p) := (World.cell?_alloc_past _ _ _ hg).trans hc
  have c2 : (w.alloc (.cells #[.int .i64 x, .int .i64 y, .int .i64 z] 85)).cell? ⟨w.heap.size, p, none⟩ = some (.int .i64 (([x, y, z] : List Int).getD p 0)) := by
    rw [World.cell?_alloc_at _ _ _ _ rfl]
    rcases (by omega : p = 0 ∨ p = 1 ∨ p = 2) with rfl | rfl | rfl <;> rfl
  have hp3 : (p : Int) < 3 := by omega
  generalize ([x, y, z] : List Int).getD p 0 = v at *
  go_enter Try.func134, Try.ntmps134
  go_wp2_with fail
  go_ret
  exact ⟨rfl, by go_grown⟩
/-- The sum of somebody's numbers over k slices. -/
def sf (F : Nat → Int) (p : Nat) : Nat → Int
  | 0 => 0
  | k + 1 => sf F p k + F (3 * k + p)
theorem sf_bd {F : Nat → Int} (h : ∀ q, 0 ≤ F q ∧ F q ≤ 9) (p : Nat) : ∀ k : Nat, 0 ≤ sf F p k ∧ sf F p k ≤ 9 * (k : Int)
  | 0 => by simp [sf]
  | k + 1 => by have := sf_bd h p k; have := h (3 * k + p); simp only [sf]; omega
set_option maxHeartbeats 1600000 in
theorem sumOf_pick (F : Nat → Int) (hF : ∀ q, 0 ≤ F q ∧ F q ≤ 9) (p : Nat) (hp : p < 3) (b off len cap g : Nat) (hlen : len ≤ 8) (w : World) (hg : g < w.heap.size) (hc : w.cell? ⟨g, 0, none⟩ = some (.int .i64 p)) (hb : b < w.heap.size)
    (hs : ∀ q, q < 3 * len → w.cell? ⟨b, off + q, none⟩ = some (.int .i64 (F q))) :
    Calls Try.prog 133 #[.slice (some ⟨b, off, none⟩) len cap, pickC g] w fun e w' => e = .returned (.int .i64 (sf F p len)) ∧ Below w.heap.size w w' := by
  have HP : Hid (pickC g = .func (.func 134) #[] #[.pointer (some ⟨g, 0, none⟩)]) := Lib.hid rfl
  have HS := Lib.hid hs
  have HF := Lib.hid hF
  have HSB := Lib.hid (sf_bd hF p)
  clear hs hF
  rw [HP.out]
  go_enter Try.func133, Try.ntmps133
  go_wp2_with fail
  go_loopw [5, 10] (fun v5 v10 wr => ∃ k : Nat, k ≤ len ∧ v10 = .int .i64 k ∧ v5 = .int .i64 (sf F p k) ∧ Below w.heap.size w wr) (fun _ v10 _ => len - (intOf v10).toNat)
  case atStart => exact ⟨0, Nat.zero_le _, rfl, rfl, Below.refl _ _⟩
  case round =>
    obtain ⟨k, hk, rfl, rfl, hB⟩ := hrel
    by_cases hlt : k < len
    · have c0 := (hB.cell (p := ⟨b, off + (3 * k + 0), none⟩) hb).trans (HS.out (3 * k + 0) (by omega))
      have c1 := (hB.cell (p := ⟨b, off + (3 * k + 1), none⟩) hb).trans (HS.out (3 * k + 1) (by omega))
      have c2 := (hB.cell (p := ⟨b, off + (3 * k + 2), none⟩) hb).trans (HS.out (3 * k + 2) (by omega))
      rw [show off + (3 * k + 0) = off + k * 3 by omega] at c0
      rw [show off + (3 * k + 1) = off + k * 3 + 1 by omega] at c1
      rw [show off + (3 * k + 2) = off + k * 3 + 2 by omega] at c2
      have hsb := HSB.out k
      have HX : Hid (sf F p (k + 1) = sf F p k + ([F (3 * k + 0), F (3 * k + 1), F (3 * k + 2)] : List Int).getD p 0) := Lib.hid (by
        rcases (by omega : p = 0 ∨ p = 1 ∨ p = 2) with rfl | rfl | rfl <;> rfl)
      have hx : 0 ≤ ([F (3 * k + 0), F (3 * k + 1), F (3 * k + 2)] : List Int).getD p 0 ∧ ([F (3 * k + 0), F (3 * k + 1), F (3 * k + 2)] : List Int).getD p 0 ≤ 9 := by
        rcases (by omega : p = 0 ∨ p = 1 ∨ p = 2) with rfl | rfl | rfl
        · exact HF.out _
        · exact HF.out _
        · exact HF.out _
      have hki : (k : Int) < (len : Int) := by omega
      have HH := Lib.hid ((hB.cell (p := ⟨g, 0, none⟩) hg).trans hc)
      have hzz := hB.size
      generalize F (3 * k + 0) = x at *
      generalize F (3 * k + 1) = y at *
      generalize F (3 * k + 2) = z at *
      generalize sf F p k = s at *
      go_wp2_with fail
      refine (pickC_any g p hp x y z _ (by simp; omega) ((World.cell?_alloc_past _ _ _ (by show g < wr.heap.size; omega)).trans HH.out)).mono ?_
      rintro e w2 ⟨rfl, hb2⟩
      have hB2 := bnext (balloc hB (.cells #[.int .i64 x, .int .i64 y, .int .i64 z] 85)) hb2
      clear hb2
      generalize ([x, y, z] : List Int).getD p 0 = u at *
      go_wp2_with fail
      go_roundw
      case rel => exact ⟨k + 1, by omega, by go_num, by rw [HX.out], hB2⟩
      case measure => simp [intOf]; omega
    · have hk2 : k = len := by omega
      subst hk2
      go_wp2_with fail
      go_ret
      exact ⟨rfl, hB⟩
end Go.Proofs.Ytgloelhpnhofgaa
