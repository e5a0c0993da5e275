import Derived.Test.YtokhpchnnilbaaaN6
namespace Go.Proofs.Ytokhpchnnilbaaa
open Go.RowKit
set_option maxRecDepth 4000
/-- Sign i is neither 1 nor -1. -/
def badS (xs : List Int) (i : Nat) : Bool := (xs.getD i 0 != 1) && (xs.getD i 0 != -1)
def anyS (xs : List Int) : Bool := (List.range xs.length).any (badS xs)
theorem anyS_no (xs : List Int) (h : ∀ i, i < xs.length → badS xs i = false) : anyS xs = false := by
  simp only [anyS, List.any_eq_false, List.mem_range]
  intro i hi; rw [h i hi]; simp
theorem anyS_yes (xs : List Int) (i : Nat) (hi : i < xs.length) (h : badS xs i = true) : anyS xs = true := by
  simp only [anyS, List.any_eq_true, List.mem_range]
  exact ⟨i, hi, h⟩
set_option maxHeartbeats 800000 in
theorem isNone_any (x : Int) (w : World) :
    Calls Try.prog 76 #[.int .i64 x] w fun e w' => e = .returned (.bool ((x != 1) && (x != -1))) ∧ w = w' := by
  cases h1 : (x != 1)
  · have HV : Hid ((false && (x != -1)) = false) := Lib.hid rfl
    rw [HV.out]
    go_enter Try.func76, Try.ntmps76
    go_wp2_with fail
    go_ret
    exact ⟨rfl, rfl⟩
  · cases h2 : (x != -1)
    · go_enter Try.func76, Try.ntmps76
      go_wp2_with fail
      go_ret
      exact ⟨rfl, rfl⟩
    · go_enter Try.func76, Try.ntmps76
      go_wp2_with fail
      go_ret
      exact ⟨rfl, rfl⟩
set_option maxHeartbeats 1600000 in
theorem idxFn_any (xs : List Int) (a : Option Addr) (cap B : Nat) (w : World) (h : RdS w B a xs) :
    Calls Try.prog 84 #[.slice a xs.length cap, .func (.func 76) #[] #[]] w fun e w' => (∃ r : Int, e = .returned (.int .i64 r) ∧ decide (0 ≤ r) = anyS xs) ∧ w = w' := by
  obtain ⟨b, off, ⟨hm, hc⟩, -⟩ := h
  unfold maxLen at hm
  have HC := Lib.hid hc
  have HNO := Lib.hid (anyS_no xs)
  have HYES := Lib.hid (anyS_yes xs)
  have HB : Hid (∀ i, badS xs i = ((xs.getD i 0 != 1) && (xs.getD i 0 != -1))) := Lib.hid (fun i => rfl)
  have hcf : ∀ (args : Array Value) (w : World), (callFunc 76 args).run Try.prog w = .ok (.enter 76 args) w := fun _ _ => rfl
  clear hc
  generalize hn : xs.length = n at *
  clear hn
  go_enter Try.func84, Try.ntmps84
  go_wp2_with fail
  go_loop [8] (fun v8 => ∃ k : Nat, k ≤ n ∧ v8 = .int .i64 k ∧ (∀ j, j < k → badS xs j = false)) (fun v8 => n - (intOf v8).toNat)
  case atStart => exact ⟨0, Nat.zero_le _, rfl, fun _ h => by omega⟩
  case round =>
    obtain ⟨k, hk, rfl, hall⟩ := hrel
    have HA := Lib.hid hall
    clear hall
    by_cases hlt : k < n
    · have hki : (k : Int) < (n : Int) := by omega
      obtain ⟨rfl, c1⟩ := HC.out k hlt
      have HBk := HB.out k
      have HT : Hid (badS xs k = false → ∀ j, j < k + 1 → badS xs j = false) := Lib.hid (fun hx j hj => by
        by_cases e : j = k
        · rw [e]; exact hx
        · exact HA.out j (by omega))
      have HY := Lib.hid (HYES.out k hlt)
      have HF := Lib.hid (isNone_any (xs.getD k 0) w)
      rw [← HBk] at HF
      clear HBk
      generalize xs.getD k 0 = x at *
      cases hb : badS xs k
      · rw [hb] at HF
        have HX := Lib.hid (HT.out hb)
        clear hb
        go_wp2_with fail
        first | rw [hcf] | simp only [hcf] | skip
        go_wp2_with fail
        refine HF.out.mono ?_
        rintro e w2 ⟨rfl, rfl⟩
        go_wp2_with fail
        go_round
        case rel => exact ⟨k + 1, by omega, by go_num, HX.out⟩
        case measure => simp [intOf]; omega
      · rw [hb] at HF
        have HX := Lib.hid (HY.out hb)
        clear hb
        go_wp2_with fail
        first | rw [hcf] | simp only [hcf] | skip
        go_wp2_with fail
        refine HF.out.mono ?_
        rintro e w2 ⟨rfl, rfl⟩
        go_wp2_with fail
        go_ret
        exact ⟨⟨_, rfl, by rw [HX.out]; simp⟩, rfl⟩
    · have HX := Lib.hid (HNO.out (fun j hj => HA.out j (by omega)))
      have hii : ¬ (k : Int) < (n : Int) := by omega
      go_wp2_with fail
      go_ret
      exact ⟨⟨_, rfl, by rw [HX.out]; rfl⟩, rfl⟩
set_option maxHeartbeats 400000 in
theorem cntFn_any (xs : List Int) (a : Option Addr) (cap B : Nat) (w : World) (h : RdS w B a xs) :
    Calls Try.prog 77 #[.slice a xs.length cap, .func (.func 76) #[] #[]] w fun e w' => e = .returned (.bool (anyS xs)) ∧ w = w' := by
  have HI := Lib.hid (idxFn_any xs a cap B w h)
  clear h
  go_enter Try.func77, Try.ntmps77
  go_wp2_with fail
  refine HI.out.mono ?_
  rintro e w2 ⟨⟨r, rfl, hr⟩, rfl⟩
  have HR := Lib.hid hr
  clear hr
  go_wp2_with fail
  go_ret
  exact ⟨ret_bool (by first | exact HR.out | (rw [← HR.out]; rfl)), rfl⟩
def siG (n : Nat) (xs : List Int) : Bool := decide (xs.length = n) && (!anyS xs && (decide (xs.length = 0) || decide (xs.getD 0 0 = 1)))
set_option maxHeartbeats 800000 in
theorem areSigns_any (s : ByteArray) (xs : List Int) (a : Option Addr) (cap B : Nat) (w : World) (h : RdS w B a xs) :
    Calls Try.prog 57 #[.string s, .slice a xs.length cap] w fun e w' => e = .returned (.bool (siG s.size xs)) ∧ w = w' := by
  by_cases hl : xs.length = s.size
  · have HC := Lib.hid (cntFn_any xs a cap B w h)
    cases ha : anyS xs
    · rw [ha] at HC
      by_cases h0 : xs.length = 0
      · have HV : Hid (siG s.size xs = true) := Lib.hid (by simp [siG, ← hl, ha, h0])
        have hs0 : s.size = 0 := by omega
        rw [HV.out, h0]
        rw [h0] at HC
        clear h hl h0 ha
        go_enter Try.func57, Try.ntmps57
        go_wp2_with fail
        refine HC.out.mono ?_
        rintro e w2 ⟨rfl, rfl⟩
        go_wp2_with fail
        go_ret
        exact ⟨rfl, rfl⟩
      · have HV : Hid (siG s.size xs = (xs.getD 0 0 == 1)) := Lib.hid (by
          have : ¬ s.size = 0 := by omega
          rw [Bool.eq_iff_iff]; simp [siG, hl, ha, this])
        obtain ⟨b, off, ⟨hm, hc⟩, -⟩ := h
        obtain ⟨rfl, c0⟩ := hc 0 (by omega)
        rw [Nat.add_zero] at c0
        have hpos2 : 0 < (s.size : Int) := by omega
        have hb0 : ((s.size : Int) == 0) = false := by rw [beq_eq_false_iff_ne]; omega
        rw [HV.out, hl]
        rw [hl] at HC
        clear hc hm hl h0 ha
        generalize xs.getD 0 0 = x at *
        go_enter Try.func57, Try.ntmps57
        go_wp2_with fail
        refine HC.out.mono ?_
        rintro e w2 ⟨rfl, rfl⟩
        go_wp2_with fail
        go_ret
        exact ⟨ret_bool (by first | rfl | simp), rfl⟩
    · have HV : Hid (siG s.size xs = false) := Lib.hid (by simp [siG, ha])
      rw [ha] at HC
      rw [HV.out, hl]
      rw [hl] at HC
      clear h hl ha
      go_enter Try.func57, Try.ntmps57
      go_wp2_with fail
      refine HC.out.mono ?_
      rintro e w2 ⟨rfl, rfl⟩
      go_wp2_with fail
      go_ret
      exact ⟨rfl, rfl⟩
  · have HV : Hid (siG s.size xs = false) := Lib.hid (by simp [siG, hl])
    have hne : ((xs.length : Int) != (s.size : Int)) = true := by simp; omega
    rw [HV.out]
    clear h hl
    go_enter Try.func57, Try.ntmps57
    go_wp2_with fail
    go_ret
    exact ⟨rfl, rfl⟩
/-- The cuts of the first m signs. -/
def csU (xs : List Int) : Nat → List Int
  | 0 => []
  | 1 => []
  | m + 2 => if xs.getD (m + 1) 0 = xs.getD m 0 then csU xs (m + 1) else csU xs (m + 1) ++ [((m + 1 : Nat) : Int)]
theorem csU_len (xs : List Int) : ∀ m, (csU xs m).length ≤ m
  | 0 => by simp [csU]
  | 1 => by simp [csU]
  | m + 2 => by
    have := csU_len xs (m + 1)
    simp only [csU]
    split
    · omega
    · simp; omega
set_option maxHeartbeats 3200000 in
theorem cutsOf_any (xs : List Int) (hx : xs.length ≤ 16) (a : Option Addr) (cap : Nat) (w : World) (h : RdS w w.heap.size a xs) :
    Calls Try.prog 58 #[.slice a xs.length cap] w fun e w' => ∃ v, e = .returned v ∧ OI w' w.heap.size w'.heap.size v (csU xs xs.length) ∧ Below w.heap.size w w' := by
  obtain ⟨b, off, ⟨hm, hc⟩, hbB⟩ := h
  have hC : ∀ j, j < xs.length → a = some ⟨b, off, none⟩ ∧ b < w.heap.size ∧ w.cell? ⟨b, off + j, none⟩ = some (.int .i64 (xs.getD j 0)) := fun j hj => ⟨(hc j hj).1, hbB.resolve_left (by omega), (hc j hj).2⟩
  have HC := Lib.hid hC
  have HL := Lib.hid (csU_len xs)
  have HZ : Hid (csU xs 0 = []) := Lib.hid rfl
  have HZ1 : Hid (csU xs 1 = []) := Lib.hid rfl
  have HS : Hid (∀ m, csU xs (m + 2) = if xs.getD (m + 1) 0 = xs.getD m 0 then csU xs (m + 1) else csU xs (m + 1) ++ [((m + 1 : Nat) : Int)]) := Lib.hid (fun m => rfl)
  clear hc hm hbB hC
  generalize hn : xs.length = n at *
  clear hn
  generalize csU xs = F at *
  go_enter Try.func58, Try.ntmps58
  go_wp2_with fail
  go_loopw [3, 4] (fun v3 v4 wr => ∃ i : Nat, (i ≤ n ∨ i = 1) ∧ 1 ≤ i ∧ v4 = .int .i64 i ∧ wr.ownsRow w.heap.size 3 1 v3 (F i).length ((F i).map (Value.int .i64)) ∧ Below w.heap.size w wr) (fun _ v4 _ => n - (intOf v4).toNat)
  case atStart => exact ⟨1, .inr rfl, Nat.le_refl _, rfl, by rw [HZ1.out]; exact World.ownsRow_nil _ _ _ _, Below.refl _ _⟩
  case round =>
    obtain ⟨i, hi, hi1, rfl, ho, hb⟩ := hrel
    obtain ⟨wq, hwq⟩ : ∃ wq : World, wq = wr := ⟨_, rfl⟩
    subst hwq
    have hz := hb.size
    have HOI : Hid (∀ F', F' = F i → OI wq w.heap.size wq.heap.size _ F') := Lib.hid (fun F' e => by rw [e]; exact oi_new ho)
    by_cases hlt : i < n
    · obtain ⟨p, rfl⟩ : ∃ p, i = p + 1 := ⟨i - 1, by omega⟩
      have hii : ((p + 1 : Nat) : Int) < (n : Int) := by omega
      obtain ⟨rfl, hbl, c1⟩ := HC.out (p + 1) hlt
      obtain ⟨-, -, c2⟩ := HC.out p (by omega)
      replace c1 := (hb.cell (p := ⟨b, off + (p + 1), none⟩) hbl).trans c1
      replace c2 := (hb.cell (p := ⟨b, off + p, none⟩) hbl).trans c2
      have hss := HS.out p
      have HLi : Hid ((F (p + 1)).length ≤ 1000) := Lib.hid (by have := HL.out (p + 1); omega)
      generalize xs.getD (p + 1) 0 = x at *
      generalize xs.getD p 0 = y at *
      by_cases he : x = y
      · rw [if_pos he] at hss
        have he1 : (x != y) = false := by simpa using he
        have HX := Lib.hid hss
        clear hss he
        go_wp2_with fail
        go_region
        go_wp2_with fail
        go_roundw
        case rel => exact ⟨p + 1 + 1, .inl (by omega), by omega, by go_num, by rw [HX.out]; exact ho, hb.drew⟩
        case measure => simp [intOf]; omega
      · rw [if_neg he] at hss
        have he1 : (x != y) = true := by simpa using he
        have HX := Lib.hid hss
        clear hss he
        go_wp2_with fail
        go_region
        go_wp2_with (at_builtin; go_loud (refine append_intg w.heap.size _ wq.drew _ (F (p + 1)) (((p + 1 : Nat) : Int)) rfl _ _ rfl rfl rfl rfl ho hz (by have := HLi.out; omega) ?_; intro v' w3 ho3 hb3))
        rw [← HX.out] at ho3
        go_roundw
        case rel => exact ⟨p + 1 + 1, .inl (by omega), by omega, by go_num, ho3, hb.drew.trans hb3⟩
        case measure => simp [intOf]; omega
    · have hii : ¬ (i : Int) < (n : Int) := by omega
      have HO := Lib.hid (HOI.out (F n) (by
        rcases hi with h | h
        · rw [show i = n by omega]
        · rcases (by omega : n = 0 ∨ n = 1) with e | e
          · rw [e, h, HZ.out, HZ1.out]
          · rw [e, h]))
      clear ho
      go_wp2_with fail
      go_ret
      exact ⟨_, rfl, HO.out, hb⟩
end Go.Proofs.Ytokhpchnnilbaaa
