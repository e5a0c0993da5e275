import Derived.LoopN
import Derived.BigRegion
import Derived.BigQuiet
import Derived.Test.YtlkgmnmnlfaopaaS0
namespace Go.Proofs.Ytlkgmnmnlfaopaa
open Go.RowKit
set_option maxRecDepth 4000
/-- The least and the greatest of the first k + 1 numbers. -/
def mnK (xs : List Int) : Nat → Int
  | 0 => xs.getD 0 0
  | k + 1 => min (mnK xs k) (xs.getD (k + 1) 0)
def mxK (xs : List Int) : Nat → Int
  | 0 => xs.getD 0 0
  | k + 1 => max (mxK xs k) (xs.getD (k + 1) 0)
theorem mnK_ge (xs : List Int) (lo : Int) : ∀ k, lo ≤ mnK xs k ↔ ∀ j, j ≤ k → lo ≤ xs.getD j 0
  | 0 => ⟨fun h j hj => by obtain rfl : j = 0 := by omega
                           exact h, fun h => h 0 (Nat.le_refl _)⟩
  | k + 1 => by
    have ih := mnK_ge xs lo k
    constructor
    · intro h j hj
      simp only [mnK] at h
      by_cases e : j = k + 1
      · subst e; omega
      · exact ih.1 (by omega) j (by omega)
    · intro h
      have h1 := ih.2 (fun j hj => h j (by omega))
      have h2 := h (k + 1) (Nat.le_refl _)
      simp only [mnK]
      omega
theorem mxK_le (xs : List Int) (hi : Int) : ∀ k, mxK xs k ≤ hi ↔ ∀ j, j ≤ k → xs.getD j 0 ≤ hi
  | 0 => ⟨fun h j hj => by obtain rfl : j = 0 := by omega
                           exact h, fun h => h 0 (Nat.le_refl _)⟩
  | k + 1 => by
    have ih := mxK_le xs hi k
    constructor
    · intro h j hj
      simp only [mxK] at h
      by_cases e : j = k + 1
      · subst e; omega
      · exact ih.1 (by omega) j (by omega)
    · intro h
      have h1 := ih.2 (fun j hj => h j (by omega))
      have h2 := h (k + 1) (Nat.le_refl _)
      simp only [mxK]
      omega
theorem allB_mm (lo hi : Int) (xs : List Int) (h : 0 < xs.length) : (decide (lo ≤ mnK xs (xs.length - 1)) && decide (mxK xs (xs.length - 1) ≤ hi)) = allB lo hi xs := by
  have h1 := mnK_ge xs lo (xs.length - 1)
  have h2 := mxK_le xs hi (xs.length - 1)
  cases e : allB lo hi xs
  · rw [Bool.and_eq_false_iff, decide_eq_false_iff_not, decide_eq_false_iff_not]
    by_cases a : lo ≤ mnK xs (xs.length - 1)
    · right
      intro b
      have := allB_yes lo hi xs (fun k hk => ⟨h1.1 a k (by omega), h2.1 b k (by omega)⟩)
      rw [this] at e
      cases e
    · exact .inl a
  · have ha := fun k hk => allB_at e k hk
    rw [Bool.and_eq_true, decide_eq_true_eq, decide_eq_true_eq]
    exact ⟨h1.2 (fun j hj => (ha j (by omega)).1), h2.2 (fun j hj => (ha j (by omega)).2)⟩
set_option maxHeartbeats 800000 in
theorem sMin_any (xs : List Int) (a : Option Addr) (b off cap : Nat) (w : World) (h : Rd w a b off xs) (h0 : 0 < xs.length) :
    Calls Try.prog 98 #[.slice a xs.length cap] w fun e w' => e = .returned (.int .i64 (mnK xs (xs.length - 1))) ∧ w = w' := by
  obtain ⟨hm, hc⟩ := h
  unfold maxLen at hm
  have HC := Lib.hid hc
  have HK : Hid (∀ k, mnK xs (k + 1) = min (mnK xs k) (xs.getD (k + 1) 0)) := Lib.hid (fun k => rfl)
  have HZ : Hid (xs.getD 0 0 = mnK xs 0) := Lib.hid rfl
  obtain ⟨ha, c0⟩ := hc 0 h0
  subst ha
  rw [HZ.out, Nat.add_zero] at c0
  have h0i : ¬ ((xs.length : Int) < 1) := by omega
  clear hc
  go_enter Try.func98, Try.ntmps98
  go_wp2_with fail
  go_loop [3, 4] (fun v3 v4 => ∃ k : Nat, k + 1 ≤ xs.length ∧ v4 = .int .i64 ((k + 1 : Nat) : Int) ∧ v3 = .int .i64 (mnK xs k)) (fun _ v4 => xs.length - (intOf v4).toNat)
  case atStart => exact ⟨0, by omega, rfl, rfl⟩
  case round =>
    obtain ⟨k, hk, rfl, rfl⟩ := hrel
    by_cases hlt : k + 1 < xs.length
    · obtain ⟨-, ck⟩ := HC.out (k + 1) hlt
      have hi : ((k + 1 : Nat) : Int) < (xs.length : Int) := by omega
      have HKk := Lib.hid (HK.out k)
      generalize xs.getD (k + 1) 0 = x at *
      go_wp2_with fail
      go_round
      case rel => exact ⟨k + 1, by omega, by go_num, congrArg (Value.int .i64) (by rw [HKk.out]; omega)⟩
      case measure => simp [intOf]; omega
    · have HL : Hid (xs.length - 1 = k) := Lib.hid (by omega)
      go_wp2_with fail
      go_ret
      exact ⟨ret_int (by rw [HL.out]), rfl⟩
set_option maxHeartbeats 800000 in
theorem sMax_any (xs : List Int) (a : Option Addr) (b off cap : Nat) (w : World) (h : Rd w a b off xs) (h0 : 0 < xs.length) :
    Calls Try.prog 99 #[.slice a xs.length cap] w fun e w' => e = .returned (.int .i64 (mxK xs (xs.length - 1))) ∧ w = w' := by
  obtain ⟨hm, hc⟩ := h
  unfold maxLen at hm
  have HC := Lib.hid hc
  have HK : Hid (∀ k, mxK xs (k + 1) = max (mxK xs k) (xs.getD (k + 1) 0)) := Lib.hid (fun k => rfl)
  have HZ : Hid (xs.getD 0 0 = mxK xs 0) := Lib.hid rfl
  obtain ⟨ha, c0⟩ := hc 0 h0
  subst ha
  rw [HZ.out, Nat.add_zero] at c0
  have h0i : ¬ ((xs.length : Int) < 1) := by omega
  clear hc
  go_enter Try.func99, Try.ntmps99
  go_wp2_with fail
  go_loop [3, 4] (fun v3 v4 => ∃ k : Nat, k + 1 ≤ xs.length ∧ v4 = .int .i64 ((k + 1 : Nat) : Int) ∧ v3 = .int .i64 (mxK xs k)) (fun _ v4 => xs.length - (intOf v4).toNat)
  case atStart => exact ⟨0, by omega, rfl, rfl⟩
  case round =>
    obtain ⟨k, hk, rfl, rfl⟩ := hrel
    by_cases hlt : k + 1 < xs.length
    · obtain ⟨-, ck⟩ := HC.out (k + 1) hlt
      have hi : ((k + 1 : Nat) : Int) < (xs.length : Int) := by omega
      have HKk := Lib.hid (HK.out k)
      generalize xs.getD (k + 1) 0 = x at *
      go_wp2_with fail
      go_round
      case rel => exact ⟨k + 1, by omega, by go_num, congrArg (Value.int .i64) (by rw [HKk.out]; omega)⟩
      case measure => simp [intOf]; omega
    · have HL : Hid (xs.length - 1 = k) := Lib.hid (by omega)
      go_wp2_with fail
      go_ret
      exact ⟨ret_int (by rw [HL.out]), rfl⟩
/-- The greatest common divisor of the first k numbers. -/
def gcdK (xs : List Nat) : Nat → Nat
  | 0 => 0
  | k + 1 => Nat.gcd (gcdK xs k) (xs.getD k 0)
theorem gcd_le_of {a b c : Nat} (ha : a ≤ c) (hb : b ≤ c) : Nat.gcd a b ≤ c := by
  rcases Nat.eq_zero_or_pos a with h | h
  · rw [h, Nat.gcd_zero_left]; exact hb
  · exact Nat.le_trans (Nat.gcd_le_left _ h) ha
theorem gcdK_le (xs : List Nat) (B : Nat) (h : ∀ j, xs.getD j 0 ≤ B) : ∀ k, gcdK xs k ≤ B
  | 0 => Nat.zero_le _
  | k + 1 => gcd_le_of (gcdK_le xs B h k) (h k)
set_option maxHeartbeats 800000 in
theorem gmGcd_any (A B : Nat) (hA : A ≤ 1000000000) (hB : B ≤ 1000000000) (w : World) :
    Calls Try.prog 100 #[.int .i64 A, .int .i64 B] w fun e w' => e = .returned (.int .i64 (Nat.gcd A B : Nat)) ∧ w = w' := by
  go_enter Try.func100, Try.ntmps100
  go_wp2_with fail
  go_loop [0, 1] (fun v0 v1 => ∃ a b : Nat, v0 = .int .i64 a ∧ v1 = .int .i64 b ∧ a ≤ 1000000000 ∧ b ≤ 1000000000 ∧ Nat.gcd a b = Nat.gcd A B) (fun _ v1 => (intOf v1).toNat)
  case atStart => exact ⟨A, B, rfl, rfl, hA, hB, rfl⟩
  case round =>
    obtain ⟨a, b, rfl, rfl, ha, hb, hg⟩ := hrel
    have HG := Lib.hid hg
    clear hg
    by_cases hb0 : b = 0
    · have HE : Hid (a = Nat.gcd A B) := Lib.hid (by rw [← HG.out, hb0, Nat.gcd_zero_right])
      have hd : ((b : Int) != 0) = false := by simp; omega
      clear hb0
      go_wp2_with fail
      go_ret
      exact ⟨ret_int (by rw [← HE.out]), rfl⟩
    · have hd : ((b : Int) != 0) = true := by simp; omega
      have hbi : (0 : Int) < (b : Int) := by omega
      have hlt2 : a % b < b := Nat.mod_lt _ (by omega)
      have HN : Hid (Nat.gcd b (a % b) = Nat.gcd A B) := Lib.hid (by rw [← HG.out, Nat.gcd_comm a b, Nat.gcd_rec b a, Nat.gcd_comm])
      have HR : Hid (((a : Int) % (b : Int)) = ((a % b : Nat) : Int)) := Lib.hid rfl
      generalize a % b = r at *
      go_wp2_with fail
      go_round
      case rel => exact ⟨b, r, rfl, by rw [HR.out], hb, by omega, HN.out⟩
      case measure => (rw [HR.out]; simp only [intOf, Int.toNat_natCast]; exact hlt2)
set_option maxHeartbeats 1600000 in
theorem cDiv_any (xs : List Nat) (hB : ∀ j, xs.getD j 0 ≤ 1000000000) (hl : xs.length ≤ 1000000) (a : Option Addr) (b off cap : Nat) (w : World) (h : Rd w a b off (xs.map (fun (i : Nat) => (i : Int)))) :
    Calls Try.prog 101 #[.slice a xs.length cap] w fun e w' => e = .returned (.int .i64 (gcdK xs xs.length : Nat)) ∧ Same w w' := by
  have HC : Hid (∀ k, k < xs.length → a = some ⟨b, off, none⟩ ∧ w.cell? ⟨b, off + k, none⟩ = some (.int .i64 ((xs.getD k 0 : Nat) : Int))) := Lib.hid (fun k hk => by
    obtain ⟨h1, h2⟩ := h.2 k (by simpa using hk)
    refine ⟨h1, h2.trans ?_⟩
    congr 2
    simp [List.getD, hk])
  have HBB := Lib.hid hB
  have HG : Hid (∀ k, gcdK xs (k + 1) = Nat.gcd (gcdK xs k) (xs.getD k 0)) := Lib.hid (fun k => rfl)
  have HL := Lib.hid (gcdK_le xs 1000000000 hB)
  have HZ : Hid (gcdK xs 0 = 0) := Lib.hid rfl
  clear h hB
  go_enter Try.func101, Try.ntmps101
  go_wp2_with fail
  go_loopw [3, 8] (fun v3 v8 wr => ∃ k : Nat, k ≤ xs.length ∧ v8 = .int .i64 k ∧ v3 = .int .i64 (gcdK xs k : Nat) ∧ Same w wr) (fun _ v8 _ => xs.length - (intOf v8).toNat)
  case atStart => exact ⟨0, by omega, rfl, by rw [HZ.out]; rfl, Same.refl _⟩
  case round =>
    obtain ⟨k, hk, rfl, rfl, hs⟩ := hrel
    obtain ⟨wq, rfl⟩ : ∃ wq : World, wq = wr := ⟨_, rfl⟩
    by_cases hlt : k < xs.length
    · have hki : (k : Int) < (xs.length : Int) := by omega
      obtain ⟨ha, hc⟩ := HC.out k hlt
      subst ha
      have cc := (hs.cell ⟨b, off + k, none⟩).trans hc
      have hb := HBB.out k
      have hl := HL.out k
      have HGk := Lib.hid (HG.out k)
      generalize xs.getD k 0 = x at *
      generalize gcdK xs k = d at *
      clear hc
      go_wp2_with fail
      go_loopw [3, 5] (fun v3 v5 wr => ∃ D M : Nat, v3 = .int .i64 D ∧ v5 = .int .i64 M ∧ D ≤ 1000000000 ∧ M ≤ 1000000000 ∧ Nat.gcd D M = Nat.gcd d x ∧ Same w wr) (fun _ v5 _ => (intOf v5).natAbs)
      case atStart => exact ⟨d, x, rfl, rfl, hl, hb, rfl, hs⟩
      case round =>
        clear hs
        obtain ⟨D, M, rfl, rfl, hD, hM, hg, hs⟩ := hrel
        have HGG := Lib.hid hg
        clear hg
        by_cases hb0 : M = 0
        · have HEE : Hid (D = gcdK xs (k + 1)) := Lib.hid (by rw [HGk.out, ← HGG.out, hb0, Nat.gcd_zero_right])
          have hd : ((M : Int) != 0) = false := by simp; omega
          clear hb0
          go_wp2_with fail
          go_roundw
          case rel => exact ⟨k + 1, by omega, by go_num, by rw [← HEE.out], hs⟩
          case measure => simp [intOf]; omega
        · have hd : ((M : Int) != 0) = true := by simp; omega
          have hMi : (0 : Int) < (M : Int) := by omega
          have hlt2 : D % M < M := Nat.mod_lt _ (by omega)
          have HN : Hid (Nat.gcd M (D % M) = Nat.gcd d x) := Lib.hid (by rw [← HGG.out, Nat.gcd_comm D M, Nat.gcd_rec M D, Nat.gcd_comm])
          have HR : Hid (((D : Int) % (M : Int)) = ((D % M : Nat) : Int)) := Lib.hid rfl
          generalize D % M = r at *
          go_wp2_with fail
          go_quiet (fail)
          go_wp2
          go_roundw
          case rel => exact ⟨M, r, rfl, by rw [HR.out], hM, by omega, HN.out, hs.drewN _⟩
          case measure => (rw [HR.out]; simp only [intOf, Int.natAbs_natCast]; exact hlt2)
    · have HK : Hid (k = xs.length) := Lib.hid (by omega)
      go_wp2_with fail
      go_ret
      exact ⟨ret_int (by rw [← HK.out]), hs⟩
end Go.Proofs.Ytlkgmnmnlfaopaa
