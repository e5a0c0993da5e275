import Derived.Test.YtjohjiknngagiaaK0
namespace Go.Proofs.Ytjohjiknngagiaa
open Go.RowKit
set_option maxRecDepth 4000
set_option maxHeartbeats 400000 in
theorem knGiven_yes (n k : Int) (h : 1 ≤ n ∧ n ≤ 8 ∧ 1 ≤ k ∧ k ≤ n) (w : World) :
    Calls Try.prog 31 #[.int .i64 n, .int .i64 k] w fun e w' => e = .returned (.bool true) ∧ w = w' := by
  go_enter Try.func31, Try.ntmps31
  go_wp2_with fail
  refine (l1In_yes n 1 8 ⟨h.1, h.2.1⟩ _).mono ?_
  rintro e w' ⟨rfl, rfl⟩
  go_wp2_with fail
  refine (l1In_yes k 1 n ⟨h.2.2.1, h.2.2.2⟩ _).mono ?_
  rintro e w' ⟨rfl, rfl⟩
  go_wp2_with fail
  go_ret
  exact ⟨rfl, rfl⟩
set_option maxHeartbeats 400000 in
theorem knGiven_no (n k : Int) (h : ¬ (1 ≤ n ∧ n ≤ 8 ∧ 1 ≤ k ∧ k ≤ n)) (w : World) :
    Calls Try.prog 31 #[.int .i64 n, .int .i64 k] w fun e w' => e = .returned (.bool false) ∧ w = w' := by
  have H := Lib.hid h
  clear h
  by_cases h1 : 1 ≤ n ∧ n ≤ 8
  · have HI := Lib.hid (l1In_yes n 1 8 h1)
    have HK := Lib.hid (l1In_no k 1 n (fun h2 => H.out ⟨h1.1, h1.2, h2.1, h2.2⟩))
    clear h1
    go_enter Try.func31, Try.ntmps31
    go_wp2_with fail
    refine (HI.out _).mono ?_
    rintro e w' ⟨rfl, rfl⟩
    go_wp2_with fail
    refine (HK.out _).mono ?_
    rintro e w' ⟨rfl, rfl⟩
    go_wp2_with fail
    go_ret
    exact ⟨rfl, rfl⟩
  · have HI := Lib.hid (l1In_no n 1 8 h1)
    clear h1
    go_enter Try.func31, Try.ntmps31
    go_wp2_with fail
    refine (HI.out _).mono ?_
    rintro e w' ⟨rfl, rfl⟩
    go_wp2_with fail
    go_ret
    exact ⟨rfl, rfl⟩
theorem popF_zero : ∀ f, popF f 0 = 0
  | 0 => rfl
  | f + 1 => by simp [popF, popF_zero f]
set_option maxHeartbeats 800000 in
theorem knSize_any (s : Nat) (hs : s < 256) (w : World) :
    Calls Try.prog 58 #[.int .i64 s] w fun e w' => e = .returned (.int .i64 (pop s : Nat)) ∧ w = w' := by
  have HP : Hid (pop s = popF 8 s) := Lib.hid rfl
  go_enter Try.func58, Try.ntmps58
  go_wp2_with fail
  go_loop [0, 3] (fun v0 v3 => ∃ c r f : Nat, c + popF f r = popF 8 s ∧ r < 2 ^ f ∧ f ≤ 8 ∧ c + f ≤ 8 ∧ v0 = .int .i64 r ∧ v3 = .int .i64 c) (fun v0 _ => (intOf v0).toNat)
  case atStart => exact ⟨0, s, 8, by omega, hs, by omega, by omega, rfl, rfl⟩
  case round =>
    obtain ⟨c, r, f, he, hr, hf, hcf, rfl, rfl⟩ := hrel
    by_cases h0 : r = 0
    · subst h0
      rw [popF_zero, Nat.add_zero] at he
      have HE := Lib.hid he
      clear he hr hs
      go_wp2_with fail
      go_ret
      exact ⟨ret_int (by rw [HP.out, ← HE.out]), rfl⟩
    · cases f with
      | zero => simp at hr; omega
      | succ f =>
        have hr2 : r / 2 < 2 ^ f := by rw [Nat.pow_succ] at hr; omega
        have he2 : (c + r % 2) + popF f (r / 2) = popF 8 s := by rw [← he]; simp only [popF]; omega
        have HE := Lib.hid he2
        have HR := Lib.hid hr2
        have hrb : r < 256 := by
          have : 2 ^ (f + 1) ≤ 2 ^ 8 := Nat.pow_le_pow_right (by omega) hf
          omega
        have h01 : (0 : Int) < r := by omega
        clear he he2 hr hr2
        go_wp2_with fail
        go_round
        case rel => exact ⟨c + r % 2, r / 2, f, HE.out, HR.out, by omega, by omega, by go_num, by go_num⟩
        case measure => simp [intOf]; omega
set_option maxHeartbeats 1600000 in
theorem knSets_any (n k : Nat) (h3 : n ≤ 8) (w : World) :
    Calls Try.prog 34 #[.int .i64 n, .int .i64 k] w fun e w' => ∃ v, e = .returned v ∧ OI w' w.heap.size w'.heap.size v (kI n k) ∧ Below w.heap.size w w' := by
  obtain ⟨N, hN⟩ : ∃ N : Nat, N = 2 ^ n := ⟨_, rfl⟩
  have HNw : wrap64 ((2 : Int) ^ n) = (N : Int) := by
    subst hN
    have h9 : n < 9 := by omega
    clear h3
    revert n; decide +kernel
  have hN256 : N ≤ 256 := by
    rw [hN]; clear HNw hN
    have h9 : n < 9 := by omega
    clear h3
    revert n; decide +kernel
  have hE : Hid (kI n k = flt (isK k) N) := Lib.hid (by rw [hN]; rfl)
  clear hN
  go_enter Try.func34, Try.ntmps34
  go_wp2_with fail
  go_loopw [5, 6] (fun v5 v6 wr => ∃ i : Nat, i ≤ N ∧ v6 = .int .i64 i ∧ wr.ownsRow w.heap.size 3 1 v5 (flt (isK k) i).length ((flt (isK k) i).map (Value.int .i64)) ∧ Below w.heap.size w wr) (fun _ v6 _ => N - (intOf v6).toNat)
  case atStart => exact ⟨0, Nat.zero_le _, rfl, World.ownsRow_nil _ _ _ _, Below.refl _ _⟩
  case round =>
    obtain ⟨i, hi, rfl, ho, hb⟩ := hrel
    obtain ⟨wq, rfl⟩ : ∃ wq : World, wq = wr := ⟨_, rfl⟩
    have hz := hb.size
    by_cases hlt : i < N
    · have hii : (i : Int) < (N : Int) := by omega
      by_cases hk : pop i = k
      · have hkb : ((pop i : Nat) : Int) == (k : Int) := by simp [hk]
        have HF := Lib.hid (flt_yes (isK k) i (by simp [isK, hk]))
        have HL := Lib.hid (flt_len (isK k) i)
        have HO := Lib.hid ho
        clear ho hk
        generalize flt (isK k) i = xs at *
        go_wp2_with fail
        refine (knSize_any i (by omega) _).mono ?_
        rintro e w' ⟨rfl, rfl⟩
        go_wp2_with (at_builtin; go_loud (refine append_int w.heap.size wq _ xs _ rfl _ _ rfl rfl rfl HO.out hz (by have := HL.out; omega) ?_; intro v' w3 ho3 hb3))
        go_roundw
        case rel => exact ⟨i + 1, by omega, by go_num, by rw [HF.out]; exact ho3, hb.trans hb3⟩
        case measure => simp [intOf]; omega
      · have hkb : (((pop i : Nat) : Int) == (k : Int)) = false := by simp; omega
        have HF := Lib.hid (flt_no (isK k) i (by simp [isK, hk]))
        have HO := Lib.hid ho
        clear ho hk
        generalize flt (isK k) i = xs at *
        go_wp2_with fail
        refine (knSize_any i (by omega) _).mono ?_
        rintro e w' ⟨rfl, rfl⟩
        go_wp2_with fail
        go_roundw
        case rel => exact ⟨i + 1, by omega, by go_num, by rw [HF.out]; exact HO.out, hb⟩
        case measure => simp [intOf]; omega
    · have hk2 : i = N := by omega
      rw [hk2, ← hE.out] at ho
      have HK := Lib.hid hk2
      clear hk2
      go_wp2_with fail
      go_ret
      exact ⟨_, rfl, oi_new ho, hb⟩
theorem chs_no (n k : Nat) (h : n < k) : chs n k = 0 := by simp [chs, h]
set_option maxHeartbeats 800000 in
theorem knChoose_any (n k : Nat) (h1 : n ≤ 8) (h2 : k ≤ 8) (w : World) :
    Calls Try.prog 50 #[.int .i64 n, .int .i64 k] w fun e w' => e = .returned (.int .i64 (chs n k : Nat)) ∧ w = w' := by
  by_cases hk : n < k
  · have HE := Lib.hid (chs_no n k hk)
    go_enter Try.func50, Try.ntmps50
    go_wp2_with fail
    go_ret
    exact ⟨ret_int (by rw [HE.out]; rfl), rfl⟩
  · obtain ⟨d, rfl⟩ : ∃ d, n = k + d := ⟨n - k, by omega⟩
    have HE : Hid (chs (k + d) k = chK d k) := Lib.hid (by simp [chs, hk])
    have HB := Lib.hid (chK_bd d (by omega))
    have HS : Hid (∀ i, chK d (i + 1) = chK d i * (d + (i + 1)) / (i + 1)) := Lib.hid (fun i => rfl)
    have HZ : Hid (chK d 0 = 1) := Lib.hid rfl
    go_enter Try.func50, Try.ntmps50
    go_wp2_with fail
    go_loop [5, 6] (fun v5 v6 => ∃ i : Nat, i ≤ k ∧ v6 = .int .i64 ((i : Int) + 1) ∧ v5 = .int .i64 (chK d i : Nat)) (fun _ v6 => k + 1 - (intOf v6).toNat)
    case atStart => exact ⟨0, by omega, rfl, by rw [HZ.out]; rfl⟩
    case round =>
      obtain ⟨i, hi, rfl, rfl⟩ := hrel
      by_cases hlt : i < k
      · obtain ⟨b1, b2⟩ := HB.out i (by omega)
        have HSi := Lib.hid (HS.out i)
        obtain ⟨p, hp⟩ : ∃ p, p = chK d i * (d + (i + 1)) := ⟨_, rfl⟩
        rw [← hp] at b2 HSi
        have e1 : (chK d i : Int) * ((d : Int) + ((i : Int) + 1)) = (p : Int) := by rw [hp]; push_cast; rfl
        have e2 : wrap64 ((chK d i : Int) * ((k : Int) + (d : Int) - (k : Int) + ((i : Int) + 1))) = (p : Int) := by
          rw [show (k : Int) + (d : Int) - (k : Int) + ((i : Int) + 1) = (d : Int) + ((i : Int) + 1) by omega, e1]; exact IntWalk.wrap64_in _ ⟨by omega, by omega⟩
        obtain ⟨q, hq⟩ : ∃ q, q = p / (i + 1) := ⟨_, rfl⟩
        have hq2 : q ≤ p := by rw [hq]; exact Nat.div_le_self _ _
        rw [← hq] at HSi
        have e4 : (p : Int) / ((i : Int) + 1) = (q : Int) := by rw [hq]; push_cast; rfl
        have e3 : wrap64 ((p : Int) / ((i : Int) + 1)) = (q : Int) := by
          rw [e4]; exact IntWalk.wrap64_in _ ⟨by omega, by omega⟩
        clear hp e1 e4 hq
        go_wp2_with fail
        go_round
        case rel => exact ⟨i + 1, by omega, by push_cast; rfl, by rw [HSi.out]; first | rw [e3] | rw [e2, e3] | rfl⟩
        case measure => simp [intOf]; omega
      · have hk2 : i = k := by omega
        have HK := Lib.hid hk2
        clear hk2
        go_wp2_with fail
        go_ret
        exact ⟨ret_int (by rw [HE.out, ← HK.out]), rfl⟩
end Go.Proofs.Ytjohjiknngagiaa
