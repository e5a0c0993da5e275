import Derived.Test.YtcahecohjmahaaaDoorJb
import Derived.Test.YtcahecohjmahaaaDoorJh
namespace Go.Proofs.YtcahecohjmahaaaDoor
open Go.RowKit
set_option maxRecDepth 4000
theorem vint {a b : Int} (h : a = b) : Value.int .i64 a = .int .i64 b := by rw [h]
/-- The players of the first places of a board with its rim. -/
def hrl (own : Int → Int) (k : Nat) : List Int := (List.range k).map fun (i : Nat) => own (i : Int)
theorem hrl_succ (own : Int → Int) (k : Nat) : hrl own (k + 1) = hrl own k ++ [own (k : Int)] := by simp [hrl, List.range_succ]
theorem hrl_len (own : Int → Int) (k : Nat) : (hrl own k).length = k := by simp [hrl]
theorem hrl_at (own : Int → Int) (k i : Nat) (h : i < k) : (hrl own k).getD i 0 = own (i : Int) := by simp [hrl, List.getD, h]
theorem hown_at {n m M R C : Nat} (hM : (m : Int) + 2 = M) (xs : List Int) (hC : C < M) : hown n m xs ((M * R + C : Nat) : Int) = if 0 ≤ (R : Int) - 1 ∧ (R : Int) - 1 ≤ (n : Int) - 1 ∧ 0 ≤ (C : Int) - 1 ∧ (C : Int) - 1 ≤ (m : Int) - 1 then xs.getD ((m : Int) * ((R : Int) - 1) + ((C : Int) - 1)).toNat 0
    else if ((R : Int) - 1 = -1 ∧ (C : Int) - 1 < m) ∨ ((R : Int) - 1 = n ∧ 0 ≤ (C : Int) - 1) then 1 else 2 := by
  obtain ⟨e1, e2⟩ := pl_div (m := (M : Int)) (r := (R : Int)) (c := (C : Int)) (by omega) (by omega)
  unfold hown
  rw [hM, show ((M * R + C : Nat) : Int) = (M : Int) * R + C from by rw [Int.natCast_add, Int.natCast_mul], e1, e2]
theorem rim_in {own : Int → Int} {B R C n m s : Nat} (xs : List Int) (h1 : 1 ≤ n) (hs : s ≤ 30) (hnm : n * m = s) (r : 0 ≤ (R : Int) - 1 ∧ (R : Int) - 1 ≤ (n : Int) - 1) (c : 0 ≤ (C : Int) - 1 ∧ (C : Int) - 1 ≤ (m : Int) - 1)
    (hV : own ((B + C : Nat) : Int) = if 0 ≤ (R : Int) - 1 ∧ (R : Int) - 1 ≤ (n : Int) - 1 ∧ 0 ≤ (C : Int) - 1 ∧ (C : Int) - 1 ≤ (m : Int) - 1 then xs.getD ((m : Int) * ((R : Int) - 1) + ((C : Int) - 1)).toNat 0
    else if ((R : Int) - 1 = -1 ∧ (C : Int) - 1 < m) ∨ ((R : Int) - 1 = n ∧ 0 ≤ (C : Int) - 1) then 1 else 2) :
    ∃ q j : Nat, wrap64 ((m : Int) * ((R : Int) - 1)) = (q : Int) ∧ (q : Int) + ((C : Int) - 1) = (j : Int) ∧ j < s ∧ q ≤ 30 ∧ own ((B + C : Nat) : Int) = xs.getD j 0 := by
  obtain ⟨R', rfl⟩ : ∃ R' : Nat, R = R' + 1 := ⟨R - 1, by omega⟩
  obtain ⟨C', rfl⟩ : ∃ C' : Nat, C = C' + 1 := ⟨C - 1, by omega⟩
  rw [if_pos ⟨r.1, r.2, c⟩] at hV
  have hRi : ((R' + 1 : Nat) : Int) - 1 = (R' : Int) := by omega
  have hCi : ((C' + 1 : Nat) : Int) - 1 = (C' : Int) := by omega
  rw [hRi, hCi] at hV
  rw [hRi, hCi]
  obtain ⟨q, hq⟩ : ∃ q : Nat, m * R' = q := ⟨_, rfl⟩
  have hqi : (m : Int) * (R' : Int) = (q : Int) := by rw [← hq]; exact (Int.natCast_mul m R').symm
  have hqs : q + C' < s := by
    have a : m * R' ≤ m * (n - 1) := Nat.mul_le_mul_left m (by omega)
    have b' : m * (n - 1) + m = n * m := by
      obtain ⟨z, rfl⟩ : ∃ z, n = z + 1 := ⟨n - 1, by omega⟩
      rw [Nat.add_sub_cancel, Nat.mul_comm (z + 1) m, Nat.mul_add, Nat.mul_one]
    omega
  refine ⟨q, q + C', by rw [hqi, IntWalk.wrap64_in _ ⟨by omega, by omega⟩], by omega, hqs, by omega, ?_⟩
  rw [hV, hqi]
  rfl
set_option maxHeartbeats 3200000 in
theorem hxRim_any (N M S n m s : Nat) (xs : List Int) (a : Option Addr) (b len cap : Nat) (hN : (n : Int) + 2 = N) (hM : (m : Int) + 2 = M) (hNM : N * M = S) (hS : S ≤ 1000) (hnm : n * m = s) (hs : s ≤ 30) (h1 : 1 ≤ n) (h2 : 1 ≤ m) (hl : xs.length = s) (hn : xs.length = len) (w : World) (h : Rd w a b 0 xs) (hb0 : len = 0 ∨ b < w.heap.size) :
    Calls Tryd.prog 119 #[.int .i64 n, .int .i64 m, .slice a len cap] w fun e w' => ∃ v, e = .returned v ∧ w'.ownsRow w.heap.size 3 1 v (hrl (hown n m xs) S).length ((hrl (hown n m xs) S).map (Value.int .i64)) ∧ Below w.heap.size w w' := by
  have HRD := Lib.hid (fun w' (hb : Below w.heap.size w w') => h.later hn hb0 hb)
  have HO := Lib.hid (fun (R C : Nat) (hC : C < M) => hown_at (n := n) (R := R) hM xs hC)
  have HS := Lib.hid (hrl_succ (hown n m xs))
  have HL := Lib.hid (hrl_len (hown n m xs))
  have HNM := Lib.hid hNM
  have HNMs := Lib.hid hnm
  have HLN := Lib.hid hl
  have hnb : n ≤ 30 := by have := Nat.le_mul_of_pos_right n (show 0 < m by omega); omega
  have hmb : m ≤ 30 := by have := Nat.le_mul_of_pos_left m (show 0 < n by omega); omega
  have HNi := Lib.hid hN
  have HMi := Lib.hid hM
  have HLE := Lib.hid hn
  clear h hb0 hnm hl hNM hN hM hn
  generalize hown n m xs = own at *
  go_enter Tryd.func119, Tryd.ntmps119
  go_wp2_with fail
  go_loopw [7, 8] (fun v7 v8 wr => ∃ R : Nat, R ≤ N ∧ v8 = .int .i64 ((R : Int) - 1) ∧ wr.ownsRow w.heap.size 3 1 v7 (hrl own (M * R)).length ((hrl own (M * R)).map (Value.int .i64)) ∧ Below w.heap.size w wr) (fun _ v8 _ => N - (intOf v8 + 1).toNat)
  case atStart => exact ⟨0, Nat.zero_le _, rfl, World.ownsRow_nil _ _ _ _, Below.refl _ _⟩
  case round =>
    obtain ⟨R, hR, rfl, ho, hB⟩ := hrel
    obtain ⟨wo, hwo⟩ : ∃ wo : World, wo = wr := ⟨_, rfl⟩
    subst hwo
    by_cases hlt : R < N
    · have hle : (R : Int) - 1 ≤ (n : Int) := by have := HNi.out; omega
      have hRM : M * R + M ≤ S := by
        have a := Nat.mul_le_mul_left M (show R + 1 ≤ N by omega)
        rw [Nat.mul_add, Nat.mul_one, Nat.mul_comm M N, HNM.out] at a
        exact a
      obtain ⟨B, hB'⟩ : ∃ B, M * R = B := ⟨_, rfl⟩
      have HBB : Hid (M * R = B) := Lib.hid hB'
      rw [hB'] at ho hRM
      have HO1 : Hid (∀ C : Nat, C < M → own ((B + C : Nat) : Int) = if 0 ≤ (R : Int) - 1 ∧ (R : Int) - 1 ≤ (n : Int) - 1 ∧ 0 ≤ (C : Int) - 1 ∧ (C : Int) - 1 ≤ (m : Int) - 1 then xs.getD ((m : Int) * ((R : Int) - 1) + ((C : Int) - 1)).toNat 0
          else if ((R : Int) - 1 = -1 ∧ (C : Int) - 1 < m) ∨ ((R : Int) - 1 = n ∧ 0 ≤ (C : Int) - 1) then 1 else 2) := Lib.hid (fun C hC => by
        have := HO.out R C hC
        rw [hB'] at this
        exact this)
      have hRb : (R : Int) ≤ 32 := by have := HNi.out; omega
      clear hB'
      go_wp2_with fail
      go_loopw [7, 9] (fun v7 v9 wr => ∃ C : Nat, C ≤ M ∧ v9 = .int .i64 ((C : Int) - 1) ∧ wr.ownsRow w.heap.size 3 1 v7 (hrl own (B + C)).length ((hrl own (B + C)).map (Value.int .i64)) ∧ Below w.heap.size w wr) (fun _ v9 _ => M - (intOf v9 + 1).toNat)
      case atStart => exact ⟨0, Nat.zero_le _, rfl, ho, hB⟩
      case round =>
        clear ho hB
        obtain ⟨C, hC, rfl, ho, hB⟩ := hrel
        obtain ⟨wi, hwi⟩ : ∃ wi : World, wi = wr := ⟨_, rfl⟩
        subst hwi
        by_cases hltC : C < M
        · have hleC : (C : Int) - 1 ≤ (m : Int) := by have := HMi.out; omega
          have HS1 := Lib.hid (HS.out (B + C))
          have HL1 := Lib.hid (HL.out (B + C))
          have HV0 := Lib.hid (HO1.out C hltC)
          have hCb : (C : Int) ≤ 32 := by have := HMi.out; omega
          have hz := hB.size
          have hlen : (hrl own (B + C)).length < 1000000000000 := by rw [HL1.out]; omega
          have HLEN := Lib.hid hlen
          clear hlen
          by_cases r1 : 0 ≤ (R : Int) - 1 ∧ (R : Int) - 1 ≤ (n : Int) - 1
          · by_cases c1 : 0 ≤ (C : Int) - 1 ∧ (C : Int) - 1 ≤ (m : Int) - 1
            · obtain ⟨q, j, hwm, hqj, hjs, hqb, hV⟩ := rim_in (own := own) (B := B) xs h1 hs HNMs.out r1 c1 HV0.out
              have HV := Lib.hid hV
              obtain ⟨ra, rc⟩ := (HRD.out wi hB).2 j (by have := HLN.out; omega)
              subst ra
              rw [← HV.out, Nat.zero_add] at rc
              have hjl : (j : Int) < (len : Int) := by have := HLN.out; have := HLE.out; omega
              have R1 := Lib.hid r1
              have C1 := Lib.hid c1
              clear r1 c1 hV HV0 HV
              generalize own ((B + C : Nat) : Int) = x at HS1 rc
              clear hjs
              go_wp2_with fail
              refine (l1In_yes ((R : Int) - 1) 0 ((n : Int) - 1) R1.out _).mono ?_
              rintro e w1 ⟨rfl, rfl⟩
              go_wp2_with fail
              refine (l1In_yes ((C : Int) - 1) 0 ((m : Int) - 1) C1.out _).mono ?_
              rintro e w1 ⟨rfl, rfl⟩
              go_wp2_with (at_builtin; refine append_int w.heap.size wi _ (hrl own (B + C)) x rfl _ _ rfl rfl rfl ho hz HLEN.out ?_; intro v' w5 ho5 hb5)
              go_roundw
              case rel => exact ⟨C + 1, by omega, vint (by omega), by rw [show B + (C + 1) = B + C + 1 from rfl, HS1.out]; exact ho5, hB.trans hb5⟩
              case measure => simp [intOf]; omega
            · have HV : Hid (own ((B + C : Nat) : Int) = 2) := Lib.hid (by rw [HV0.out, if_neg (fun e => c1 ⟨e.2.2.1, e.2.2.2⟩), if_neg (by omega)])
              rw [HV.out] at HS1
              have b1 : ((R : Int) - 1 == -1) = false := by simp; omega
              have b3 : ((R : Int) - 1 == (n : Int)) = false := by simp; omega
              have R1 := Lib.hid r1
              have C1 := Lib.hid c1
              clear r1 c1 HV HV0
              go_wp2_with fail
              refine (l1In_yes ((R : Int) - 1) 0 ((n : Int) - 1) R1.out _).mono ?_
              rintro e w1 ⟨rfl, rfl⟩
              go_wp2_with fail
              refine (l1In_no ((C : Int) - 1) 0 ((m : Int) - 1) C1.out _).mono ?_
              rintro e w1 ⟨rfl, rfl⟩
              go_wp2_with (at_builtin; refine append_int w.heap.size wi _ (hrl own (B + C)) 2 rfl _ _ rfl rfl rfl ho hz HLEN.out ?_; intro v' w5 ho5 hb5)
              go_roundw
              case rel => exact ⟨C + 1, by omega, vint (by omega), by rw [show B + (C + 1) = B + C + 1 from rfl, HS1.out]; exact ho5, hB.trans hb5⟩
              case measure => simp [intOf]; omega
          · have R1 := Lib.hid r1
            by_cases hr0 : (R : Int) - 1 = -1
            · have b1 : ((R : Int) - 1 == -1) = true := by simpa using hr0
              have b3 : ((R : Int) - 1 == (n : Int)) = false := by simp; omega
              by_cases hc : (C : Int) - 1 < (m : Int)
              · have HV : Hid (own ((B + C : Nat) : Int) = 1) := Lib.hid (by rw [HV0.out, if_neg (fun e => r1 ⟨e.1, e.2.1⟩), if_pos (.inl ⟨hr0, hc⟩)])
                rw [HV.out] at HS1
                clear r1 hr0 HV HV0
                go_wp2_with fail
                refine (l1In_no ((R : Int) - 1) 0 ((n : Int) - 1) R1.out _).mono ?_
                rintro e w1 ⟨rfl, rfl⟩
                go_wp2_with (at_builtin; refine append_int w.heap.size wi _ (hrl own (B + C)) 1 rfl _ _ rfl rfl rfl ho hz HLEN.out ?_; intro v' w5 ho5 hb5)
                go_roundw
                case rel => exact ⟨C + 1, by omega, vint (by omega), by rw [show B + (C + 1) = B + C + 1 from rfl, HS1.out]; exact ho5, hB.trans hb5⟩
                case measure => simp [intOf]; omega
              · have HV : Hid (own ((B + C : Nat) : Int) = 2) := Lib.hid (by rw [HV0.out, if_neg (fun e => r1 ⟨e.1, e.2.1⟩), if_neg (by omega)])
                rw [HV.out] at HS1
                clear r1 hr0 HV HV0
                go_wp2_with fail
                refine (l1In_no ((R : Int) - 1) 0 ((n : Int) - 1) R1.out _).mono ?_
                rintro e w1 ⟨rfl, rfl⟩
                go_wp2_with (at_builtin; refine append_int w.heap.size wi _ (hrl own (B + C)) 2 rfl _ _ rfl rfl rfl ho hz HLEN.out ?_; intro v' w5 ho5 hb5)
                go_roundw
                case rel => exact ⟨C + 1, by omega, vint (by omega), by rw [show B + (C + 1) = B + C + 1 from rfl, HS1.out]; exact ho5, hB.trans hb5⟩
                case measure => simp [intOf]; omega
            · have hrn : (R : Int) - 1 = (n : Int) := by have := HNi.out; omega
              have b1 : ((R : Int) - 1 == -1) = false := by simpa using hr0
              have b3 : ((R : Int) - 1 == (n : Int)) = true := by simpa using hrn
              by_cases hc : 0 ≤ (C : Int) - 1
              · have hc2 : 1 ≤ (C : Int) := by omega
                have HV : Hid (own ((B + C : Nat) : Int) = 1) := Lib.hid (by rw [HV0.out, if_neg (fun e => r1 ⟨e.1, e.2.1⟩), if_pos (.inr ⟨hrn, hc⟩)])
                rw [HV.out] at HS1
                clear r1 hr0 hrn HV HV0
                go_wp2_with fail
                refine (l1In_no ((R : Int) - 1) 0 ((n : Int) - 1) R1.out _).mono ?_
                rintro e w1 ⟨rfl, rfl⟩
                go_wp2_with (at_builtin; refine append_int w.heap.size wi _ (hrl own (B + C)) 1 rfl _ _ rfl rfl rfl ho hz HLEN.out ?_; intro v' w5 ho5 hb5)
                go_roundw
                case rel => exact ⟨C + 1, by omega, vint (by omega), by rw [show B + (C + 1) = B + C + 1 from rfl, HS1.out]; exact ho5, hB.trans hb5⟩
                case measure => simp [intOf]; omega
              · have hc2 : ¬ 1 ≤ (C : Int) := by omega
                have HV : Hid (own ((B + C : Nat) : Int) = 2) := Lib.hid (by rw [HV0.out, if_neg (fun e => r1 ⟨e.1, e.2.1⟩), if_neg (by omega)])
                rw [HV.out] at HS1
                clear r1 hr0 hrn HV HV0
                go_wp2_with fail
                refine (l1In_no ((R : Int) - 1) 0 ((n : Int) - 1) R1.out _).mono ?_
                rintro e w1 ⟨rfl, rfl⟩
                go_wp2_with (at_builtin; refine append_int w.heap.size wi _ (hrl own (B + C)) 2 rfl _ _ rfl rfl rfl ho hz HLEN.out ?_; intro v' w5 ho5 hb5)
                go_roundw
                case rel => exact ⟨C + 1, by omega, vint (by omega), by rw [show B + (C + 1) = B + C + 1 from rfl, HS1.out]; exact ho5, hB.trans hb5⟩
                case measure => simp [intOf]; omega
        · have hC2 : C = M := by omega
          have hlt2 : ¬ (C : Int) - 1 ≤ (m : Int) := by have := HMi.out; omega
          have hBM : M * (R + 1) = B + C := by rw [Nat.mul_add, Nat.mul_one, HBB.out, hC2]
          have HBM := Lib.hid hBM
          clear hC2 hBM
          go_wp2_with fail
          go_roundw
          case rel => exact ⟨R + 1, by omega, vint (by omega), by rw [HBM.out]; exact ho, hB⟩
          case measure => simp [intOf]; omega
    · have hR2 : R = N := by omega
      have hlt2 : ¬ (R : Int) - 1 ≤ (n : Int) := by have := HNi.out; omega
      have hSS : M * R = S := by rw [hR2, Nat.mul_comm]; exact HNM.out
      rw [hSS] at ho
      obtain ⟨-, sa, sc, sb, rfl, -⟩ := own_shape ho
      clear hR2 hSS
      go_wp2_with fail
      go_ret
      exact ⟨_, rfl, ho, hB⟩
end Go.Proofs.YtcahecohjmahaaaDoor
