import Derived.Test.YtcahecohjmahaaaDoorJe
import Derived.Test.YtcahecohjmahaaaDoorJa
namespace Go.Proofs.YtcahecohjmahaaaDoor
open Go.RowKit
set_option maxRecDepth 4000
set_option maxHeartbeats 3200000 in
theorem owner_any (N M S n m s g b i : Nat) (xs : List Int) (hN : (n : Int) + 2 = N) (hM : (m : Int) + 2 = M) (hNM : N * M = S) (hS : S ≤ 1000) (hnm : n * m = s) (hs : s ≤ 30) (h1 : 1 ≤ n) (h2 : 1 ≤ m) (hl : xs.length = s) (hi : i < S) (w : World) (hR : RimB w N M g b n m xs) :
    Calls Tryd.prog 122 #[.int .i64 i, .pointer (some ⟨g, 0, none⟩), .pointer (some ⟨b, 0, none⟩)] w fun e w' => e = .returned (.int .i64 (hown n m xs i)) ∧ Below w.heap.size w w' := by
  obtain ⟨r, c, p, hr, hc, hrN, hcM, hp, hpi⟩ := hxRC (n := N) (m := M) (by omega) hNM hi
  have HO : Hid (hown n m xs i = if 0 ≤ (r : Int) - 1 ∧ (r : Int) - 1 ≤ (n : Int) - 1 ∧ 0 ≤ (c : Int) - 1 ∧ (c : Int) - 1 ≤ (m : Int) - 1 then xs.getD ((m : Int) * ((r : Int) - 1) + ((c : Int) - 1)).toNat 0
    else if ((r : Int) - 1 = -1 ∧ (c : Int) - 1 < m) ∨ ((r : Int) - 1 = n ∧ 0 ≤ (c : Int) - 1) then 1 else 2) := Lib.hid (by
    unfold hown
    rw [hM, ← Int.natCast_ediv, ← Int.natCast_emod, ← hr, ← hc])
  have HRW := Lib.hid (fun w => hxRow_any N M i r (by omega) hr (by omega) w)
  have HCW := Lib.hid (fun w => hxCol_any N M i c (by omega) hc w)
  have HRB := Lib.hid (fun w' (hb : Below w.heap.size w w') => rimB_now hR hb)
  have hgs := (Array.getElem?_eq_some_iff.1 hR.1).1
  have hbs := (Array.getElem?_eq_some_iff.1 hR.2).1
  have e1 : IntKind.i64.wrap ((r : Int) - 1) = (r : Int) - 1 := IntWalk.i64_in _ ⟨by omega, by have := Nat.div_le_self i M; omega⟩
  have e2 : IntKind.i64.wrap ((c : Int) - 1) = (c : Int) - 1 := IntWalk.i64_in _ ⟨by omega, by have := Nat.mod_le i M; omega⟩
  have hrb : r ≤ 1000 := by have := Nat.div_le_self i M; omega
  have hcb : c ≤ 1000 := by have := Nat.mod_le i M; omega
  have hcm : (c : Int) ≤ (m : Int) + 1 := by omega
  have hrn : (r : Int) ≤ (n : Int) + 1 := by omega
  have hnb : n ≤ 30 := by have := Nat.le_mul_of_pos_right n (show 0 < m by omega); omega
  have hmb : m ≤ 30 := by have := Nat.le_mul_of_pos_left m (show 0 < n by omega); omega
  have HNM := Lib.hid hnm
  have HL := Lib.hid hl
  clear hR hr hc hp hpi hN hM hNM hi hnm hl
  go_enter Tryd.func122, Tryd.ntmps122
  go_wp2_with fail
  refine wp_region_below (by kernel_rfl) (by kernel_rfl) ?_
  intro ι hne f hbf hcl
  have m1 : ∀ t, (f t).cell? ⟨g, 0, none⟩ = some (.int .i64 N) := fun t => blk_cell (HRB.out _ (hbf t)).1 0 _ rfl
  have m2 : ∀ t, (f t).cell? ⟨g, 1, none⟩ = some (.int .i64 M) := fun t => blk_cell (HRB.out _ (hbf t)).1 1 _ rfl
  repeat (go_big_quiet_step (first | (go_at_call 74; with_reducible refine (HRW.out _).mono ?_; rintro e w' ⟨rfl, hb⟩; exact ⟨rfl, hcl _ _ hb⟩) | (go_at_call 108; with_reducible refine (HCW.out _).mono ?_; rintro e w' ⟨rfl, hb⟩; exact ⟨rfl, hcl _ _ hb⟩)))
  refine wpQuiet_nil ?_
  rintro _ ⟨t, rfl⟩
  have hB := hbf t
  clear m1 m2 hcl hbf e1 e2
  generalize f t = w1 at hB ⊢
  clear f hne
  (try clear t)
  have q0 := blk_cell (HRB.out _ hB).2 0 (.int .i64 n) rfl
  have q1 := blk_cell (HRB.out _ hB).2 1 (.int .i64 m) rfl
  have hz := hB.size
  by_cases hh : 0 ≤ (r : Int) - 1 ∧ (r : Int) - 1 ≤ (n : Int) - 1 ∧ 0 ≤ (c : Int) - 1 ∧ (c : Int) - 1 ≤ (m : Int) - 1
  · obtain ⟨R, hR⟩ : ∃ R : Nat, r = R + 1 := ⟨r - 1, by omega⟩
    obtain ⟨C, hC⟩ : ∃ C : Nat, c = C + 1 := ⟨c - 1, by omega⟩
    have hRi : (r : Int) - 1 = (R : Int) := by omega
    have hCi : (c : Int) - 1 = (C : Int) := by omega
    rw [hRi, hCi] at HO hh
    obtain ⟨q, hq⟩ : ∃ q : Nat, m * R = q := ⟨_, rfl⟩
    have hqi : (m : Int) * (R : Int) = (q : Int) := by rw [← hq]; exact (Int.natCast_mul m R).symm
    have hqs : q + C < s := by
      have a : m * R ≤ m * (n - 1) := Nat.mul_le_mul_left m (by omega)
      have b' : m * (n - 1) + m = n * m := by
        obtain ⟨z, rfl⟩ : ∃ z, n = z + 1 := ⟨n - 1, by omega⟩
        rw [Nat.add_sub_cancel, Nat.mul_comm (z + 1) m, Nat.mul_add, Nat.mul_one]
      have := HNM.out
      omega
    have HV : Hid (hown n m xs i = xs.getD (q + C) 0) := Lib.hid (by rw [HO.out, if_pos hh, hqi]; rfl)
    have HH := Lib.hid (fun w => hxHas_yes n m (R : Int) (C : Int) hh w)
    have HPL := Lib.hid (fun w => hxPlace_any n m (R : Int) (C : Int) (q : Int) hqi (by omega) (by omega) (by omega) (by omega) w)
    have hCr : ((C : Int) + 1) - 1 = C := by omega
    clear hq hqi hh HO hR hC
    (try go_wp2_with fail)
    refine (HH.out _).mono ?_
    rintro e w2 ⟨rfl, hb2⟩
    have hB2 := bnext hB hb2
    have r0 := blk_cell (HRB.out _ hB2).2 0 (.int .i64 n) rfl
    have r1 := blk_cell (HRB.out _ hB2).2 1 (.int .i64 m) rfl
    clear q0 q1 hb2
    go_wp2_with fail
    refine (HPL.out _).mono ?_
    rintro e w3 ⟨rfl, hb3⟩
    have hB3 := bnext hB2 hb3
    have c3 := blk_cell (HRB.out _ hB3).2 (2 + (q + C)) _ (hb_at n m xs (q + C) (by have := HL.out; omega))
    rw [← HV.out] at c3
    have hj : (q : Int) + (C : Int) = ((q + C : Nat) : Int) := by omega
    rw [hj]
    obtain ⟨j, hj2⟩ : ∃ j, q + C = j := ⟨_, rfl⟩
    rw [hj2] at c3 ⊢
    have hj30 : (j : Int) < 30 := by omega
    have hj30' : j < 30 := by omega
    clear hj hj2 hqs r0 r1 hb3
    go_wp2_with fail
    go_ret
    exact ⟨rfl, hB3⟩
  · have HV0 : Hid (hown n m xs i = if ((r : Int) - 1 = -1 ∧ (c : Int) - 1 < m) ∨ ((r : Int) - 1 = n ∧ 0 ≤ (c : Int) - 1) then 1 else 2) := Lib.hid (by rw [HO.out, if_neg hh])
    have HH := Lib.hid (fun w => hxHas_no n m ((r : Int) - 1) ((c : Int) - 1) hh w)
    have HHH := Lib.hid hh
    clear hh HO
    (try go_wp2_with fail)
    refine (HH.out _).mono ?_
    rintro e w2 ⟨rfl, hb2⟩
    have hB2 := bnext hB hb2
    have r0 := blk_cell (HRB.out _ hB2).2 0 (.int .i64 n) rfl
    have r1 := blk_cell (HRB.out _ hB2).2 1 (.int .i64 m) rfl
    clear q0 q1 hb2
    have t1 : ((r : Int) - 1 == -1) = decide ((r : Int) - 1 = -1) := rfl
    by_cases hr0 : (r : Int) - 1 = -1
    · by_cases hcm2 : (c : Int) - 1 = m
      · have HV : Hid (hown n m xs i = 2) := Lib.hid (by rw [HV0.out, if_neg (by omega)])
        have b1 : ((r : Int) - 1 == -1) = true := by simpa using hr0
        have b2 : ((c : Int) - 1 != (m : Int)) = false := by simpa using hcm2
        have b3 : ((r : Int) - 1 == (n : Int)) = false := by simp; omega
        clear t1 hr0 hcm2 HV0
        go_wp2_with fail
        go_ret
        exact ⟨ret_int HV.out.symm, hB2⟩
      · have HV : Hid (hown n m xs i = 1) := Lib.hid (by rw [HV0.out, if_pos (by omega)])
        have b1 : ((r : Int) - 1 == -1) = true := by simpa using hr0
        have b2 : ((c : Int) - 1 != (m : Int)) = true := by simpa using hcm2
        clear t1 hr0 hcm2 HV0
        go_wp2_with fail
        go_ret
        exact ⟨ret_int HV.out.symm, hB2⟩
    · by_cases hrn2 : (r : Int) - 1 = n
      · by_cases hc0 : (c : Int) - 1 = -1
        · have HV : Hid (hown n m xs i = 2) := Lib.hid (by rw [HV0.out, if_neg (by omega)])
          have b1 : ((r : Int) - 1 == -1) = false := by simpa using hr0
          have b3 : ((r : Int) - 1 == (n : Int)) = true := by simpa using hrn2
          have b2 : ((c : Int) - 1 != -1) = false := by simpa using hc0
          clear t1 hr0 hrn2 hc0 HV0
          go_wp2_with fail
          go_ret
          exact ⟨ret_int HV.out.symm, hB2⟩
        · have HV : Hid (hown n m xs i = 1) := Lib.hid (by rw [HV0.out, if_pos (by omega)])
          have b1 : ((r : Int) - 1 == -1) = false := by simpa using hr0
          have b3 : ((r : Int) - 1 == (n : Int)) = true := by simpa using hrn2
          have b2 : ((c : Int) - 1 != -1) = true := by simpa using hc0
          clear t1 hr0 hrn2 hc0 HV0
          go_wp2_with fail
          go_ret
          exact ⟨ret_int HV.out.symm, hB2⟩
      · have HV : Hid (hown n m xs i = 2) := Lib.hid (by rw [HV0.out, if_neg (by omega)])
        have b1 : ((r : Int) - 1 == -1) = false := by simpa using hr0
        have b3 : ((r : Int) - 1 == (n : Int)) = false := by simpa using hrn2
        clear t1 hr0 hrn2 HV0
        go_wp2_with fail
        go_ret
        exact ⟨ret_int HV.out.symm, hB2⟩
end Go.Proofs.YtcahecohjmahaaaDoor
