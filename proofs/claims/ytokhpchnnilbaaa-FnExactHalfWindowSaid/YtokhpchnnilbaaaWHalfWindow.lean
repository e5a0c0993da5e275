import Derived.Lib.Strings
import Derived.Test.YtokhpchnnilbaaaN17
namespace Go.Proofs.Ytokhpchnnilbaaa
open Go.RowKit
set_option maxRecDepth 4000
open Go.Maps
def OutHalfWindow (w : World) (r0 : Int) (r1 : Bool) (e : Ending) (w' : World) : Prop := e = .returned (.tuple #[.int .i64 r0, .bool r1]) ∧ Below w.heap.size w w'
set_option maxHeartbeats 3200000 in
theorem lawOf_HalfWindow (s : ByteArray) (w : World) (r0 : Int) (r1 : Bool)
    (hs : ∀  (w' : World), s.size ≤ 1048576 → Calls Try.prog 39 #[.string s] w' (OutHalfWindow w' r0 r1))
    (hi : ∀  (w' : World), s.size ≤ 1048576 → Calls Try.prog 40 #[.string s] w' (OutHalfWindow w' r0 r1)) :
    Calls Try.prog 13 #[.string s] w fun e w' => e = .returned (.bool true) ∧ Below w.heap.size w w' := by
  have HS := Lib.hid hs
  have HI := Lib.hid hi
  clear hs hi
  have hne0 : (r0 != r0) = false := by simp
  have hne1 : (r1 != r1) = false := by simp
  have hB0 : Below w.heap.size w w := Below.refl _ _
  by_cases hbig_s : (1048576 : Int) < (s.size : Int)
  · go_enter Try.func13, Try.ntmps13
    go_wp2_with fail
    go_ret
    exact ⟨rfl, Below.refl _ _⟩
  have hsz_s : s.size ≤ 1048576 := by omega
  go_enter Try.func13, Try.ntmps13
  go_wp2_with fail
  refine (HS.out  _ hsz_s ).mono ?_
  rintro e w1 ⟨rfl, hb⟩
  have hc := chg_below hb
  clear hb
  have z1 := hc.size
  replace hB0 := below_chg hB0 hc (by omega) (by omega)
  clear hc
  go_wp2_with fail
  refine (HI.out  _ hsz_s ).mono ?_
  rintro e w2 ⟨rfl, hb⟩
  have hc := chg_below hb
  clear hb
  have z2 := hc.size
  replace hB0 := below_chg hB0 hc (by omega) (by omega)
  clear hc
  go_wp2_with fail
  go_ret
  exact ⟨rfl, hB0⟩
/-- Whether there may be half windows. -/
def hfB (s : ByteArray) : Bool := goodS s && (evB s && decide (nz (cI s) ≤ 2))
def hfV (s : ByteArray) : Int := if hfB s = true then ((fwR s).1 : Nat) else 0
def hfO (s : ByteArray) : Bool := hfB s && (fwR s).2
theorem hf_no {s : ByteArray} (h : hfB s = false) : hfV s = 0 ∧ hfO s = false := by simp [hfV, hfO, h]
theorem hf_yes {s : ByteArray} (h : hfB s = true) : hfV s = ((fwR s).1 : Nat) ∧ hfO s = (fwR s).2 := by simp [hfV, hfO, h]
theorem hf_empty {s : ByteArray} (h : s.size = 0) : hfV s = 0 ∧ hfO s = false := by
  have e : fwR s = (0, false) := fw_none s (fun j hj => by omega)
  unfold hfV hfO
  rw [e]
  simp
theorem nz_half (f : Nat → Nat) (h : dv2 f = true) : nz (fun k => ((f k / 2 : Nat) : Int)) = nz (fun k => (f k : Int)) := by
  have hh := (dv2_iff f).1 h
  have h0 := hh 0 (by omega); have h1 := hh 1 (by omega); have h2 := hh 2 (by omega); have h3 := hh 3 (by omega)
  have e : ∀ k, f k % 2 = 0 → nz1 ((f k / 2 : Nat) : Int) = nz1 (f k : Int) := fun k hk => by
    unfold nz1
    by_cases hz : f k = 0
    · simp [hz]
    · rw [if_neg (by omega), if_neg (by omega)]
  simp only [nz, e 0 h0, e 1 h1, e 2 h2, e 3 h3]
set_option maxHeartbeats 3200000 in
theorem implHalf_any (s : ByteArray) (w : World) : Calls Try.prog 40 #[.string s] w (OutHalfWindow w (hfV s) (hfO s)) := by
  have HG := Lib.hid (neckOf_any s w)
  cases hg : goodS s
  · obtain ⟨e1, e2⟩ := hf_no (s := s) (by simp [hfB, hg])
    have HB := Lib.hid (beads_any ⟨#[]⟩ rfl w)
    rw [hg, gT_no hg] at HG
    rw [e1, e2]
    clear hg e1 e2
    go_enter Try.func40, Try.ntmps40
    go_wp2_with fail
    refine HG.out.mono ?_
    rintro e w' ⟨rfl, rfl⟩
    go_wp2_with fail
    refine HB.out.mono ?_
    rintro e w1 ⟨rfl, hib, hb⟩
    have HP := Lib.hid (part2_any _ _ (cnt ⟨#[]⟩ (ByteArray.mk #[]).size) (fun k => Nat.le_trans (cnt_le _ _ _) (by decide)) (Nat.le_refl _) w1 hib)
    clear hib
    have hz := hb.size
    go_wp2_with fail
    refine HP.out.mono ?_
    rintro e w2 ⟨⟨hd, rfl, hib2⟩ | ⟨hd, rfl⟩, hb2⟩
    · clear hib2
      go_wp2_with fail
      go_returns
      exact ⟨rfl, bnext hb hb2⟩
    · go_wp2_with fail
      go_returns
      exact ⟨rfl, bnext hb hb2⟩
  · have h16 := (goodS_at hg).1
    have HB := Lib.hid (beads_any s hg w)
    have HC16 : Hid (∀ k, cnt s s.size k ≤ 16) := Lib.hid (fun k => Nat.le_trans (cnt_le _ _ _) h16)
    have HNO : Hid (hfB s = false → hfV s = 0 ∧ hfO s = false) := Lib.hid hf_no
    have HYES : Hid (hfB s = true → hfV s = ((fwR s).1 : Nat) ∧ hfO s = (fwR s).2) := Lib.hid hf_yes
    have HV : Hid (hfB s = (evB s && decide (nz (cI s) ≤ 2))) := Lib.hid (by simp [hfB, hg])
    have HFW := Lib.hid (firstWin_any s hg)
    rw [hg, gT_yes hg] at HG
    clear hg
    go_enter Try.func40, Try.ntmps40
    go_wp2_with fail
    refine HG.out.mono ?_
    rintro e w' ⟨rfl, rfl⟩
    go_wp2_with fail
    refine HB.out.mono ?_
    rintro e w1 ⟨rfl, hib, hb⟩
    have HP := Lib.hid (part2_any _ _ (cnt s s.size) HC16.out (Nat.le_refl _) w1 hib)
    clear hib
    have hz := hb.size
    go_wp2_with fail
    refine HP.out.mono ?_
    rintro e w2 ⟨⟨hd, rfl, hib2⟩ | ⟨hd, rfl⟩, hb2⟩
    · have hev : evB s = true := hd
      have hnz := nz_half _ hd
      have hbw := bnext hb hb2
      have HFW2 := Lib.hid (HFW.out hev w1.heap.size 64 w2 hib2)
      obtain ⟨D, hown, hD⟩ := hib2
      have HD : Hid (Maps.size D = nz (cI s)) := Lib.hid (hD.2.2.2.trans hnz)
      by_cases h2 : nz (cI s) ≤ 2
      · obtain ⟨e1, e2⟩ := HYES.out (by rw [HV.out, hev]; simp [h2])
        have HE1 := Lib.hid e1
        have HE2 := Lib.hid e2
        have hs2 : ¬ (2 : Int) < ((nz (cI s) : Nat) : Int) := by omega
        clear e1 e2 hnz hev hd hD h2
        have hlen : ∀ ty, (Builtin.len_ #[44] ty #[.map (some w1.heap.size)]).run Try.prog w2 = .ok (.int .i64 ((nz (cI s) : Nat) : Int)) w2 := fun ty => by
          have := hown.len (t := 44) Try.underlying44 ty
          rw [HD.out] at this
          exact this
        go_wp2_with fail
        refine HFW2.out.mono ?_
        rintro e w3 ⟨rfl, hb3⟩
        go_wp2_with fail
        go_returns
        exact ⟨by rw [HE1.out, HE2.out]; rfl, bnext hbw hb3⟩
      · obtain ⟨e1, e2⟩ := HNO.out (by rw [HV.out]; simp [h2])
        have HE1 := Lib.hid e1
        have HE2 := Lib.hid e2
        have hs2 : (2 : Int) < ((nz (cI s) : Nat) : Int) := by omega
        clear e1 e2 hnz hev hd hD h2
        have hlen : ∀ ty, (Builtin.len_ #[44] ty #[.map (some w1.heap.size)]).run Try.prog w2 = .ok (.int .i64 ((nz (cI s) : Nat) : Int)) w2 := fun ty => by
          have := hown.len (t := 44) Try.underlying44 ty
          rw [HD.out] at this
          exact this
        go_wp2_with fail
        go_returns
        exact ⟨by rw [HE1.out, HE2.out]; rfl, hbw⟩
    · have hev : evB s = false := hd
      obtain ⟨e1, e2⟩ := HNO.out (by rw [HV.out, hev]; rfl)
      have HE1 := Lib.hid e1
      have HE2 := Lib.hid e2
      clear e1 e2 hd hev
      go_wp2_with fail
      go_returns
      exact ⟨by rw [HE1.out, HE2.out]; rfl, bnext hb hb2⟩
def hwA (s : ByteArray) (st : Nat) : Nat → Bool
  | 0 => true
  | k + 1 => hwA s st k && hwC s st k
theorem hwA_four (s : ByteArray) (st : Nat) : hwA s st 4 = hwB s st := by
  simp only [hwA, hwB, Bool.true_and, Bool.and_assoc]
set_option maxHeartbeats 1600000 in
theorem specHalf_bad (s : ByteArray) (hg : goodS s = false) (w : World) : Calls Try.prog 39 #[.string s] w (OutHalfWindow w 0 false) := by
  have HG := Lib.hid (nlGood_any s w)
  rw [hg] at HG
  clear hg
  go_enter Try.func39, Try.ntmps39
  go_wp2_with fail
  refine HG.out.mono ?_
  rintro e w' ⟨rfl, rfl⟩
  go_wp2_with fail
  go_returns
  exact ⟨rfl, Below.refl _ _⟩
set_option maxHeartbeats 1600000 in
theorem specHalf_empty (w : World) : Calls Try.prog 39 #[.string ⟨#[]⟩] w (OutHalfWindow w 0 false) := by
  have HG := Lib.hid (nlGood_any ⟨#[]⟩ w)
  rw [show goodS ⟨#[]⟩ = true from rfl] at HG
  go_enter Try.func39, Try.ntmps39
  go_wp2_with fail
  refine HG.out.mono ?_
  rintro e w' ⟨rfl, rfl⟩
  go_wp2_with fail
  go_returns
  exact ⟨rfl, Below.refl _ _⟩
theorem list_ne {s : ByteArray} (h : 0 < s.size) : ¬ s.toList = [] := by
  rw [size_list] at h
  intro e
  rw [Lib.toList_data] at e
  rw [e] at h
  simp at h
set_option maxHeartbeats 1600000 in
theorem specHalf_no (s : ByteArray) (hg : goodS s = true) (hs : 0 < s.size) (h : evB s = false ∨ 2 < nz (cI s)) (w : World) : Calls Try.prog 39 #[.string s] w (OutHalfWindow w 0 false) := by
  have HG := Lib.hid (nlGood_any s w)
  have HE := Lib.hid (fun w => nlEven_any s hg w)
  have HK := Lib.hid (fun w => nlKinds_any s hg w)
  have hne := list_ne hs
  rw [hg] at HG
  clear hg
  cases he : evB s
  · rw [he] at HE
    clear he h
    go_enter Try.func39, Try.ntmps39
    go_wp2_with fail
    refine HG.out.mono ?_
    rintro e w' ⟨rfl, rfl⟩
    go_wp2_with fail
    refine (HE.out _).mono ?_
    rintro e w1 ⟨rfl, hb⟩
    go_wp2_with fail
    go_returns
    exact ⟨rfl, hb⟩
  · rw [he] at HE
    have h2 : (2 : Int) < ((nz (cI s) : Nat) : Int) := by
      have := h.resolve_left (by rw [he]; simp)
      omega
    clear he h
    go_enter Try.func39, Try.ntmps39
    go_wp2_with fail
    refine HG.out.mono ?_
    rintro e w' ⟨rfl, rfl⟩
    go_wp2_with fail
    refine (HE.out _).mono ?_
    rintro e w1 ⟨rfl, hb⟩
    go_wp2_with fail
    refine (HK.out _).mono ?_
    rintro e w2 ⟨rfl, hb2⟩
    go_wp2_with fail
    go_returns
    exact ⟨rfl, bnext hb hb2⟩
set_option maxHeartbeats 3200000 in
theorem specHalf_yes (s : ByteArray) (hg : goodS s = true) (hs : 0 < s.size) (he : evB s = true) (h2 : nz (cI s) ≤ 2) (w : World) : Calls Try.prog 39 #[.string s] w (OutHalfWindow w ((fwR s).1 : Nat) (fwR s).2) := by
  have h16 := (goodS_at hg).1
  have HG := Lib.hid (nlGood_any s w)
  have HE := Lib.hid (fun w => nlEven_any s hg w)
  have HK := Lib.hid (fun w => nlKinds_any s hg w)
  have HCt := Lib.hid (fun w => nlCounts_any s hg w)
  have HW : Hid (∀ st, st < s.size → ∀ w, Calls Try.prog 65 #[.string s, .int .i64 st, .int .i64 ((s.size / 2 : Nat) : Int)] w fun e w' => ∃ v, e = .returned v ∧ OI w' w.heap.size w'.heap.size v (cL (wcnt s st (s.size / 2))) ∧ Below w.heap.size w w') := Lib.hid (fun st hst w => nlWindow_any s hg st (s.size / 2) hst (by omega) w)
  have hne := list_ne hs
  have hne2 : s.toList.isEmpty = false := by cases e : s.toList with
    | nil => exact absurd e hne
    | cons a l => rfl
  have HSOME := Lib.hid (fw_some s)
  have HNONE := Lib.hid (fw_none s)
  have HF4 := Lib.hid (hwA_four s)
  have HS0 : Hid (∀ st, hwA s st 0 = true) := Lib.hid (fun st => rfl)
  have HSS : Hid (∀ st k, hwA s st (k + 1) = (hwA s st k && decide (2 * wcnt s st (s.size / 2) k = cnt s s.size k))) := Lib.hid (fun st k => rfl)
  have HB1 : Hid (∀ st k, wcnt s st (s.size / 2) k ≤ 16 ∧ cnt s s.size k ≤ 16) := Lib.hid (fun st k => by have h1 := wcnt_le s st (s.size / 2) k; have h2 := cnt_le s s.size k; omega)
  have hs2 : ¬ (2 : Int) < ((nz (cI s) : Nat) : Int) := by omega
  rw [hg] at HG
  rw [he] at HE
  clear hg he h2
  generalize hwB s = P at *
  generalize hwA s = PA at *
  generalize cnt s s.size = Y at *
  go_enter Try.func39, Try.ntmps39
  go_wp2_with fail
  refine HG.out.mono ?_
  rintro e w' ⟨rfl, rfl⟩
  go_wp2_with fail
  refine (HE.out _).mono ?_
  rintro e w1 ⟨rfl, hb1⟩
  go_wp2_with fail
  refine (HK.out _).mono ?_
  rintro e w2 ⟨rfl, hb2⟩
  have hb12 := bnext hb1 hb2
  have hz2 := hb12.size
  go_wp2_with fail
  refine (HCt.out _).mono ?_
  rintro e w3 ⟨v, rfl, ho, hb3⟩
  obtain ⟨cap1, b1, rfl, hc1, hlo1, hhi1⟩ := oi_four (f := fun j => (Y j : Int)) ho
  have HC1 := Lib.hid hc1
  have hb13 := bnext hb12 hb3
  clear hc1 ho hb1 hb2 hb3 hne hne2 hs2
  go_wp2_with fail
  go_loopw [5] (fun v5 wr => ∃ i : Nat, i ≤ s.size ∧ v5 = .int .i64 i ∧ (∀ j, j < i → P j = false) ∧ Below w3.heap.size w3 wr) (fun v5 _ => s.size - (intOf v5).toNat)
  case atStart => exact ⟨0, Nat.zero_le _, rfl, fun _ h => by omega, Below.refl _ _⟩
  case round =>
    obtain ⟨i, hi, rfl, hall, hb⟩ := hrel
    obtain ⟨wq, hwq⟩ : ∃ wq : World, wq = wr := ⟨_, rfl⟩
    subst hwq
    have HA := Lib.hid hall
    clear hall
    have hz := hb.size
    by_cases hlt : i < s.size
    · have hii : (i : Int) < (s.size : Int) := by omega
      have HWi := Lib.hid (HW.out i hlt wq)
      have hq : ((s.size : Int)) / 2 = ((s.size / 2 : Nat) : Int) := by omega
      rw [← hq] at HWi
      have HT : Hid (P i = false → ∀ j, j < i + 1 → P j = false) := Lib.hid (fun hx j hj => by
        by_cases e : j = i
        · rw [e]; exact hx
        · exact HA.out j (by omega))
      have HS := Lib.hid (fun hp => HSOME.out i hlt hp HA.out)
      have HF4i := Lib.hid (HF4.out i)
      have HS0i := Lib.hid (HS0.out i)
      have HSSi := Lib.hid (HSS.out i)
      have HB1i := Lib.hid (HB1.out i)
      clear hq
      generalize wcnt s i (s.size / 2) = X at *
      go_wp2_with fail
      refine HWi.out.mono ?_
      rintro e w4 ⟨v, rfl, ho, hb4⟩
      obtain ⟨cap2, b2, rfl, hc2, -, -⟩ := oi_four (f := fun j => (X j : Int)) ho
      have HC2 := Lib.hid hc2
      have HC1q : Hid (∀ k, k < 4 → w4.cell? ⟨b1, k, none⟩ = some (.int .i64 (Y k))) := Lib.hid (fun k hk => (hb4.cell (p := ⟨b1, k, none⟩) (by show b1 < wq.heap.size; omega)).trans ((hb.cell (p := ⟨b1, k, none⟩) hhi1).trans (HC1.out k hk)))
      have hbw := hb.trans (hb4.mono hz)
      clear hc2 ho hb4 hb
      go_wp2_with fail
      go_loop [6, 41] (fun v6 v41 => ∃ k : Nat, k ≤ 4 ∧ v41 = .int .i64 k ∧ v6 = .bool (PA i k)) (fun _ v41 => 4 - (intOf v41).toNat)
      case atStart => exact ⟨0, by omega, rfl, by rw [HS0i.out]⟩
      case round =>
        obtain ⟨k, hk, rfl, rfl⟩ := hrel
        by_cases hk4 : k < 4
        · have hki : (k : Int) < 4 := by omega
          have c2 := HC2.out k hk4
          have c1 := HC1q.out k hk4
          have hbd := HB1i.out k
          have HX := Lib.hid (HSSi.out k)
          generalize X k = x at *
          generalize Y k = y at *
          cases hp : PA i k
          · have HZ : Hid (PA i (k + 1) = false) := Lib.hid (by rw [HX.out, hp]; rfl)
            clear hp
            go_wp2_with fail
            go_round
            case rel => exact ⟨k + 1, by omega, by go_num, by rw [HZ.out]⟩
            case measure => simp [intOf]; omega
          · have ew : wrap64 (2 * (x : Int)) = 2 * (x : Int) := IntWalk.wrap64_in _ ⟨by omega, by omega⟩
            by_cases hq : 2 * x = y
            · have HZ : Hid (PA i (k + 1) = true) := Lib.hid (by rw [HX.out, hp]; simp [hq])
              have he1 : (2 * (x : Int) == (y : Int)) = true := by rw [beq_iff_eq]; omega
              clear hp hq
              go_wp2_with fail
              go_round
              case rel => exact ⟨k + 1, by omega, by go_num, by rw [HZ.out]⟩
              case measure => simp [intOf]; omega
            · have HZ : Hid (PA i (k + 1) = false) := Lib.hid (by rw [HX.out, hp]; simp [hq])
              have he1 : (2 * (x : Int) == (y : Int)) = false := by rw [beq_eq_false_iff_ne]; omega
              clear hp hq
              go_wp2_with fail
              go_round
              case rel => exact ⟨k + 1, by omega, by go_num, by rw [HZ.out]⟩
              case measure => simp [intOf]; omega
        · have hk4' : k = 4 := by omega
          subst hk4'
          rw [HF4i.out]
          cases hp : P i
          · have HX := Lib.hid (HT.out hp)
            clear hp
            go_wp2_with fail
            go_roundw
            case rel => exact ⟨i + 1, by omega, by go_num, HX.out, hbw⟩
            case measure => simp [intOf]; omega
          · have HX := Lib.hid (HS.out hp)
            clear hp
            go_wp2_with fail
            go_returns
            exact ⟨by rw [HX.out]; rfl, hb13.trans (hbw.mono (by omega))⟩
    · have HX := Lib.hid (HNONE.out (fun j hj => HA.out j (by omega)))
      have hii : ¬ (i : Int) < (s.size : Int) := by omega
      go_wp2_with fail
      go_returns
      exact ⟨by rw [HX.out]; rfl, hb13.trans (hb.mono (by omega))⟩
theorem law_HalfWindow (w : World) (s : ByteArray) (_ : s.size ≤ maxLen) :
    Calls Try.prog 13 #[.string s] w fun e w' => e = .returned (.bool true) ∧ Below w.heap.size w w' := by
  refine lawOf_HalfWindow s w (hfV s) (hfO s) (fun w' _ => ?_) (fun w' _ => implHalf_any s w')
  cases hg : goodS s
  · obtain ⟨e1, e2⟩ := hf_no (s := s) (by simp [hfB, hg])
    rw [e1, e2]; exact specHalf_bad s hg w'
  · by_cases hs : s.size = 0
    · obtain ⟨e1, e2⟩ := hf_empty hs
      rw [e1, e2]
      have : s = ⟨#[]⟩ := by obtain ⟨a⟩ := s; have : a.size = 0 := hs; simp at this; rw [this]
      rw [this]; exact specHalf_empty w'
    · by_cases h : evB s = true ∧ nz (cI s) ≤ 2
      · obtain ⟨e1, e2⟩ := hf_yes (s := s) (by simp [hfB, hg, h.1, h.2])
        rw [e1, e2]; exact specHalf_yes s hg (by omega) h.1 h.2 w'
      · have hf : hfB s = false := by
          cases e : hfB s
          · rfl
          · simp only [hfB, hg, Bool.true_and, Bool.and_eq_true, decide_eq_true_eq] at e; exact absurd e h
        obtain ⟨e1, e2⟩ := hf_no hf
        rw [e1, e2]
        refine specHalf_no s hg (by omega) ?_ w'
        cases he : evB s
        · exact .inl rfl
        · right
          rcases Nat.lt_or_ge 2 (nz (cI s)) with h1 | h1
          · exact h1
          · exact absurd ⟨he, h1⟩ h
end Go.Proofs.Ytokhpchnnilbaaa
