import Derived.Test.YtfhohmahckjpeaaDoorL2
import Derived.Test.YtfhohmahckjpeaaDoorK5
namespace Go.Proofs.YtfhohmahckjpeaaDoor
open Go.RowKit
set_option maxRecDepth 4000
def OutColoursOf (w : World) (r0 : List Int) (r1 : Bool) (e : Ending) (w' : World) : Prop := ∃ v0, e = .returned (.tuple #[v0, .bool r1]) ∧ OI w' w.heap.size w'.heap.size v0 r0 ∧ Below w.heap.size w w'
set_option maxHeartbeats 3200000 in
theorem lawOf_ColoursOf (n : Int) (k : Int) (w : World) (hvar : DbV w) (r0 : List Int) (r1 : Bool) (hL0 : r0.length ≤ 100000)
    (hs : ∀  (w' : World), Calls Tryd.prog 4 #[.int .i64 n, .int .i64 k] w' (OutColoursOf w' r0 r1))
    (hi : ∀  (w' : World), DbV w' → Calls Tryd.prog 5 #[.int .i64 n, .int .i64 k] w' (OutColoursOf w' r0 r1)) :
    Calls Tryd.prog 3 #[.int .i64 n, .int .i64 k] w fun e w' => e = .returned (.bool true) ∧ Below w.heap.size w w' := by
  have HS := Lib.hid hs
  have HI := Lib.hid hi
  clear hs hi
  have HV := Lib.hid hvar
  clear hvar
  have hne1 : (r1 != r1) = false := by simp
  have hB0 : Below w.heap.size w w := Below.refl _ _
  go_enter Tryd.func3, Tryd.ntmps3
  go_wp2_with fail
  refine (HS.out  _  ).mono ?_
  rintro e w1 ⟨vs0, rfl, os0, hb⟩
  have hc := chg_below hb
  clear hb
  have z1 := hc.size
  replace hB0 := below_chg hB0 hc (by omega) (by omega)
  clear hc
  obtain ⟨as0, cs0, -, rfl, -⟩ := oi_shape os0
  go_wp2_with fail
  refine (HI.out  _  (DbV_later HV.out hB0) ).mono ?_
  rintro e w2 ⟨vg0, rfl, og0, hb⟩
  have hc := chg_below hb
  clear hb
  have z2 := hc.size
  replace os0 := oi_keep os0 hc (by omega) (by omega)
  replace hB0 := below_chg hB0 hc (by omega) (by omega)
  clear hc
  obtain ⟨ag0, cg0, -, rfl, -⟩ := oi_shape og0
  go_wp2_with fail
  refine (eqIntS_rd r0 ag0 as0 _ _ cg0 cs0 _ (oi_rds og0) (oi_rds os0)).mono ?_
  rintro e w3 ⟨rfl, hs⟩
  have hc := chg_same hs
  clear hs
  have z3 := hc.size
  replace os0 := oi_keep os0 hc (by omega) (by omega)
  replace og0 := oi_keep og0 hc (by omega) (by omega)
  replace hB0 := below_chg hB0 hc (by omega) (by omega)
  clear hc
  go_wp2_with fail
  refine (markIntS_chg r0 ag0 _ _ cg0 1 _ og0 (by omega) (by omega)).mono ?_
  rintro e w4 ⟨rfl, om0, hc⟩
  have hlm0 : (mkd 1 r0.length r0).length = r0.length := mkd_len _ _ _ (Nat.le_refl _)
  have HLM0 := Lib.hid hlm0
  clear hlm0
  clear og0
  have z4 := hc.size
  replace os0 := oi_keep os0 hc (by omega) (by omega)
  replace hB0 := below_chg hB0 hc (by omega) (by omega)
  clear hc
  go_wp2_with fail
  refine (heldIntS_rd r0 1 ag0 _ _ cg0 _ HLM0.out (oi_rds2 om0) (by omega) (by omega)).mono ?_
  rintro e w' ⟨rfl, rfl⟩
  go_wp2_with fail
  refine (HI.out  _  (DbV_later HV.out hB0) ).mono ?_
  rintro e w5 ⟨vh0, rfl, oh0, hb⟩
  have hc := chg_below hb
  clear hb
  have z5 := hc.size
  replace os0 := oi_keep os0 hc (by omega) (by omega)
  replace om0 := oi_keep om0 hc (by omega) (by omega)
  replace hB0 := below_chg hB0 hc (by omega) (by omega)
  clear hc
  obtain ⟨ah0, ch0, -, rfl, -⟩ := oi_shape oh0
  go_wp2_with fail
  refine (eqIntS_rd r0 ah0 as0 _ _ ch0 cs0 _ (oi_rds oh0) (oi_rds os0)).mono ?_
  rintro e w6 ⟨rfl, hs⟩
  have hc := chg_same hs
  clear hs
  have z6 := hc.size
  replace os0 := oi_keep os0 hc (by omega) (by omega)
  replace om0 := oi_keep om0 hc (by omega) (by omega)
  replace oh0 := oi_keep oh0 hc (by omega) (by omega)
  replace hB0 := below_chg hB0 hc (by omega) (by omega)
  clear hc
  go_wp2_with fail
  refine (heldIntS_rd r0 1 ag0 _ _ cg0 _ HLM0.out (oi_rds2 om0) (by omega) (by omega)).mono ?_
  rintro e w' ⟨rfl, rfl⟩
  go_wp2_with fail
  go_ret
  exact ⟨rfl, hB0⟩
set_option maxHeartbeats 400000 in
theorem specColoursOf_no (n k : Int) (h : ¬ (1 ≤ n ∧ n ≤ 8 ∧ 1 ≤ k ∧ k ≤ n)) (w : World) :
    Calls Tryd.prog 4 #[.int .i64 n, .int .i64 k] w (OutColoursOf w [] false) := by
  have HG := Lib.hid (knGiven_no n k h w)
  clear h
  go_enter Tryd.func4, Tryd.ntmps4
  go_wp2_with fail
  refine HG.out.mono ?_
  rintro e w' ⟨rfl, rfl⟩
  go_wp2_with fail
  go_returns
  exact ⟨_, rfl, oi_nil _ _ _, Below.refl _ _⟩
set_option maxHeartbeats 1600000 in
theorem specColoursOf_yes (n k : Nat) (h : 1 ≤ (n : Int) ∧ (n : Int) ≤ 8 ∧ 1 ≤ (k : Int) ∧ (k : Int) ≤ n) (w : World) :
    Calls Tryd.prog 4 #[.int .i64 n, .int .i64 k] w (OutColoursOf w (toI (colL n k (kS n k))) true) := by
  have HG := Lib.hid (knGiven_yes n k h w)
  have hlen : (kS n k).length ≤ 256 := by rw [← kI_length]; exact kI_len n k (by omega)
  have HS : Hid (∀ w : World, Calls Tryd.prog 10 #[.int .i64 n, .int .i64 k] w fun e w' => ∃ v, e = .returned v ∧ OI w' w.heap.size w'.heap.size v (toI (kS n k)) ∧ Below w.heap.size w w') := Lib.hid (knSets_any n k (by omega))
  have hls : ∀ s ∈ kS n k, s < 256 := fun s hs => (kS_lt n k (by omega) s hs).2
  have hgt := kS_gt n k (by omega) (by omega) (by omega)
  have HFW := Lib.hid (knFewest_any n k (by omega) (by omega))
  have hfp := few_pos n k
  have hfl := few_le n k (by omega)
  have HTL : Hid (∀ s, ((tldC n k s : Nat) : Int) = if (lsi s : Int) < (fewK n k : Int) - 1 then (lsi s : Int) else (fewK n k : Int) - 1) := Lib.hid (fun s => by unfold tldC; split <;> omega)
  clear h
  generalize kS n k = l at *
  have htl := toI_len l
  have HX := Lib.hid (fun j (hj : j < l.length) => mem_getD hls j hj)
  have HY := Lib.hid (fun j (hj : j < l.length) => mem_getD hgt j hj)
  have HST : Hid (∀ i, i < l.length → toI (colL n k (l.take (i + 1))) = toI (colL n k (l.take i)) ++ [((tldC n k (l.getD i 0) : Nat) : Int)]) := Lib.hid (fun i hi => by
    rw [← toI_snoc8]; congr 1
    unfold colL
    rw [List.take_add_one, List.map_append, List.getElem?_eq_getElem hi, List.getD_eq_getElem?_getD, List.getElem?_eq_getElem hi]; rfl)
  have HLE : Hid (∀ i, (toI (colL n k (l.take i))).length ≤ 256) := Lib.hid (fun i => by rw [toI_len, colL_len, List.length_take]; omega)
  have HE : Hid (toI (colL n k l) = toI (colL n k (l.take l.length))) := Lib.hid (by rw [List.take_length])
  have HSA := Lib.hid shr_all
  have HLL := Lib.hid lsi_lt
  clear hls hgt
  generalize fewK n k = f at *
  go_enter Tryd.func4, Tryd.ntmps4
  go_wp2_with fail
  refine HG.out.mono ?_
  rintro e w' ⟨rfl, rfl⟩
  go_wp2_with fail
  refine (HS.out _).mono ?_
  rintro e w1 ⟨v, rfl, ho1, hb1⟩
  obtain ⟨va, vc, vb, rfl, hrd, hrs⟩ := oi_shape ho1
  rw [htl]
  have HC : Hid (∀ j, j < l.length → va = some ⟨vb, 0, none⟩ ∧ w1.cell? ⟨vb, j, none⟩ = some (.int .i64 (l.getD j 0 : Nat))) := Lib.hid (fun j hj => by
    have := hrd.2 j (by omega)
    rw [toI_at, Nat.zero_add] at this; exact this)
  have HV : Hid (∀ j, j < l.length → vb < w1.heap.size) := Lib.hid (fun j hj => by
    obtain ⟨b, off, h1, h2⟩ := hrs
    have e1 := (h1.2 j (by omega)).1
    have e2 := (hrd.2 j (by omega)).1
    rw [e2] at e1
    simp only [Option.some.injEq, Addr.mk.injEq] at e1
    omega)
  have hz1 := hb1.size
  clear hrd hrs ho1
  go_wp2_with fail
  go_loopw [6, 18] (fun v6 v18 wr => ∃ i : Nat, i ≤ l.length ∧ v18 = .int .i64 i ∧ wr.ownsRow w1.heap.size 3 1 v6 (toI (colL n k (l.take i))).length ((toI (colL n k (l.take i))).map (Value.int .i64)) ∧ Below w1.heap.size w1 wr) (fun _ v18 _ => l.length - (intOf v18).toNat)
  case atStart => exact ⟨0, Nat.zero_le _, rfl, World.ownsRow_nil _ _ _ _, Below.refl _ _⟩
  case round =>
    obtain ⟨i, hi, rfl, ho, hb⟩ := hrel
    obtain ⟨wq, rfl⟩ : ∃ wq : World, wq = wr := ⟨_, rfl⟩
    have hz := hb.size
    by_cases hlt : i < l.length
    · have hii : (i : Int) < (l.length : Int) := by omega
      obtain ⟨ha, c⟩ := HC.out i hlt
      have hvb := HV.out i hlt
      subst ha
      have c1 : wq.cell? ⟨vb, i, none⟩ = some (.int .i64 (l.getD i 0 : Nat)) := (hb.cell hvb).trans c
      have hx := HX.out i hlt
      have hy := HY.out i hlt
      have HSi := Lib.hid (HST.out i hlt)
      have HLi := Lib.hid (HLE.out i)
      have HTi := Lib.hid (HTL.out (l.getD i 0))
      clear c
      generalize toI (colL n k (l.take i)) = ys at *
      generalize l.getD i 0 = x at *
      obtain ⟨hs1, hs2⟩ := HSA.out x hx hy
      have hq := HLL.out x hx hy
      have HS1 := Lib.hid hs1
      have HO := Lib.hid ho
      clear ho hs1
      generalize lsi x = q at *
      generalize tldC n k x = t at *
      go_wp2_with fail
      go_loop [9] (fun v9 => ∃ j : Nat, j ≤ q ∧ v9 = .int .i64 j) (fun v9 => q - (intOf v9).toNat)
      case atStart => exact ⟨0, Nat.zero_le _, rfl⟩
      case round =>
        obtain ⟨j, hj, rfl⟩ := hrel
        by_cases hjq : j < q
        · have hm := HS1.out j hjq
          have hmb : (((x : Int) / 2 ^ j).tmod 2 == 0) = true := by simp [hm]
          clear hs2
          go_wp2_with fail
          go_round
          case rel => exact ⟨j + 1, by omega, by go_num⟩
          case measure => simp [intOf]; omega
        · obtain rfl : j = q := by omega
          have hmb : (((x : Int) / 2 ^ j).tmod 2 == 0) = false := by simp [hs2]
          have HLS := Lib.hid (fun w => l1Least8 (j : Int) ((f : Int) - 1) w)
          rw [← HTi.out] at HLS
          clear hs2
          go_wp2_with fail
          refine (HFW.out _).mono ?_
          rintro e w' ⟨rfl, rfl⟩
          go_wp2_with fail
          refine (HLS.out _).mono ?_
          rintro e w' ⟨rfl, rfl⟩
          go_wp2_with (at_builtin; go_loud (refine append_int w1.heap.size wq _ ys _ rfl _ _ rfl rfl rfl HO.out hz (by have := HLi.out; omega) ?_; intro v' w3 ho3 hb3))
          go_roundw
          case rel => exact ⟨i + 1, by omega, by go_num, by rw [HSi.out]; exact ho3, hb.trans hb3⟩
          case measure => simp [intOf]; omega
    · have hk2 : i = l.length := by omega
      rw [hk2, ← HE.out] at ho
      have HK := Lib.hid hk2
      clear hk2
      go_wp2_with fail
      go_returns
      exact ⟨_, rfl, oi_low (oi_new ho) hz1, bnext hb1 hb⟩
set_option maxHeartbeats 800000 in
theorem implColoursOf_no (n k : Int) (h : ¬ (1 ≤ n ∧ n ≤ 8 ∧ 1 ≤ k ∧ k ≤ n)) (w : World) :
    Calls Tryd.prog 5 #[.int .i64 n, .int .i64 k] w (OutColoursOf w [] false) := by
  have HG := Lib.hid (knGraph_no n k h w)
  have HN := Lib.hid (fun w' => numIP_any [] (fun x => x) 15 (.agg #[.slice none 0 0, .int .i64 0, .int .i64 0]) callTold none 0 0 w' ⟨0, 0, ⟨by simp [maxLen], fun j hj => by simp at hj⟩, .inl rfl⟩ (Nat.zero_le _) (by simp) (fun j hj => by simp at hj))
  clear h
  go_enter Tryd.func5, Tryd.ntmps5
  go_wp2_with fail
  refine HG.out.mono ?_
  rintro e w1 ⟨rfl, hb1⟩
  have hz := hb1.size
  go_wp2_with fail
  refine (HN.out _).mono ?_
  rintro e w2 ⟨v, rfl, ho, hb2⟩
  go_wp2_with fail
  go_returns
  exact ⟨_, rfl, oi_low ho (by simp; omega), bnext (balloc hb1 _) hb2⟩
set_option maxHeartbeats 800000 in
theorem implColoursOf_yes (n k : Nat) (h : 1 ≤ (n : Int) ∧ (n : Int) ≤ 8 ∧ 1 ≤ (k : Int) ∧ (k : Int) ≤ n) (w : World) (hv : DbV w) :
    Calls Tryd.prog 5 #[.int .i64 n, .int .i64 k] w (OutColoursOf w (toI (colL n k (kS n k))) true) := by
  have HG := Lib.hid (knGraph_yes n k (by omega) (by omega) (by omega) w)
  have hlen : (kS n k).length ≤ 256 := by rw [← kI_length]; exact kI_len n k (by omega)
  have hgt := kS_gt n k (by omega) (by omega) (by omega)
  have HN := Lib.hid (fun va vc w' (hr : RdS w' w'.heap.size va (toI (kS n k))) (hv' : DbV w') => numIP_any (toI (kS n k)) (fun x => ((tldC n k x.toNat : Nat) : Int)) 15 (.agg #[.slice va (toI (kS n k)).length vc, .int .i64 n, .int .i64 k]) callTold va vc w'.heap.size w' hr (Nat.le_refl _) (by rw [toI_len]; omega) (fun j hj w'' hb => by
    have hj' : j < (kS n k).length := by rw [← toI_len]; exact hj
    rw [toI_at]
    refine (told_any va (toI (kS n k)).length vc n k ((kS n k).getD j 0) (by omega) (by omega) (mem_getD hgt j hj') (kS_at_lt n k (by omega) j hj').2 w'' (DbV_later hv' hb)).mono ?_
    rintro e w3 ⟨rfl, hb3⟩
    exact ⟨ret_int (by simp), hb3⟩))
  rw [col_map] at HN
  have HK : Hid (kI n k = toI (kS n k)) := Lib.hid rfl
  have HV := Lib.hid hv
  clear h hgt hv
  rw [HK.out] at HG
  generalize toI (colL n k (kS n k)) = ys at *
  generalize toI (kS n k) = xs at *
  go_enter Tryd.func5, Tryd.ntmps5
  go_wp2_with fail
  refine HG.out.mono ?_
  rintro e w1 ⟨v, rfl, ho, hb1⟩
  obtain ⟨va, vc, -, rfl, -, hrd⟩ := oi_shape (oi_new ho)
  have hz := hb1.size
  have hbA := balloc (Below.refl w1.heap.size w1) (.cells #[.slice va xs.length vc, .int .i64 n, .int .i64 k] 33)
  have HR := Lib.hid (rds_mono (rds_bel hrd hbA) hbA.size)
  have HVV := Lib.hid (DbV_later HV.out (bnext hb1 hbA))
  clear hrd ho
  go_wp2_with fail
  refine (HN.out va vc _ HR.out HVV.out).mono ?_
  rintro e w2 ⟨v, rfl, ho, hb2⟩
  go_wp2_with fail
  go_returns
  exact ⟨_, rfl, oi_low ho (by simp; omega), bnext (balloc hb1 _) hb2⟩
theorem law_ColoursOf (w : World) (n : Int) (_ : (Lit.int .i64 n).wf = true) (k : Int) (_ : (Lit.int .i64 k).wf = true) (hvar : DbV w) :
    Calls Tryd.prog 3 #[.int .i64 n, .int .i64 k] w fun e w' => e = .returned (.bool true) ∧ Below w.heap.size w w' := by
  by_cases h : 1 ≤ n ∧ n ≤ 8 ∧ 1 ≤ k ∧ k ≤ n
  · obtain ⟨n', rfl⟩ := Int.eq_ofNat_of_zero_le (show 0 ≤ n by omega)
    obtain ⟨k', rfl⟩ := Int.eq_ofNat_of_zero_le (show 0 ≤ k by omega)
    have hl : (toI (colL n' k' (kS n' k'))).length ≤ 100000 := by
      rw [toI_len, colL_len, ← kI_length]
      have := kI_len n' k' (by omega)
      omega
    exact lawOf_ColoursOf n' k' w hvar (toI (colL n' k' (kS n' k'))) true hl (fun w' => specColoursOf_yes n' k' h w') (fun w' hv' => implColoursOf_yes n' k' h w' hv')
  · exact lawOf_ColoursOf n k w hvar [] false (by simp) (fun w' => specColoursOf_no n k h w') (fun w' _ => implColoursOf_no n k h w')
end Go.Proofs.YtfhohmahckjpeaaDoor
