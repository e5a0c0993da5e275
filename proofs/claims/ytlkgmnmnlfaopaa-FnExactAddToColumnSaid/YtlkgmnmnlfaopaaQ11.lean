import Derived.LoopN
import Derived.BigRegion
import Derived.BigQuiet
import Derived.Test.YtlkgmnmnlfaopaaQ10
namespace Go.Proofs.Ytlkgmnmnlfaopaa
open Go.RowKit
set_option maxRecDepth 4000
theorem bestL_len (ps : List Int) : (bestL ps).length ≤ ps.length := flt_len _ _
set_option maxHeartbeats 3200000 in
theorem bestRows_any (rs : List (List Int)) (m n : Nat) (ok : GOk rs m n) (y : List Int) (hi : Nat) (hy : allB 0 (hi : Int) y = true) (hh : hi ≤ 1000000) (hyn : y.length = n) (ar ay : Option Addr) (cr cy B : Nat) (v2 : Value) (w : World)
    (h : RdSS w B ar rs) (h' : RdS w B ay y) (hB : B ≤ w.heap.size) :
    Calls Try.prog 61 #[.agg #[.slice ar rs.length cr, v2], .slice ay y.length cy] w fun e w' => ∃ v, e = .returned v ∧ OI w' w.heap.size w'.heap.size v (bestL (payL rs y n)) ∧ Below w.heap.size w w' := by
  subst hyn
  obtain ⟨w1, hw1⟩ : ∃ w1, w1 = (w.alloc (.cells #[.slice ar rs.length cr, v2] 27)) := ⟨_, rfl⟩
  have hb1 : Below w.heap.size w w1 := by rw [hw1]; exact balloc (Below.refl w.heap.size w) _
  have HR := Lib.hid (rowPays_any rs m y.length ok y hi hy hh rfl ar ay cr cy B v2 w1 (rdss_chg h (chg_below hb1) hB (.inr rfl)) (rds_chg h' (chg_below hb1) hB (.inr rfl)) (by have := hb1.size; omega))
  have HW := Lib.hid hw1
  have hm : (payL rs y y.length).length = m := by rw [payL_len]; exact ok.rows
  have hm1 := ok.m1
  have hm3 := ok.m3
  rw [← hm] at hm1 hm3
  clear hw1 h h' hy ok hm
  generalize payL rs y y.length = ps at *
  obtain ⟨f, hf⟩ : ∃ f : Nat → Bool, f = fun i => decide (ps.getD i 0 = mxK ps (ps.length - 1)) := ⟨_, rfl⟩
  have HE : Hid (flt f ps.length = bestL ps) := Lib.hid (by rw [hf]; rfl)
  have HY : Hid (∀ k, ps.getD k 0 = mxK ps (ps.length - 1) → flt f (k + 1) = flt f k ++ [(k : Int)]) := Lib.hid (fun k hk => flt_yes f k (by rw [hf]; simpa using hk))
  have HN : Hid (∀ k, ¬ ps.getD k 0 = mxK ps (ps.length - 1) → flt f (k + 1) = flt f k) := Lib.hid (fun k hk => flt_no f k (by rw [hf]; simpa using hk))
  have HL := Lib.hid (fun k => flt_len f k)
  have H0 : Hid (flt f 0 = []) := Lib.hid rfl
  have hz1 := hb1.size
  clear hf
  go_enter Try.func61, Try.ntmps61
  go_wp2_with fail
  rw [← HW.out]
  refine HR.out.mono ?_
  rintro e w2 ⟨v, rfl, ho, hb2⟩
  obtain ⟨pa, pc, pb, rfl, hrd, hrs⟩ := oi_shape ho
  have hz2 := hb2.size
  have HRS := Lib.hid hrs
  go_wp2_with fail
  refine (sMax_any ps pa pb 0 pc _ hrd (by omega)).mono ?_
  rintro e w' ⟨rfl, rfl⟩
  clear ho hrd hrs
  generalize mxK ps (ps.length - 1) = M at *
  go_wp2_with fail
  go_loopw [7, 17] (fun v7 v17 wr => ∃ k : Nat, k ≤ ps.length ∧ v17 = .int .i64 k ∧ wr.ownsRow w2.heap.size 3 1 v7 (flt f k).length ((flt f k).map (Value.int .i64)) ∧ Below w2.heap.size w2 wr) (fun _ v17 _ => ps.length - (intOf v17).toNat)
  case atStart => exact ⟨0, Nat.zero_le _, rfl, by rw [H0.out]; exact World.ownsRow_nil _ _ _ _, Below.refl _ _⟩
  case round =>
    obtain ⟨k, hk, rfl, ho, hb⟩ := hrel
    obtain ⟨wq, rfl⟩ : ∃ wq : World, wq = wr := ⟨_, rfl⟩
    by_cases hlt : k < ps.length
    · have hki : (k : Int) < (ps.length : Int) := by omega
      obtain ⟨b, off, hrd, -⟩ := rds_later HRS.out hb
      obtain ⟨ha, c0⟩ := hrd.2 k hlt
      subst ha
      have hll := HL.out k
      have hzq := hb.size
      have HYk := Lib.hid (HY.out k)
      have HNk := Lib.hid (HN.out k)
      clear hrd
      generalize ps.getD k 0 = x at *
      by_cases hx : x = M
      · have hxb : (x == M) = true := by simp [hx]
        have HYY := Lib.hid (HYk.out hx)
        clear hx
        go_wp2_with (at_builtin; refine append_int w2.heap.size wq _ (flt f k) _ rfl _ _ rfl rfl rfl ho hzq (by omega) ?_; intro v' w3 ho3 hb3)
        go_roundw
        case rel => exact ⟨k + 1, by omega, by go_num, by rw [HYY.out]; exact ho3, hb.trans hb3⟩
        case measure => simp [intOf]; omega
      · have hxb : (x == M) = false := by simp [hx]
        have HNN := Lib.hid (HNk.out hx)
        clear hx
        go_wp2_with fail
        go_roundw
        case rel => exact ⟨k + 1, by omega, by go_num, by rw [HNN.out]; exact ho, hb⟩
        case measure => simp [intOf]; omega
    · have hk2 : k = ps.length := by omega
      rw [hk2, HE.out] at ho
      have hE := bnext (bnext hb1 hb2) hb
      clear hk2
      go_wp2_with fail
      go_ret
      exact ⟨_, rfl, ⟨_, own_base ho (by omega), own_lt ho⟩, hE⟩
/-- The model's list of best replies, k rows on. -/
def rpl (ps : List Int) (k : Nat) : List Int := flt (fun i => decide (ps.getD i 0 = mxK ps (k - 1))) k
theorem flt_none (f : Nat → Bool) : ∀ k, (∀ j, j < k → f j = false) → flt f k = []
  | 0, _ => rfl
  | k + 1, h => by rw [flt_no f k (h k (Nat.lt_succ_self _)), flt_none f k (fun j hj => h j (by omega))]
theorem rpl_first (ps : List Int) : rpl ps 1 = [0] := by
  have : rpl ps 1 = flt (fun i => decide (ps.getD i 0 = mxK ps 0)) 0 ++ [((0 : Nat) : Int)] := flt_yes _ 0 (by simp [mxK])
  rw [this]; rfl
theorem rpl_more (ps : List Int) (k : Nat) (hk : 1 ≤ k) (h : mxK ps (k - 1) < ps.getD k 0) : rpl ps (k + 1) = [(k : Int)] ∧ mxK ps k = ps.getD k 0 := by
  have hm : mxK ps k = ps.getD k 0 := by
    obtain ⟨j, rfl⟩ : ∃ j, k = j + 1 := ⟨k - 1, by omega⟩
    simp only [mxK, Nat.add_sub_cancel] at *
    omega
  refine ⟨?_, hm⟩
  have h0 : flt (fun i => decide (ps.getD i 0 = mxK ps k)) k = [] := flt_none _ k (fun j hj => by
    have := (mxK_le ps (mxK ps (k - 1)) (k - 1)).1 (Int.le_refl _) j (by omega)
    simp only [decide_eq_false_iff_not]
    omega)
  have : rpl ps (k + 1) = flt (fun i => decide (ps.getD i 0 = mxK ps k)) k ++ [(k : Int)] := flt_yes _ k (by simp [hm])
  rw [this, h0]; rfl
theorem rpl_same (ps : List Int) (k : Nat) (hk : 1 ≤ k) (h : ps.getD k 0 = mxK ps (k - 1)) : rpl ps (k + 1) = rpl ps k ++ [(k : Int)] ∧ mxK ps k = mxK ps (k - 1) := by
  have hm : mxK ps k = mxK ps (k - 1) := by
    obtain ⟨j, rfl⟩ : ∃ j, k = j + 1 := ⟨k - 1, by omega⟩
    simp only [mxK, Nat.add_sub_cancel] at *
    omega
  refine ⟨?_, hm⟩
  have : rpl ps (k + 1) = flt (fun i => decide (ps.getD i 0 = mxK ps k)) k ++ [(k : Int)] := flt_yes _ k (show decide (ps.getD k 0 = mxK ps k) = true by rw [hm, h]; simp)
  rw [this, hm]; rfl
theorem rpl_less (ps : List Int) (k : Nat) (hk : 1 ≤ k) (h : ps.getD k 0 < mxK ps (k - 1)) : rpl ps (k + 1) = rpl ps k ∧ mxK ps k = mxK ps (k - 1) := by
  have hm : mxK ps k = mxK ps (k - 1) := by
    obtain ⟨j, rfl⟩ : ∃ j, k = j + 1 := ⟨k - 1, by omega⟩
    simp only [mxK, Nat.add_sub_cancel] at *
    omega
  refine ⟨?_, hm⟩
  have : rpl ps (k + 1) = flt (fun i => decide (ps.getD i 0 = mxK ps k)) k := flt_no _ k (show decide (ps.getD k 0 = mxK ps k) = false by rw [hm]; simp only [decide_eq_false_iff_not]; omega)
  rw [this, hm]; rfl
set_option maxHeartbeats 3200000 in
theorem gmReplies_any (rs : List (List Int)) (m n : Nat) (ok : GOk rs m n) (y : List Int) (hi : Nat) (hy : allB 0 (hi : Int) y = true) (hh : hi ≤ 1000000) (hyn : y.length = n) (ar ay : Option Addr) (cr cy B : Nat) (w : World)
    (h : RdSS w B ar rs) (h' : RdS w B ay y) (hB : B ≤ w.heap.size) :
    Calls Try.prog 59 #[.slice ar rs.length cr, .slice ay y.length cy] w fun e w' => ∃ v, e = .returned v ∧ OI w' w.heap.size w'.heap.size v (bestL (payL rs y n)) ∧ Below w.heap.size w w' := by
  have hmr := ok.rows
  subst hmr
  subst hyn
  have hm1 := ok.m1
  have hm3 := ok.m3
  have hn3 := ok.n3
  have HLN : Hid (∀ k, k < rs.length → (rs.getD k []).length = y.length) := Lib.hid (fun k hk => ok.len k hk)
  have hBD : ∀ k, k < rs.length → ∀ j, (dotK (rs.getD k []) y j).natAbs ≤ j * 9000000 ∧ ((rs.getD k []).getD j 0 * y.getD j 0).natAbs ≤ 9000000 := fun k hk j => by
    have h1 := dotK_bd (rs.getD k []) y 9 hi (ok_abs ok k hk) (wt_abs hy) j
    have h2 := mul_bd (ok_abs ok k hk j) (wt_abs hy j)
    have h3 : 9 * hi ≤ 9000000 := by omega
    exact ⟨Nat.le_trans h1 (Nat.mul_le_mul_left _ h3), by omega⟩
  have HBD := Lib.hid hBD
  have HPA := Lib.hid (fun k hk => payL_at rs y y.length k hk)
  have HPL := payL_len rs y y.length
  have HFI := Lib.hid (rpl_first (payL rs y y.length))
  have HMO := Lib.hid (rpl_more (payL rs y y.length))
  have HSA := Lib.hid (rpl_same (payL rs y y.length))
  have HLE := Lib.hid (rpl_less (payL rs y y.length))
  have HEN : Hid (rpl (payL rs y y.length) rs.length = bestL (payL rs y y.length)) := Lib.hid (by unfold rpl bestL; rw [HPL])
  have HLL : Hid (∀ k, (rpl (payL rs y y.length) k).length ≤ k) := Lib.hid (fun k => flt_len _ _)
  have HR0 : Hid (rpl (payL rs y y.length) 0 = []) := Lib.hid rfl
  have HX0 : Hid (mxK (payL rs y y.length) 0 = (payL rs y y.length).getD 0 0) := Lib.hid rfl
  have hmy := rd_len h'
  unfold maxLen at hmy
  have HH := Lib.hid h
  have HH' := Lib.hid h'
  clear h h' hy ok hBD HPL
  generalize payL rs y y.length = ps at *
  go_enter Try.func59, Try.ntmps59
  go_wp2_with fail
  go_loopw [5, 6, 14] (fun v5 v6 v14 wr => ∃ k : Nat, k ≤ rs.length ∧ v14 = .int .i64 k ∧ (∃ M : Int, v6 = .int .i64 M ∧ (1 ≤ k → M = mxK ps (k - 1))) ∧ wr.ownsRow w.heap.size 3 1 v5 (rpl ps k).length ((rpl ps k).map (Value.int .i64)) ∧ Below w.heap.size w wr) (fun _ _ v14 _ => rs.length - (intOf v14).toNat)
  case atStart => exact ⟨0, Nat.zero_le _, rfl, ⟨0, rfl, by omega⟩, by rw [HR0.out]; exact World.ownsRow_nil _ _ _ _, Below.refl _ _⟩
  case round =>
    obtain ⟨k, hk, rfl, ⟨M, rfl, hM⟩, ho, hb⟩ := hrel
    obtain ⟨wq, rfl⟩ : ∃ wq : World, wq = wr := ⟨_, rfl⟩
    have hzq := hb.size
    by_cases hlt : k < rs.length
    · have hki : (k : Int) < (rs.length : Int) := by omega
      have HM := Lib.hid hM
      clear hM
      obtain ⟨-, b, off, hx⟩ := rdss_chg HH.out (chg_below hb) hB (.inr rfl)
      obtain ⟨rfl, -, ra, rc, k0, hrk⟩ := hx k hlt
      obtain ⟨rb, ro, hrd, -⟩ := hrk
      obtain ⟨yb, yo, hyd, -⟩ := rds_chg HH'.out (chg_below hb) hB (.inr rfl)
      have HRD := Lib.hid hrd.2
      have HYD := Lib.hid hyd.2
      have HLk := HLN.out k hlt
      have HBk := Lib.hid (HBD.out k hlt)
      have HPk := Lib.hid (HPA.out k hlt)
      have hll := HLL.out k
      clear hx hrd hyd
      generalize rs.getD k [] = r at *
      have HD0 : Hid (dotK r y 0 = 0) := Lib.hid rfl
      have HDS : Hid (∀ j, dotK r y (j + 1) = dotK r y j + r.getD j 0 * y.getD j 0) := Lib.hid (fun j => rfl)
      rw [HLk] at k0 HRD
      clear HLk
      go_wp2_with fail
      go_loop [9, 21] (fun v9 v21 => ∃ j : Nat, j ≤ y.length ∧ v21 = .int .i64 j ∧ v9 = .int .i64 (dotK r y j)) (fun _ v21 => y.length - (intOf v21).toNat)
      case atStart => exact ⟨0, Nat.zero_le _, rfl, by rw [HD0.out]⟩
      case round =>
        obtain ⟨j, hj, rfl, rfl⟩ := hrel
        by_cases hjl : j < y.length
        · have hji : (j : Int) < (y.length : Int) := by omega
          obtain ⟨ha, c0⟩ := HRD.out j hjl
          obtain ⟨ha', c1⟩ := HYD.out j hjl
          subst ha ha'
          obtain ⟨p1, p2⟩ := HBk.out j
          have HKk := Lib.hid (HDS.out j)
          generalize r.getD j 0 = x at *
          generalize y.getD j 0 = z at *
          generalize dotK r y j = s at *
          have p3 : j * 9000000 ≤ 27000000 := by omega
          have e1 : wrap64 (x * z) = x * z := IntWalk.wrap64_in _ ⟨by omega, by omega⟩
          have e2 : wrap64 (s + x * z) = s + x * z := IntWalk.wrap64_in _ ⟨by omega, by omega⟩
          have e3 : IntKind.i64.wrap (x * z) = x * z := IntWalk.i64_in _ ⟨by omega, by omega⟩
          have e4 : IntKind.i64.wrap (s + x * z) = s + x * z := IntWalk.i64_in _ ⟨by omega, by omega⟩
          clear p1 p2 p3
          go_wp2_with fail
          go_round
          case rel => exact ⟨j + 1, by omega, by go_num, by rw [HKk.out]⟩
          case measure => simp [intOf]; omega
        · have HJ : Hid (dotK r y j = ps.getD k 0) := Lib.hid (by rw [HPk.out]; congr 1; omega)
          rw [HJ.out]
          have hjn : ¬ (j : Int) < (y.length : Int) := by omega
          clear hj hjl k0
          by_cases hk0 : k = 0
          · subst hk0
            have HXX := Lib.hid HX0.out
            have HFF := Lib.hid HFI.out
            generalize ps.getD 0 0 = x at *
            have hxx : (x == x) = true := by simp
            go_wp2_with (at_builtin; refine append_int w.heap.size wq _ ([] : List Int) _ rfl _ _ rfl rfl rfl (World.ownsRow_nil _ _ _ _) hzq (by simp) ?_; intro v' w3 ho3 hb3)
            go_roundw
            case rel => exact ⟨1, by omega, by go_num, ⟨x, rfl, fun _ => HXX.out.symm⟩, by rw [HFF.out]; exact ho3, hb.trans hb3⟩
            case measure => simp [intOf]; omega
          · have hkb : ((k : Int) == 0) = false := by simp; omega
            have hMM := HM.out (by omega)
            have HMOk := Lib.hid (HMO.out k (by omega))
            have HSAk := Lib.hid (HSA.out k (by omega))
            have HLEk := Lib.hid (HLE.out k (by omega))
            clear hk0
            rw [← hMM] at HMOk HSAk HLEk
            clear hMM
            generalize ps.getD k 0 = x at *
            by_cases h1 : M < x
            · have HA := Lib.hid (HMOk.out h1)
              have hxx : (x == x) = true := by simp
              go_wp2_with (at_builtin; refine append_int w.heap.size wq _ ([] : List Int) _ rfl _ _ rfl rfl rfl (World.ownsRow_nil _ _ _ _) hzq (by simp) ?_; intro v' w3 ho3 hb3)
              go_roundw
              case rel => exact ⟨k + 1, by omega, by go_num, ⟨x, rfl, fun _ => HA.out.2.symm⟩, by rw [HA.out.1]; exact ho3, hb.trans hb3⟩
              case measure => simp [intOf]; omega
            · by_cases h2 : x = M
              · have HA := Lib.hid (HSAk.out h2)
                have hxx : (x == M) = true := by simp [h2]
                clear h2
                go_wp2_with (at_builtin; refine append_int w.heap.size wq _ (rpl ps k) _ rfl _ _ rfl rfl rfl ho hzq (by omega) ?_; intro v' w3 ho3 hb3)
                go_roundw
                case rel => exact ⟨k + 1, by omega, by go_num, ⟨M, rfl, fun _ => HA.out.2.symm⟩, by rw [HA.out.1]; exact ho3, hb.trans hb3⟩
                case measure => simp [intOf]; omega
              · have HA := Lib.hid (HLEk.out (by omega))
                have hxx : (x == M) = false := by simp [h2]
                clear h2
                go_wp2_with fail
                go_roundw
                case rel => exact ⟨k + 1, by omega, by go_num, ⟨M, rfl, fun _ => HA.out.2.symm⟩, by rw [HA.out.1]; exact ho, hb⟩
                case measure => simp [intOf]; omega
    · have hk2 : k = rs.length := by omega
      rw [hk2, HEN.out] at ho
      clear hk2
      go_wp2_with fail
      go_ret
      exact ⟨_, rfl, ⟨_, ho, own_lt ho⟩, hb⟩
end Go.Proofs.Ytlkgmnmnlfaopaa
