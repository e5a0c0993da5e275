import Derived.LoopN
import Derived.BigRegion
import Derived.BigQuiet
import Derived.Test.YtlkgmnmnlfaopaaQ17
import Derived.Test.YtlkgmnmnlfaopaaQy
namespace Go.Proofs.Ytlkgmnmnlfaopaa
open Go.RowKit
set_option maxRecDepth 4000
/-- Whether only given choices have weights. -/
def useB (ws cs : List Int) : Bool := (List.range ws.length).all (fun k => ws.getD k 0 == 0 || haB cs (k : Nat))
theorem useB_no (ws cs : List Int) (k : Nat) (hk : k < ws.length) (h : ws.getD k 0 ≠ 0) (h' : haB cs (k : Nat) = false) : useB ws cs = false := by
  unfold useB
  rw [List.all_eq_false]
  exact ⟨k, List.mem_range.2 hk, by rw [h']; simp only [Bool.or_false]; simpa using h⟩
theorem useB_yes (ws cs : List Int) (h : ∀ k, k < ws.length → ws.getD k 0 = 0 ∨ haB cs (k : Nat) = true) : useB ws cs = true := by
  unfold useB
  rw [List.all_eq_true]
  intro k hk
  rcases h k (List.mem_range.1 hk) with h | h
  · rw [h]; simp
  · rw [h]; simp
set_option maxHeartbeats 1600000 in
theorem usesOnly_any (ws cs : List Int) (a a' : Option Addr) (cap cap' B B' : Nat) (w : World) (h : RdS w B a ws) (h' : RdS w B' a' cs) :
    Calls Try.prog 106 #[.slice a ws.length cap, .slice a' cs.length cap'] w fun e w' => e = .returned (.bool (useB ws cs)) ∧ w = w' := by
  obtain ⟨b, off, hb, -⟩ := h
  obtain ⟨b', off', hb', -⟩ := h'
  have hwm := hb.1
  unfold maxLen at hwm
  have HC := Lib.hid hb.2
  have HH := Lib.hid (fun v => sCo_any cs v a' b' off' cs.length cap' w rfl hb')
  have HNO := Lib.hid (useB_no ws cs)
  have HYES := Lib.hid (useB_yes ws cs)
  clear hb hb'
  go_enter Try.func106, Try.ntmps106
  go_wp2_with fail
  go_loop [9] (fun v9 => ∃ k : Nat, k ≤ ws.length ∧ v9 = .int .i64 k ∧ ∀ j, j < k → ws.getD j 0 = 0 ∨ haB cs (j : Nat) = true) (fun v9 => ws.length - (intOf v9).toNat)
  case atStart => exact ⟨0, Nat.zero_le _, rfl, by omega⟩
  case round =>
    obtain ⟨k, hk, rfl, hall⟩ := hrel
    have HA := Lib.hid hall
    clear hall
    by_cases hlt : k < ws.length
    · obtain ⟨ha, c0⟩ := HC.out k hlt
      subst ha
      have hki : (k : Int) < (ws.length : Int) := by omega
      have HHk := Lib.hid (HH.out (k : Nat))
      have HNk := Lib.hid (HNO.out k hlt)
      have HX : Hid ((ws.getD k 0 = 0 ∨ haB cs (k : Nat) = true) → ∀ j, j < k + 1 → ws.getD j 0 = 0 ∨ haB cs (j : Nat) = true) := Lib.hid (fun hx j hj => by
        by_cases e : j = k
        · rw [e]; exact hx
        · exact HA.out j (by omega))
      generalize ws.getD k 0 = x at *
      by_cases hx : x = 0
      · have hxb : (x != 0) = false := by simp [hx]
        have HXX := Lib.hid (HX.out (.inl hx))
        clear hx
        go_wp2_with fail
        go_round
        case rel => exact ⟨k + 1, by omega, by go_num, HXX.out⟩
        case measure => simp [intOf]; omega
      · have hxb : (x != 0) = true := by simp [hx]
        cases hh : haB cs (k : Nat)
        · have HF := Lib.hid (HNk.out hx hh)
          rw [hh] at HHk
          clear hx hh
          go_wp2_with fail
          refine HHk.out.mono ?_
          rintro e w' ⟨rfl, rfl⟩
          go_wp2_with fail
          go_ret
          exact ⟨ret_bool HF.out.symm, rfl⟩
        · have HXX := Lib.hid (HX.out (.inr hh))
          rw [hh] at HHk
          clear hx hh
          go_wp2_with fail
          refine HHk.out.mono ?_
          rintro e w' ⟨rfl, rfl⟩
          go_wp2_with fail
          go_round
          case rel => exact ⟨k + 1, by omega, by go_num, HXX.out⟩
          case measure => simp [intOf]; omega
    · have HT := Lib.hid (HYES.out (fun j hj => HA.out j (by omega)))
      go_wp2_with fail
      go_ret
      exact ⟨ret_bool HT.out.symm, rfl⟩
/-- Whether weights are an equilibrium. -/
def eqB (gr gc : List (List Int)) (m n : Nat) (x y : List Int) : Bool := useB x (bestL (payL gr y n)) && useB y (bestL (payL (trL gc m n) x m))
set_option maxHeartbeats 3200000 in
theorem isEq_any (gr gc : List (List Int)) (m n : Nat) (ok1 : GOk gr m n) (ok2 : GOk gc m n) (x y : List Int) (hx : allB 0 1000000 x = true) (hxm : x.length = m) (hy : allB 0 1000000 y = true) (hyn : y.length = n)
    (ar ac ax ay : Option Addr) (cr cc cx cy B : Nat) (w : World) (hr : RdSS w B ar gr) (hc : RdSS w B ac gc) (h1 : RdS w B ax x) (h2 : RdS w B ay y) (hB : B ≤ w.heap.size) :
    Calls Try.prog 73 #[.agg #[.slice ar gr.length cr, .slice ac gc.length cc], .slice ax x.length cx, .slice ay y.length cy] w fun e w' => e = .returned (.bool (eqB gr gc m n x y)) ∧ Below w.heap.size w w' := by
  obtain ⟨w1, hw1⟩ : ∃ w1, w1 = (w.alloc (.cells #[.slice ar gr.length cr, .slice ac gc.length cc] 27)) := ⟨_, rfl⟩
  have hb1 : Below w.heap.size w w1 := by rw [hw1]; exact balloc (Below.refl w.heap.size w) _
  have hz1 := hb1.size
  have g1 : w1.heap[w.heap.size]? = some (.cells #[.slice ar gr.length cr, .slice ac gc.length cc] 27 (0, 0)) := by rw [hw1]; exact heap_alloc_new w _
  have c0 := blk_cell g1 0 _ rfl
  have c1 := blk_cell g1 1 _ rfl
  have KR := Lib.hid (fun w' (hb : Below w1.heap.size w1 w') => show RdSS w' B ar gr from rdss_chg (rdss_chg hr (chg_below hb1) hB (.inr rfl)) (chg_below hb) (by omega) (.inr rfl))
  have KC := Lib.hid (fun w' (hb : Below w1.heap.size w1 w') => show RdSS w' B ac gc from rdss_chg (rdss_chg hc (chg_below hb1) hB (.inr rfl)) (chg_below hb) (by omega) (.inr rfl))
  have KX := Lib.hid (fun w' (hb : Below w1.heap.size w1 w') => show RdS w' B ax x from rds_chg (rds_chg h1 (chg_below hb1) hB (.inr rfl)) (chg_below hb) (by omega) (.inr rfl))
  have KY := Lib.hid (fun w' (hb : Below w1.heap.size w1 w') => show RdS w' B ay y from rds_chg (rds_chg h2 (chg_below hb1) hB (.inr rfl)) (chg_below hb) (by omega) (.inr rfl))
  have HBR := Lib.hid (bestRows_any gr m n ok1 y 1000000 hy (by omega) hyn ar ay cr cy B (.slice ac gc.length cc) w1 (KR.out _ (Below.refl _ _)) (KY.out _ (Below.refl _ _)) (by omega))
  have HBC := Lib.hid (fun w' (hb : Below w1.heap.size w1 w') => bestColumns_any gr gc m n ok1 ok2 x 1000000 hx (by omega) hxm ar ac ax cr cc cx B w' (KR.out _ hb) (KC.out _ hb) (KX.out _ hb) (by have := hb.size; omega))
  have HW := Lib.hid hw1
  have HV : Hid (eqB gr gc m n x y = (useB x (bestL (payL gr y n)) && useB y (bestL (payL (trL gc m n) x m)))) := Lib.hid rfl
  clear hw1 hr hc h1 h2 ok1 ok2 hx hxm hy hyn
  generalize bestL (payL gr y n) = R1 at *
  generalize bestL (payL (trL gc m n) x m) = R2 at *
  cases hu : useB x R1
  · have HF : Hid (eqB gr gc m n x y = false) := Lib.hid (by rw [HV.out, hu]; rfl)
    go_enter Try.func73, Try.ntmps73
    go_wp2_with fail
    rw [← HW.out]
    refine HBR.out.mono ?_
    rintro e w2 ⟨v, rfl, ho, hb2⟩
    obtain ⟨pa, pc, pb, rfl, -, hrs⟩ := oi_shape ho
    go_wp2_with fail
    refine (usesOnly_any x R1 ax pa cx pc B w2.heap.size _ (KX.out _ hb2) hrs).mono ?_
    rintro e w' ⟨rfl, rfl⟩
    rw [hu]
    go_wp2_with fail
    go_ret
    exact ⟨ret_bool HF.out.symm, bnext hb1 hb2⟩
  · have HF : Hid (eqB gr gc m n x y = useB y R2) := Lib.hid (by rw [HV.out, hu]; rfl)
    go_enter Try.func73, Try.ntmps73
    go_wp2_with fail
    rw [← HW.out]
    refine HBR.out.mono ?_
    rintro e w2 ⟨v, rfl, ho, hb2⟩
    obtain ⟨pa, pc, pb, rfl, -, hrs⟩ := oi_shape ho
    have d0 := blk_cell (hp_later g1 hb2) 0 _ rfl
    have d1 := blk_cell (hp_later g1 hb2) 1 _ rfl
    go_wp2_with fail
    refine (usesOnly_any x R1 ax pa cx pc B w2.heap.size _ (KX.out _ hb2) hrs).mono ?_
    rintro e w' ⟨rfl, rfl⟩
    rw [hu]
    go_wp2_with fail
    refine (HBC.out _ hb2).mono ?_
    rintro e w3 ⟨v, rfl, ho3, hb3⟩
    obtain ⟨qa, qc, qb, rfl, -, hrs3⟩ := oi_shape ho3
    have hb3' := bnext hb2 hb3
    go_wp2_with fail
    refine (usesOnly_any y R2 ay qa cy qc B w3.heap.size _ (KY.out _ hb3') hrs3).mono ?_
    rintro e w' ⟨rfl, rfl⟩
    go_wp2_with fail
    go_ret
    exact ⟨ret_bool HF.out.symm, bnext hb1 hb3'⟩
end Go.Proofs.Ytlkgmnmnlfaopaa
