import Derived.Test.YtelchpdlfedleaaGe
namespace Go.Proofs.Ytelchpdlfedleaa
open Go.RowKit
set_option maxRecDepth 4000
def lsI (a b : Int) : Int := if a < b then a else b
def gtI (a b : Int) : Int := if a > b then a else b
theorem inner_eq (a b : Int) : inner (a, b) = (lsI a b, gtI a b) := rfl
set_option maxHeartbeats 400000 in
theorem l1Least_any (a b : Int) (w : World) :
    Calls Try.prog 135 #[.int .i64 a, .int .i64 b] w fun e w' => e = .returned (.int .i64 (lsI a b)) ∧ w = w' := by
  by_cases h : a < b
  · have H : Hid (lsI a b = a) := Lib.hid (if_pos h)
    go_enter Try.func135, Try.ntmps135
    go_wp2_with fail
    go_ret
    exact ⟨by rw [H.out]; rfl, rfl⟩
  · have H : Hid (lsI a b = b) := Lib.hid (if_neg h)
    go_enter Try.func135, Try.ntmps135
    go_wp2_with fail
    go_ret
    exact ⟨by rw [H.out]; rfl, rfl⟩
set_option maxHeartbeats 400000 in
theorem l1Great_any (a b : Int) (w : World) :
    Calls Try.prog 132 #[.int .i64 a, .int .i64 b] w fun e w' => e = .returned (.int .i64 (gtI a b)) ∧ w = w' := by
  by_cases h : b < a
  · have H : Hid (gtI a b = a) := Lib.hid (if_pos h)
    go_enter Try.func132, Try.ntmps132
    go_wp2_with fail
    go_ret
    exact ⟨by rw [H.out]; rfl, rfl⟩
  · have H : Hid (gtI a b = b) := Lib.hid (if_neg h)
    go_enter Try.func132, Try.ntmps132
    go_wp2_with fail
    go_ret
    exact ⟨by rw [H.out]; rfl, rfl⟩
set_option maxHeartbeats 400000 in
theorem doInner_any (a b : Int) (w : World) :
    Calls Try.prog 123 #[.int .i64 a, .int .i64 b] w fun e w' => e = .returned (.slice (some ⟨w.heap.size, 0, none⟩) 2 2) ∧ w' = w.alloc (.cells #[.int .i64 (lsI a b), .int .i64 (gtI a b)] 3) := by
  go_enter Try.func123, Try.ntmps123
  go_wp2_with fail
  refine (l1Least_any a b _).mono ?_
  rintro e w1 ⟨rfl, rfl⟩
  go_wp2_with fail
  refine (l1Great_any a b _).mono ?_
  rintro e w1 ⟨rfl, rfl⟩
  go_wp2_with fail
  go_ret
  exact ⟨rfl, rfl⟩
theorem same2_no (a b c d : Int) (k : Nat) (hk : k < 2) (h : [a, b].getD k 0 ≠ [c, d].getD k 0) : (a == c && b == d) = false := by
  match k, hk, h with
  | 0, _, h => simp only [List.getD_cons_zero] at h; simp [h]
  | 1, _, h => simp only [List.getD_cons_succ, List.getD_cons_zero] at h; simp [h]
theorem same2_yes (a b c d : Int) (h : ∀ j, j < 2 → [a, b].getD j 0 = [c, d].getD j 0) : (a == c && b == d) = true := by
  have h0 := h 0 (by omega)
  have h1 := h 1 (by omega)
  simp only [List.getD_cons_succ, List.getD_cons_zero] at h0 h1
  simp [h0, h1]
set_option maxHeartbeats 800000 in
theorem l1Same2_any (a b c d : Int) (p p' : Option Addr) (q q' cap cap' : Nat) (w : World) (h : Rd w p q 0 [a, b]) (h' : Rd w p' q' 0 [c, d]) :
    Calls Try.prog 138 #[.slice p 2 cap, .slice p' 2 cap'] w fun e w' => e = .returned (.bool (a == c && b == d)) ∧ ∃ m, w' = w.drewN m := by
  obtain ⟨hm, hc⟩ := h
  obtain ⟨_, hc'⟩ := h'
  have HC := Lib.hid hc
  have HC' := Lib.hid hc'
  have HNO := Lib.hid (same2_no a b c d)
  have HYE := Lib.hid (same2_yes a b c d)
  clear hc hc' hm
  generalize (a == c && b == d) = res at HNO HYE ⊢
  generalize hX : [a, b] = X at HC HNO HYE
  generalize hY : [c, d] = Y at HC' HNO HYE
  have hXl : Hid (X.length = 2) := Lib.hid (by rw [← hX]; rfl)
  have hYl : Hid (Y.length = 2) := Lib.hid (by rw [← hY]; rfl)
  clear hX hY
  go_enter Try.func138, Try.ntmps138
  go_wp2
  go_loopw [13] (fun v13 wr => ∃ k : Nat, k ≤ 2 ∧ v13 = .int .i64 k ∧ Hid (∀ j, j < k → X.getD j 0 = Y.getD j 0) ∧ ∃ m, wr = w.drewN m) (fun v13 _ => 2 - (intOf v13).toNat)
  case atStart => exact ⟨0, Nat.zero_le _, rfl, Lib.hid (fun j hj => absurd hj (Nat.not_lt_zero _)), 0, rfl⟩
  case round =>
    obtain ⟨k, hk, rfl, hf, m, rfl⟩ := hrel
    by_cases hlt : k < 2
    · obtain ⟨ha, c1⟩ := HC.out k (by rw [hXl.out]; exact hlt)
      obtain ⟨ha', c2⟩ := HC'.out k (by rw [hYl.out]; exact hlt)
      subst ha ha'
      rw [Nat.zero_add] at c1 c2
      have c1 : (w.drewN m).cell? ⟨q, k, none⟩ = some (.int .i64 (X.getD k 0)) := c1
      have c2 : (w.drewN m).cell? ⟨q', k, none⟩ = some (.int .i64 (Y.getD k 0)) := c2
      have hi : (k : Int) < 2 := by omega
      have HS : Hid (X.getD k 0 = Y.getD k 0 → ∀ j, j < k + 1 → X.getD j 0 = Y.getD j 0) := Lib.hid (fun e j hj => by
        rcases Nat.lt_or_ge j k with h | h
        · exact hf.out j h
        · have : j = k := by omega
          rw [this, e])
      have HN := Lib.hid (HNO.out k hlt)
      obtain ⟨w0, hw0⟩ : ∃ w0, w0 = w.drewN m := ⟨_, rfl⟩
      rw [← hw0] at c1 c2 ⊢
      have HW := Lib.hid hw0
      clear hw0 hf
      generalize X.getD k 0 = x at c1 HS HN
      generalize Y.getD k 0 = y at c2 HS HN
      cases hxy : (x != y)
      · have e := Lib.hid (HS.out (by simpa using hxy))
        go_wp2
        go_quiet (fail)
        go_wp2
        go_roundw
        case rel => exact ⟨k + 1, by omega, by go_num, e, _, by rw [HW.out, World.drewN_drewN]⟩
        case measure => simp [intOf]; omega
      · have e := Lib.hid (HN.out (by simpa using hxy))
        go_wp2
        go_quiet (fail)
        go_wp2
        go_ret
        exact ⟨by rw [e.out]; rfl, _, by rw [HW.out, World.drewN_drewN]⟩
    · have e := Lib.hid (HYE.out (fun j hj => hf.out j (by omega)))
      go_wp2
      go_ret
      exact ⟨by rw [e.out]; rfl, m, rfl⟩
/-- The first of the cells with both points that is another one. -/
theorem flt_find (f : Nat → Bool) (m : Nat) (fr : Int) : ((flt f m).find? (fun x => decide (x ≠ fr))).getD (-1) = beyI ((List.range m).find? (fun q => f q && decide ((q : Int) ≠ fr))) := by
  rw [flt, List.find?_map, List.find?_filter]
  have : ((fun x => decide (x ≠ fr)) ∘ fun (j : Nat) => (j : Int)) = fun (j : Nat) => decide ((j : Int) ≠ fr) := rfl
  rw [this]
  have e : (List.range m).find? (fun a => f a && decide ((a : Int) ≠ fr)) = (List.range m).find? (fun a => decide (f a = true ∧ decide ((a : Int) ≠ fr) = true)) := by
    refine find_congr _ fun x _ => ?_
    rw [Bool.eq_iff_iff]; simp
  rw [← e]
  cases (List.range m).find? (fun q => f q && decide ((q : Int) ≠ fr)) <;> rfl
theorem next_eq {cs : List (List Int)} {m' : Nat} (T : Tri cs m') (fr x y : Int) (h : x ≠ y) : ((flt (withB cs x y) cs.length).find? (fun x => decide (x ≠ fr))).getD (-1) = beyI (gAcr cs.length (cpr cs) fr (inner (x, y))) := by
  rw [flt_find, ← bey_eq T fr x y h]
  congr 1
  refine find_congr _ fun q _ => ?_
  rw [beyB, Bool.and_comm, Bool.eq_iff_iff]; simp
theorem ret_next {o : Option Int} {z x : Int} (h : o.getD (-1) = z) (hx : o.getD (-1) = x) : Ending.returned (.int .i64 x) = .returned (.int .i64 z) := by rw [← h, hx]
set_option maxHeartbeats 800000 in
theorem doNext_any (cs : List (List Int)) (m' : Nat) (x y fr : Int) (a a' : Option Addr) (base b' m cap cap' : Nat) (w : World) (T : Tri cs m') (hbd : cs.length ≤ 1000) (hc : CellsV w base (.slice a m cap) cs) (hr : Rd w a' b' 0 [x, y]) (hb : b' < w.heap.size) (h : x ≠ y) :
    Calls Try.prog 124 #[.slice a m cap, .slice a' 2 cap', .int .i64 fr] w fun e w' => e = .returned (.int .i64 (beyI (gAcr cs.length (cpr cs) fr (inner (x, y))))) ∧ Below w.heap.size w w' := by
  have HC := Lib.hid hc
  have HN := Lib.hid (next_eq T fr x y h)
  have HM := Lib.hid (fun w' (hc : CellsV w' base (.slice a m cap) cs) => meWith_any cs x y a base m cap w' hc hbd)
  have HFS := Lib.hid (fun k hk h => find_step 0 (flt (withB cs x y) cs.length) (fun x => decide (x ≠ fr)) k hk h)
  have hfl := flt_len (withB cs x y) cs.length
  obtain ⟨rfl, c0⟩ := hr.2 0 (by simp)
  have c1 := (hr.2 1 (by simp)).2
  rw [Nat.zero_add] at c0 c1
  simp only [List.getD_cons_zero, List.getD_cons_succ] at c0 c1
  clear hc hr
  generalize flt (withB cs x y) cs.length = zs at HN HM HFS hfl
  go_enter Try.func124, Try.ntmps124
  go_wp2_with fail
  refine wp_region_mix (fun w' => Below w.heap.size w w') [7] [0, 1, 2, 3, 4, 5, 6, 9, 7, 8] (by kernel_rfl) (by kernel_rfl) (fun _ _ d _ _ h => by cases d <;> exact h) (by kernel_rfl) rfl (Below.refl _ _).drew ?_
  refine mix_take 0 _ ?_ rfl rfl rfl (some 9) rfl (fun w' hw' => ?hv0) ?_
  case hv0 =>
    go_simp
    with_reducible rfl
  simp only [Act.put, List.setIfInBounds_toArray, List.set_cons_zero, List.set_cons_succ]
  refine mix_take 1 _ ?_ rfl rfl rfl (some 10) rfl (fun w' hw' => ?hv1) ?_
  case hv1 =>
    go_simp
    with_reducible rfl
  simp only [Act.put, List.setIfInBounds_toArray, List.set_cons_zero, List.set_cons_succ]
  refine mix_take 2 _ ?_ rfl rfl rfl (some 11) rfl (fun w' hw' => ?hv2) ?_
  case hv2 =>
    go_simp
    with_reducible rfl
  simp only [Act.put, List.setIfInBounds_toArray, List.set_cons_zero, List.set_cons_succ]
  refine mix_take 3 _ ?_ rfl rfl rfl (some 12) rfl (fun w' hw' => ?hv3) ?_
  case hv3 =>
    have c0 := (Below.cell (p := ⟨b', 0, none⟩) hw' hb).trans c0
    have c1 := (Below.cell (p := ⟨b', 1, none⟩) hw' hb).trans c1
    go_simp
    with_reducible rfl
  simp only [Act.put, List.setIfInBounds_toArray, List.set_cons_zero, List.set_cons_succ]
  refine mix_take 4 _ ?_ rfl rfl rfl (some 13) rfl (fun w' hw' => ?hv4) ?_
  case hv4 =>
    go_simp
    with_reducible rfl
  simp only [Act.put, List.setIfInBounds_toArray, List.set_cons_zero, List.set_cons_succ]
  refine mix_take 5 _ ?_ rfl rfl rfl (some 14) rfl (fun w' hw' => ?hv5) ?_
  case hv5 =>
    go_simp
    with_reducible rfl
  simp only [Act.put, List.setIfInBounds_toArray, List.set_cons_zero, List.set_cons_succ]
  refine mix_take 6 _ ?_ rfl rfl rfl (some 15) rfl (fun w' hw' => ?hv6) ?_
  case hv6 =>
    have c0 := (Below.cell (p := ⟨b', 0, none⟩) hw' hb).trans c0
    have c1 := (Below.cell (p := ⟨b', 1, none⟩) hw' hb).trans c1
    go_simp
    with_reducible rfl
  simp only [Act.put, List.setIfInBounds_toArray, List.set_cons_zero, List.set_cons_succ]
  refine mix_take 9 _ ?_ rfl rfl rfl (some 18) rfl (fun w' hw' => ?hv9) ?_
  case hv9 =>
    go_simp
    with_reducible rfl
  simp only [Act.put, List.setIfInBounds_toArray, List.set_cons_zero, List.set_cons_succ]
  refine mix_call 7 _ rfl rfl rfl 139 #[.slice a m cap, .int .i64 x, .int .i64 y] (some 16) rfl ?hr7 ?_
  case hr7 => go_simp
  refine (HM.out _ (cells_now HC.out (Below.refl _ _).drew)).mono ?_
  rintro e w2 ⟨v, rfl, ho2, hb2⟩
  obtain ⟨-, za, zc, zb, rfl, hzx, hzr⟩ := own_shape ho2
  have hB2 : Below w.heap.size w w2 := (Below.refl _ _).drew.trans hb2
  have hzl := hzx.imp_right fun h => own_lt ho2 zb (by rw [h]; rfl)
  have HR := Lib.hid hzr
  refine ⟨_, rfl, hB2, ?_⟩
  simp only [Act.put, List.setIfInBounds_toArray, List.set_cons_zero, List.set_cons_succ]
  refine mix_take 8 _ ?_ rfl rfl rfl (some 17) rfl (fun w' hw' => ?hv8) ?_
  case hv8 =>
    go_simp
    with_reducible rfl
  simp only [Act.put, List.setIfInBounds_toArray, List.set_cons_zero, List.set_cons_succ]
  refine mix_done ?_
  clear c0 c1 ho2 hb2 hzr
  go_wp2_with fail
  go_loop [18] (fun v18 => ∃ k : Nat, k ≤ zs.length ∧ v18 = .int .i64 k ∧ Hid ((zs.take k).find? (fun x => decide (x ≠ fr)) = none)) (fun v18 => zs.length - (intOf v18).toNat)
  case atStart => exact ⟨0, Nat.zero_le _, rfl, Lib.hid (by simp)⟩
  case round =>
    obtain ⟨k, hk, rfl, hf⟩ := hrel
    by_cases hlt : k < zs.length
    · obtain ⟨rfl, c⟩ := HR.out.2 k hlt
      have HS := Lib.hid (HFS.out k hlt hf.out)
      have hki : (k : Int) < (zs.length : Int) := by omega
      rw [Nat.zero_add] at c
      generalize zs.getD k 0 = z at c HS
      cases hz : (z != fr)
      · have e := Lib.hid (HS.out.2 (by simpa using hz))
        go_wp2_with fail
        go_round
        case rel => exact ⟨k + 1, by omega, by go_num, e⟩
        case measure => simp [intOf]; omega
      · have e := Lib.hid (HS.out.1 (by simpa using hz))
        go_wp2_with fail
        go_ret
        exact ⟨ret_next HN.out (by rw [e.out]; rfl), hB2⟩
    · have e : Hid (zs.find? (fun x => decide (x ≠ fr)) = none) := by
        have := hf.out
        rwa [show k = zs.length by omega, List.take_length] at this
      go_wp2_with fail
      go_ret
      exact ⟨ret_next HN.out (by rw [e.out]; rfl), hB2⟩
end Go.Proofs.Ytelchpdlfedleaa
