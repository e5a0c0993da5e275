import Derived.Test.YtjohjiknngagiaaK11
namespace Go.Proofs.Ytjohjiknngagiaa
open Go.RowKit
set_option maxRecDepth 4000
def stabM (n k : Nat) (l : List Nat) : List Nat := l.filter (stbM n k)
theorem trn_all : ∀ n : Nat, n < 9 → 1 ≤ n → ∀ x : Nat, x < 256 → (bits BinOp.and IntKind.i64 (x : Int) (bits BinOp.or IntKind.i64 (bits BinOp.and IntKind.i64 ((x : Int) * 2) (wrap64 (wrap64 (2 ^ n) - 1))) ((x : Int) / 2 ^ (n - 1))) == 0) = decide (x &&& ((x <<< 1) &&& (2 ^ n - 1) ||| x >>> (n - 1)) = 0) := by decide +kernel
set_option maxHeartbeats 1600000 in
theorem knStable_one (n : Nat) (hn1 : 1 ≤ n) (hn : n ≤ 8) (w : World) :
    Calls Try.prog 37 #[.int .i64 n, .int .i64 1] w fun e w' => ∃ v, e = .returned v ∧ OI w' w.heap.size w'.heap.size v (toI (stabM n 1 (kS n 1))) ∧ Below w.heap.size w w' := by
  obtain ⟨l, hl⟩ : ∃ l, l = kS n 1 := ⟨_, rfl⟩
  have hlen : l.length ≤ 256 := by rw [hl, ← kI_length]; exact kI_len n 1 hn
  have hls : ∀ j, j < l.length → l.getD j 0 < 256 := fun j hj => by rw [hl] at hj ⊢; exact (kS_at_lt n 1 hn j hj).2
  have HS : Hid (∀ w : World, Calls Try.prog 34 #[.int .i64 n, .int .i64 1] w fun e w' => ∃ v, e = .returned v ∧ OI w' w.heap.size w'.heap.size v (toI l) ∧ Below w.heap.size w w') := Lib.hid (by rw [hl]; exact knSets_any n 1 hn)
  have HE : Hid (toI (stabM n 1 (kS n 1)) = toI ((l.take l.length).filter (stbM n 1))) := Lib.hid (by rw [List.take_length, stabM, hl])
  have HLS := Lib.hid hls
  have HLE := Lib.hid (filt_len l (stbM n 1))
  have HST := Lib.hid (filt_take l (stbM n 1))
  have htl := toI_len l
  clear hl hls
  go_enter Try.func37, Try.ntmps37
  go_wp2_with fail
  refine (HS.out _).mono ?_
  rintro e w1 ⟨v, rfl, ho1, hb1⟩
  obtain ⟨va, vc, vb, rfl, hrd, hrs⟩ := oi_shape ho1
  rw [htl]
  have HC : Hid (∀ j, j < l.length → va = some ⟨vb, 0, none⟩ ∧ w1.cell? ⟨vb, j, none⟩ = some (.int .i64 (l.getD j 0 : Nat))) := Lib.hid (fun j hj => by
    have := hrd.2 j (by omega)
    rw [toI_at, Nat.zero_add] at this; exact this)
  have HV : Hid (∀ j, j < l.length → vb < w1.heap.size) := Lib.hid (fun j hj => by
    obtain ⟨b, off, h1, h2⟩ := hrs
    have e1 := (h1.2 j (by omega)).1
    have e2 := (hrd.2 j (by omega)).1
    rw [e2] at e1
    simp only [Option.some.injEq, Addr.mk.injEq] at e1
    omega)
  have hz1 := hb1.size
  clear hrd hrs ho1
  go_wp2_with fail
  go_loopw [5, 13] (fun v5 v13 wr => ∃ i : Nat, i ≤ l.length ∧ v13 = .int .i64 i ∧ wr.ownsRow w1.heap.size 3 1 v5 (toI ((l.take i).filter (stbM n 1))).length ((toI ((l.take i).filter (stbM n 1))).map (Value.int .i64)) ∧ Below w1.heap.size w1 wr) (fun _ v13 _ => l.length - (intOf v13).toNat)
  case atStart => exact ⟨0, Nat.zero_le _, rfl, World.ownsRow_nil _ _ _ _, Below.refl _ _⟩
  case round =>
    obtain ⟨i, hi, rfl, ho, hb⟩ := hrel
    obtain ⟨wq, rfl⟩ : ∃ wq : World, wq = wr := ⟨_, rfl⟩
    have hz := hb.size
    by_cases hlt : i < l.length
    · have hii : (i : Int) < (l.length : Int) := by omega
      obtain ⟨ha, c⟩ := HC.out i hlt
      have hvb := HV.out i hlt
      subst ha
      have c1 : wq.cell? ⟨vb, i, none⟩ = some (.int .i64 (l.getD i 0 : Nat)) := (hb.cell hvb).trans c
      have hx := HLS.out i hlt
      have HL : Hid ((toI ((l.take i).filter (stbM n 1))).length ≤ 256) := Lib.hid (by rw [toI_len]; have := HLE.out i; omega)
      have HSi := Lib.hid (HST.out i hlt)
      clear c
      generalize (l.take i).filter (stbM n 1) = ys at *
      generalize l.getD i 0 = x at *
      have HO := Lib.hid ho
      have hnn : ¬ ((n : Int) - 1 < 0) := by omega
      have hn1i : (1 : Int) ≤ (n : Int) := by omega
      clear ho
      have HT := Lib.hid (trn_all n (by omega) hn1 x hx)
      have HM : Hid (stbM n 1 x = (decide (1 = 1) || decide (x &&& ((x <<< 1) &&& (2 ^ n - 1) ||| x >>> (n - 1)) = 0))) := Lib.hid rfl
      have HN : Hid (toI ((l.take (i + 1)).filter (stbM n 1)) = toI ys ++ [(x : Int)]) := Lib.hid (by rw [HSi.out, HM.out]; simp [toI_snoc])
      go_wp2_with fail
      go_quiet (fail)
      go_wp2_with (at_builtin; go_loud (refine append_intg w1.heap.size _ (wq.drewN nq) _ (toI ys) _ rfl _ _ rfl rfl rfl rfl (own_now HO.out ((Same.refl wq).drewN nq _)) hz (by have := HL.out; omega) ?_; intro v' w3 ho3 hb3))
      go_roundw
      case rel => exact ⟨i + 1, by omega, by go_num, by rw [HN.out]; exact ho3, hb.trans (((Same.refl wq).drewN nq _).trans hb3)⟩
      case measure => simp [intOf]; omega
    · have hk2 : i = l.length := by omega
      rw [hk2, ← HE.out] at ho
      have HK := Lib.hid hk2
      clear hk2
      go_wp2_with fail
      go_ret
      exact ⟨_, rfl, oi_low (oi_new ho) hz1, bnext hb1 hb⟩
set_option maxHeartbeats 1600000 in
theorem knStable_more (n k : Nat) (hk1 : k ≠ 1) (hn1 : 1 ≤ n) (hn : n ≤ 8) (w : World) :
    Calls Try.prog 37 #[.int .i64 n, .int .i64 k] w fun e w' => ∃ v, e = .returned v ∧ OI w' w.heap.size w'.heap.size v (toI (stabM n k (kS n k))) ∧ Below w.heap.size w w' := by
  obtain ⟨l, hl⟩ : ∃ l, l = kS n k := ⟨_, rfl⟩
  have hlen : l.length ≤ 256 := by rw [hl, ← kI_length]; exact kI_len n k hn
  have hls : ∀ j, j < l.length → l.getD j 0 < 256 := fun j hj => by rw [hl] at hj ⊢; exact (kS_at_lt n k hn j hj).2
  have HS : Hid (∀ w : World, Calls Try.prog 34 #[.int .i64 n, .int .i64 k] w fun e w' => ∃ v, e = .returned v ∧ OI w' w.heap.size w'.heap.size v (toI l) ∧ Below w.heap.size w w') := Lib.hid (by rw [hl]; exact knSets_any n k hn)
  have HE : Hid (toI (stabM n k (kS n k)) = toI ((l.take l.length).filter (stbM n k))) := Lib.hid (by rw [List.take_length, stabM, hl])
  have HLS := Lib.hid hls
  have HLE := Lib.hid (filt_len l (stbM n k))
  have HST := Lib.hid (filt_take l (stbM n k))
  have htl := toI_len l
  clear hl hls
  go_enter Try.func37, Try.ntmps37
  go_wp2_with fail
  refine (HS.out _).mono ?_
  rintro e w1 ⟨v, rfl, ho1, hb1⟩
  obtain ⟨va, vc, vb, rfl, hrd, hrs⟩ := oi_shape ho1
  rw [htl]
  have HC : Hid (∀ j, j < l.length → va = some ⟨vb, 0, none⟩ ∧ w1.cell? ⟨vb, j, none⟩ = some (.int .i64 (l.getD j 0 : Nat))) := Lib.hid (fun j hj => by
    have := hrd.2 j (by omega)
    rw [toI_at, Nat.zero_add] at this; exact this)
  have HV : Hid (∀ j, j < l.length → vb < w1.heap.size) := Lib.hid (fun j hj => by
    obtain ⟨b, off, h1, h2⟩ := hrs
    have e1 := (h1.2 j (by omega)).1
    have e2 := (hrd.2 j (by omega)).1
    rw [e2] at e1
    simp only [Option.some.injEq, Addr.mk.injEq] at e1
    omega)
  have hz1 := hb1.size
  clear hrd hrs ho1
  go_wp2_with fail
  go_loopw [5, 13] (fun v5 v13 wr => ∃ i : Nat, i ≤ l.length ∧ v13 = .int .i64 i ∧ wr.ownsRow w1.heap.size 3 1 v5 (toI ((l.take i).filter (stbM n k))).length ((toI ((l.take i).filter (stbM n k))).map (Value.int .i64)) ∧ Below w1.heap.size w1 wr) (fun _ v13 _ => l.length - (intOf v13).toNat)
  case atStart => exact ⟨0, Nat.zero_le _, rfl, World.ownsRow_nil _ _ _ _, Below.refl _ _⟩
  case round =>
    obtain ⟨i, hi, rfl, ho, hb⟩ := hrel
    obtain ⟨wq, rfl⟩ : ∃ wq : World, wq = wr := ⟨_, rfl⟩
    have hz := hb.size
    by_cases hlt : i < l.length
    · have hii : (i : Int) < (l.length : Int) := by omega
      obtain ⟨ha, c⟩ := HC.out i hlt
      have hvb := HV.out i hlt
      subst ha
      have c1 : wq.cell? ⟨vb, i, none⟩ = some (.int .i64 (l.getD i 0 : Nat)) := (hb.cell hvb).trans c
      have hx := HLS.out i hlt
      have HL : Hid ((toI ((l.take i).filter (stbM n k))).length ≤ 256) := Lib.hid (by rw [toI_len]; have := HLE.out i; omega)
      have HSi := Lib.hid (HST.out i hlt)
      clear c
      generalize (l.take i).filter (stbM n k) = ys at *
      generalize l.getD i 0 = x at *
      have HO := Lib.hid ho
      have hnn : ¬ ((n : Int) - 1 < 0) := by omega
      have hn1i : (1 : Int) ≤ (n : Int) := by omega
      clear ho
      have HT := Lib.hid (trn_all n (by omega) hn1 x hx)
      have HM : Hid (stbM n k x = (decide (k = 1) || decide (x &&& ((x <<< 1) &&& (2 ^ n - 1) ||| x >>> (n - 1)) = 0))) := Lib.hid rfl
      have hkb : ((k : Int) == 1) = false := by simp; omega
      have hk0 : decide (k = 1) = false := by simp [hk1]
      rw [hk0, Bool.false_or, ← HT.out] at HM
      clear hk0
      cases hB : stbM n k x
      · have HN : Hid ((l.take (i + 1)).filter (stbM n k) = ys) := Lib.hid (by rw [HSi.out, hB]; simp)
        rw [hB] at HM
        have hv := HM.out.symm
        clear hB
        go_wp2_with fail
        go_quiet (fail)
        go_wp2_with fail
        go_roundw
        case rel => exact ⟨i + 1, by omega, by go_num, by rw [HN.out]; exact own_now HO.out ((Same.refl wq).drewN nq _), hb.trans ((Same.refl wq).drewN nq _)⟩
        case measure => simp [intOf]; omega
      · have HN : Hid (toI ((l.take (i + 1)).filter (stbM n k)) = toI ys ++ [(x : Int)]) := Lib.hid (by rw [HSi.out, hB]; simp [toI_snoc])
        rw [hB] at HM
        have hv := HM.out.symm
        clear hB
        go_wp2_with fail
        go_quiet (fail)
        go_wp2_with (at_builtin; go_loud (refine append_intg w1.heap.size _ (wq.drewN nq) _ (toI ys) _ rfl _ _ rfl rfl rfl rfl (own_now HO.out ((Same.refl wq).drewN nq _)) hz (by have := HL.out; omega) ?_; intro v' w3 ho3 hb3))
        go_roundw
        case rel => exact ⟨i + 1, by omega, by go_num, by rw [HN.out]; exact ho3, hb.trans (((Same.refl wq).drewN nq _).trans hb3)⟩
        case measure => simp [intOf]; omega
    · have hk2 : i = l.length := by omega
      rw [hk2, ← HE.out] at ho
      have HK := Lib.hid hk2
      clear hk2
      go_wp2_with fail
      go_ret
      exact ⟨_, rfl, oi_low (oi_new ho) hz1, bnext hb1 hb⟩
theorem knStable_any (n k : Nat) (hn1 : 1 ≤ n) (hn : n ≤ 8) (w : World) :
    Calls Try.prog 37 #[.int .i64 n, .int .i64 k] w fun e w' => ∃ v, e = .returned v ∧ OI w' w.heap.size w'.heap.size v (toI (stabM n k (kS n k))) ∧ Below w.heap.size w w' := by
  by_cases h : k = 1
  · subst h; exact knStable_one n hn1 hn w
  · exact knStable_more n k h hn1 hn w
theorem meet_len (n k : Nat) (h : n ≤ 8) : (toI (meetL n k (kS n k))).length ≤ 256 := by
  have h1 := kI_len n k h
  rw [kI_length] at h1
  rw [toI_len]
  unfold meetL
  split
  · exact h1
  · exact Nat.le_trans (List.length_filter_le _ _) h1
theorem stab_len (n k : Nat) (h : n ≤ 8) : (toI (stabL n (kS n k))).length ≤ 256 := by
  have h1 := kI_len n k h
  rw [kI_length] at h1
  rw [toI_len]
  exact Nat.le_trans (List.length_filter_le _ _) h1
theorem stab_eq (n k : Nat) (h1 : 1 ≤ n) (h2 : n ≤ 8) (h3 : k ≤ 8) : stabM n k (kS n k) = stabL n (kS n k) := by
  refine List.filter_congr (fun s hs => ?_)
  have hk : pop s = k := by
    simp only [kS, isK, List.mem_filter, decide_eq_true_eq] at hs
    exact hs.2
  exact (stb_eq n (by omega) h1 s (kS_lt n k h2 s hs).1 k (by omega) hk).symm
theorem knStable8 (n k : Nat) (h1 : 1 ≤ n) (h2 : n ≤ 8) (h3 : k ≤ 8) (w : World) :
    Calls Try.prog 37 #[.int .i64 n, .int .i64 k] w fun e w' => ∃ v, e = .returned v ∧ OI w' w.heap.size w'.heap.size v (toI (stabL n (kS n k))) ∧ Below w.heap.size w w' := by
  rw [← stab_eq n k h1 h2 h3]
  exact knStable_any n k h1 h2 w
end Go.Proofs.Ytjohjiknngagiaa
