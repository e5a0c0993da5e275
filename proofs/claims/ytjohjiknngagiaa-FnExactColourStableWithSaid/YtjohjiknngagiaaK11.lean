import Derived.Test.YtjohjiknngagiaaK10
namespace Go.Proofs.Ytjohjiknngagiaa
open Go.RowKit
set_option maxRecDepth 4000
theorem filt_take (l : List Nat) (G : Nat → Bool) (k : Nat) (hk : k < l.length) : (l.take (k + 1)).filter G = (l.take k).filter G ++ (if G (l.getD k 0) then [l.getD k 0] else []) := by
  rw [List.take_add_one, List.filter_append, List.getElem?_eq_getElem hk, List.getD_eq_getElem?_getD, List.getElem?_eq_getElem hk]
  simp only [Option.toList_some, Option.getD_some]
  cases hF : G l[k] <;> simp [hF]
theorem filt_len (l : List Nat) (G : Nat → Bool) (k : Nat) : ((l.take k).filter G).length ≤ l.length := by
  have := List.length_filter_le G (l.take k)
  rw [List.length_take] at this; omega
theorem toI_snoc (l : List Nat) (x : Nat) : toI (l ++ [x]) = toI l ++ [(x : Int)] := by simp [toI]
def metB (n k s : Nat) : Bool := decide (n < 2 * k) || decide (s % 2 = 1)
theorem met_eq (n k : Nat) (l : List Nat) : l.filter (metB n k) = meetL n k l := by
  unfold meetL
  by_cases h : n < 2 * k
  · rw [if_pos h]
    exact List.filter_eq_self.2 (fun s _ => by simp [metB, h])
  · rw [if_neg h]
    exact List.filter_congr (fun s _ => by simp [metB, h])
set_option maxHeartbeats 1600000 in
theorem knMeeting_any (n k : Nat) (hn : n ≤ 8) (hk : k ≤ 8) (w : World) :
    Calls Try.prog 53 #[.int .i64 n, .int .i64 k] w fun e w' => ∃ v, e = .returned v ∧ OI w' w.heap.size w'.heap.size v (toI (meetL n k (kS n k))) ∧ Below w.heap.size w w' := by
  obtain ⟨l, hl⟩ : ∃ l, l = kS n k := ⟨_, rfl⟩
  have hlen : l.length ≤ 256 := by rw [hl, ← kI_length]; exact kI_len n k hn
  have hls : ∀ j, j < l.length → l.getD j 0 < 256 := fun j hj => by rw [hl] at hj ⊢; exact (kS_at_lt n k hn j hj).2
  have HS : Hid (∀ w : World, Calls Try.prog 34 #[.int .i64 n, .int .i64 k] w fun e w' => ∃ v, e = .returned v ∧ OI w' w.heap.size w'.heap.size v (toI l) ∧ Below w.heap.size w w') := Lib.hid (by rw [hl]; exact knSets_any n k hn)
  have HE : Hid (toI (meetL n k (kS n k)) = toI ((l.take l.length).filter (metB n k))) := Lib.hid (by rw [List.take_length, met_eq, hl])
  have HLS := Lib.hid hls
  have HLE := Lib.hid (filt_len l (metB n k))
  have HST := Lib.hid (filt_take l (metB n k))
  have htl := toI_len l
  clear hl hls
  go_enter Try.func53, Try.ntmps53
  go_wp2_with fail
  refine (HS.out _).mono ?_
  rintro e w1 ⟨v, rfl, ho1, hb1⟩
  obtain ⟨va, vc, vb, rfl, hrd, hrs⟩ := oi_shape ho1
  rw [htl]
  have HC : Hid (∀ j, j < l.length → va = some ⟨vb, 0, none⟩ ∧ w1.cell? ⟨vb, j, none⟩ = some (.int .i64 (l.getD j 0 : Nat))) := Lib.hid (fun j hj => by
    have := hrd.2 j (by omega)
    rw [toI_at, Nat.zero_add] at this; exact this)
  have HV : Hid (∀ j, j < l.length → vb < w1.heap.size) := Lib.hid (fun j hj => by
    obtain ⟨b, off, h1, h2⟩ := hrs
    have e1 := (h1.2 j (by omega)).1
    have e2 := (hrd.2 j (by omega)).1
    rw [e2] at e1
    simp only [Option.some.injEq, Addr.mk.injEq] at e1
    omega)
  have hz1 := hb1.size
  clear hrd hrs ho1
  go_wp2_with fail
  go_loopw [5, 12] (fun v5 v12 wr => ∃ i : Nat, i ≤ l.length ∧ v12 = .int .i64 i ∧ wr.ownsRow w1.heap.size 3 1 v5 (toI ((l.take i).filter (metB n k))).length ((toI ((l.take i).filter (metB n k))).map (Value.int .i64)) ∧ Below w1.heap.size w1 wr) (fun _ v12 _ => l.length - (intOf v12).toNat)
  case atStart => exact ⟨0, Nat.zero_le _, rfl, World.ownsRow_nil _ _ _ _, Below.refl _ _⟩
  case round =>
    obtain ⟨i, hi, rfl, ho, hb⟩ := hrel
    obtain ⟨wq, rfl⟩ : ∃ wq : World, wq = wr := ⟨_, rfl⟩
    have hz := hb.size
    by_cases hlt : i < l.length
    · have hii : (i : Int) < (l.length : Int) := by omega
      obtain ⟨ha, c⟩ := HC.out i hlt
      have hvb := HV.out i hlt
      subst ha
      have c1 : wq.cell? ⟨vb, i, none⟩ = some (.int .i64 (l.getD i 0 : Nat)) := (hb.cell hvb).trans c
      have hx := HLS.out i hlt
      have HL : Hid ((toI ((l.take i).filter (metB n k))).length ≤ 256) := Lib.hid (by rw [toI_len]; have := HLE.out i; omega)
      have HSi := Lib.hid (HST.out i hlt)
      have HM : Hid (metB n k (l.getD i 0) = (decide (n < 2 * k) || decide (l.getD i 0 % 2 = 1))) := Lib.hid rfl
      clear c
      generalize (l.take i).filter (metB n k) = ys at *
      generalize l.getD i 0 = x at *
      have HO := Lib.hid ho
      clear ho
      cases hB : metB n k x
      · rw [hB] at HM HSi
        have HN : Hid ((l.take (i + 1)).filter (metB n k) = ys) := Lib.hid (by rw [HSi.out]; simp)
        have h1 : ¬ (n : Int) < 2 * (k : Int) := by
          have := HM.out
          simp only [Bool.false_eq, Bool.or_eq_false_iff, decide_eq_false_iff_not] at this
          omega
        have h2 : ((x : Int) % 2 == 1) = false := by
          have := HM.out
          simp only [Bool.false_eq, Bool.or_eq_false_iff, decide_eq_false_iff_not] at this
          simp; omega
        clear hB
        go_wp2_with fail
        go_roundw
        case rel => exact ⟨i + 1, by omega, by go_num, by rw [HN.out]; exact HO.out, hb⟩
        case measure => simp [intOf]; omega
      · rw [hB] at HM HSi
        obtain ⟨zs, hzs⟩ : ∃ zs, zs = toI ys ++ [(x : Int)] := ⟨_, rfl⟩
        have HN : Hid (toI ((l.take (i + 1)).filter (metB n k)) = toI ys ++ [(x : Int)]) := Lib.hid (by rw [HSi.out]; simp [toI_snoc])
        clear hB hzs
        by_cases h1 : (n : Int) < 2 * (k : Int)
        · go_wp2_with (at_builtin; go_loud (refine append_int w1.heap.size wq _ (toI ys) _ rfl _ _ rfl rfl rfl HO.out hz (by have := HL.out; omega) ?_; intro v' w3 ho3 hb3))
          go_roundw
          case rel => exact ⟨i + 1, by omega, by go_num, by rw [HN.out]; exact ho3, hb.trans hb3⟩
          case measure => simp [intOf]; omega
        · have h2 : ((x : Int) % 2 == 1) = true := by
            have := HM.out
            simp only [Bool.true_eq, Bool.or_eq_true, decide_eq_true_eq] at this
            simp; omega
          go_wp2_with (at_builtin; go_loud (refine append_int w1.heap.size wq _ (toI ys) _ rfl _ _ rfl rfl rfl HO.out hz (by have := HL.out; omega) ?_; intro v' w3 ho3 hb3))
          go_roundw
          case rel => exact ⟨i + 1, by omega, by go_num, by rw [HN.out]; exact ho3, hb.trans hb3⟩
          case measure => simp [intOf]; omega
    · have hk2 : i = l.length := by omega
      rw [hk2, ← HE.out] at ho
      have HK := Lib.hid hk2
      clear hk2
      go_wp2_with fail
      go_ret
      exact ⟨_, rfl, oi_low (oi_new ho) hz1, bnext hb1 hb⟩
end Go.Proofs.Ytjohjiknngagiaa
