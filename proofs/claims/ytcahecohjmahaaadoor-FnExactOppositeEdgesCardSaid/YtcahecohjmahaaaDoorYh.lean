import Derived.Test.YtcahecohjmahaaaDoorYd
namespace Go.Proofs.YtcahecohjmahaaaDoor
open Go.RowKit
set_option maxRecDepth 4000
theorem made_pairs (m : Nat) : (madeCells (Value.agg #[.int .i64 0, .int .i64 0]).cells (m * 2)).toList = pfl (List.replicate m (0, 0)) := by
  have e : ∀ m, pfl (List.replicate m ((0 : Int), (0 : Int))) = List.replicate (m * 2) (Value.int .i64 0) := by
    intro m
    induction m with
    | zero => rfl
    | succ m ih =>
      rw [show (m + 1) * 2 = m * 2 + 1 + 1 by omega, List.replicate_succ, List.replicate_succ, List.replicate_succ, ← ih]
      rfl
  rw [e]
  apply List.ext_getElem?
  intro i
  simp only [madeCells, Value.cells, List.getElem?_replicate]
  by_cases h : i < m * 2
  · have h2 : i % 2 = 0 ∨ i % 2 = 1 := by omega
    rcases h2 with h2 | h2 <;> simp [h, h2]
  · simp [h]
theorem pfl_set (ps : List (Int × Int)) (x y : Int) : ∀ k, ((pfl ps).set (k * 2) (.int .i64 x)).set (k * 2 + 1) (.int .i64 y) = pfl (ps.set k (x, y)) := by
  induction ps with
  | nil => intro k; simp [pfl]
  | cons p ps ih =>
    intro k
    match k with
    | 0 => rfl
    | k + 1 =>
      have e := ih k
      rw [show (k + 1) * 2 = k * 2 + 2 by omega]
      simp only [pfl, List.flatMap_cons, List.set_cons_succ, List.cons_append, List.nil_append] at e ⊢
      rw [e]
theorem rem_nat (k m : Nat) : Int.tmod ((k : Int) + 1) ((m : Nat) : Int) = (((k + 1) % m : Nat) : Int) := by
  rw [show (k : Int) + 1 = ((k + 1 : Nat) : Int) by omega, Int.ofNat_tmod]
/-- A step along a list that comes round. -/
def al (xs : List Int) (k : Nat) : Int × Int := (xs.getD k 0, xs.getD ((k + 1) % xs.length) 0)
def als (xs : List Int) (m : Nat) : List (Int × Int) := (List.range m).map (al xs)
theorem als_succ (xs : List Int) (m : Nat) : als xs (m + 1) = als xs m ++ [al xs m] := by simp [als, List.range_succ]
theorem als_len (xs : List Int) (m : Nat) : (als xs m).length = m := by simp [als]
/-- The first k steps, and noughts behind them. -/
def alz (xs : List Int) (k : Nat) : List (Int × Int) := (List.range xs.length).map fun i => if i < k then al xs i else (0, 0)
theorem alz_len (xs : List Int) (k : Nat) : (alz xs k).length = xs.length := by simp [alz]
theorem alz_at (xs : List Int) (k i : Nat) : (alz xs k)[i]? = if i < xs.length then some (if i < k then al xs i else (0, 0)) else none := by
  simp only [alz, List.getElem?_map]
  by_cases h : i < xs.length
  · rw [List.getElem?_range h, if_pos h]; rfl
  · rw [List.getElem?_eq_none (by simpa using h), if_neg h]; rfl
theorem alz_zero (xs : List Int) : alz xs 0 = List.replicate xs.length (0, 0) := by
  apply List.ext_getElem?
  intro i
  rw [alz_at, List.getElem?_replicate]
  simp
theorem alz_all (xs : List Int) : alz xs xs.length = als xs xs.length := by
  apply List.ext_getElem?
  intro i
  rw [alz_at]
  simp only [als, List.getElem?_map]
  by_cases h : i < xs.length
  · rw [List.getElem?_range h, if_pos h, if_pos h]; rfl
  · rw [List.getElem?_eq_none (by simpa using h), if_neg h]; rfl
theorem alz_set (xs : List Int) (k : Nat) (hk : k < xs.length) : (alz xs k).set k (al xs k) = alz xs (k + 1) := by
  apply List.ext_getElem?
  intro i
  rw [List.getElem?_set, alz_at, alz_at, alz_len]
  by_cases h1 : k = i
  · subst h1
    rw [if_pos rfl, if_pos hk, if_pos hk, if_pos (by omega)]
  · rw [if_neg h1]
    by_cases h2 : i < xs.length
    · rw [if_pos h2, if_pos h2]
      by_cases h3 : i < k
      · rw [if_pos h3, if_pos (by omega)]
      · rw [if_neg h3, if_neg (by omega)]
    · rw [if_neg h2, if_neg h2]
set_option maxHeartbeats 1600000 in
theorem pairsAlong_any (xs : List Int) (a : Option Addr) (b len cap : Nat) (w : World) (hn : xs.length = len) (h : Rd w a b 0 xs) (hx : a = none ∨ b < w.heap.size) (hm : len ≤ 1000) :
    Calls Tryd.prog 148 #[.slice a len cap] w fun e w' => ∃ v, e = .returned v ∧ PairV w' w.heap.size v (als xs xs.length) ∧ Below w.heap.size w w' := by
  obtain ⟨i0, hi, hz0, hz1, hz2⟩ := info_parts pairInfo
  have HR := Lib.hid h
  have HN := Lib.hid hn
  have HZ := alz_len xs
  rw [hn] at HZ
  have HZ := Lib.hid HZ
  have HA := Lib.hid (alz_all xs)
  clear h hn
  go_enter Tryd.func148, Tryd.ntmps148
  go_wp2_with (at_make; refine wpList_make_full _ rfl _ _ 65 rfl w.heap.size 94 i0 (.agg #[.int .i64 0, .int .i64 0]) 2 Tryd.underlying65 hi hz0 hz1 _ _ _ _ len rfl rfl ?hC ?hL ?hb2 ?hb3 ?hb4 ?_)
  case hC => rfl
  case hL => rfl
  case hb2 => rw [hz2]; omega
  case hb3 => unfold maxLen; omega
  case hb4 => exact Nat.le_refl _
  intro w2 ho2 hg2
  have hp2 : PairV w2 w.heap.size (.slice (some ⟨w.heap.size, 0, none⟩) len len) (alz xs 0) := by
    unfold PairV
    rw [alz_zero, List.length_replicate, ← made_pairs, HN.out]
    exact ho2
  have hB2 : Below w.heap.size w w2 := (Below.refl _ _).grown hg2 (Nat.le_refl _) (fun k hk => by cases hk)
  clear ho2 hg2
  go_wp2_with fail
  go_loopw [11] (fun v11 wr => ∃ k : Nat, k ≤ len ∧ v11 = .int .i64 k ∧ PairV wr w.heap.size (.slice (some ⟨w.heap.size, 0, none⟩) len len) (alz xs k) ∧ Below w.heap.size w wr) (fun v11 _ => len - (intOf v11).toNat)
  case atStart => exact ⟨0, Nat.zero_le _, rfl, hp2, hB2⟩
  case round =>
    clear hp2 hB2
    obtain ⟨k, hk, rfl, hp, hb⟩ := hrel
    by_cases hlt : k < len
    · have hr1 := HR.out.below hb hx
      obtain ⟨rfl, c0⟩ := hr1.2 k (by rw [HN.out]; exact hlt)
      have hmod : (k + 1) % len < len := Nat.mod_lt _ (by omega)
      have c1 := (hr1.2 ((k + 1) % len) (by rw [HN.out]; exact hmod)).2
      rw [Nat.zero_add] at c0 c1
      have hrem := rem_nat k len
      have hmi2 : ((k : Int) + 1) % (len : Int) < (len : Int) := Int.emod_lt_of_pos _ (by omega)
      have hmi3 : 0 ≤ ((k : Int) + 1) % (len : Int) := Int.emod_nonneg _ (by omega)
      have hki : (k : Int) < (len : Int) := by omega
      have hmi : (((k + 1) % len : Nat) : Int) < (len : Int) := by omega
      have hown : wr.ownsRow w.heap.size 94 2 (.slice (some ⟨w.heap.size, 0, none⟩) len len) len (pfl (alz xs k)) := by
        have e : PairV wr w.heap.size (.slice (some ⟨w.heap.size, 0, none⟩) len len) (alz xs k) := hp
        unfold PairV at e
        rwa [HZ.out] at e
      have hpa := pfl_at (alz xs k) k (by rw [HZ.out]; exact hlt)
      have o0 := (hown.cellAt (k * 2) (by omega)).trans hpa.1
      have o1 := (hown.cellAt (k * 2 + 1) (by omega)).trans hpa.2
      have f0 := hown.frozenAt (k * 2)
      have f1 := hown.frozenAt (k * 2 + 1)
      have HNEW : Hid (∀ x y, PairV ((wr.setCell ⟨w.heap.size, k * 2, none⟩ (.int .i64 x)).setCell ⟨w.heap.size, k * 2 + 1, none⟩ (.int .i64 y)) w.heap.size (.slice (some ⟨w.heap.size, 0, none⟩) len len) ((alz xs k).set k (x, y))) := Lib.hid (fun x y => by
        unfold PairV
        rw [List.length_set, HZ.out, ← pfl_set]
        exact ((hown.stored (k * 2) _).1.stored (k * 2 + 1) _).1)
      have HE : Hid ((alz xs k).set k (xs.getD k 0, xs.getD ((k + 1) % len) 0) = alz xs (k + 1)) := Lib.hid (by rw [← HN.out]; exact alz_set xs k (by rw [HN.out]; exact hlt))
      clear hr1 hx hp hown hpa
      generalize hold0 : ((alz xs k).getD k (0, 0)).1 = u0 at o0
      generalize hold1 : ((alz xs k).getD k (0, 0)).2 = u1 at o1
      clear hold0 hold1
      generalize xs.getD k 0 = i at c0 HE
      generalize xs.getD ((k + 1) % len) 0 = j at c1 HE
      go_wp2_with fail
      go_roundw
      case rel => exact ⟨k + 1, by omega, by go_num, by rw [← HE.out]; exact HNEW.out _ _, (hb.setCell (p := ⟨w.heap.size, k * 2, none⟩) (Nat.le_refl _) _).setCell (p := ⟨w.heap.size, k * 2 + 1, none⟩) (Nat.le_refl _) _⟩
      case measure => simp [intOf]; omega
    · have hk2 : k = len := by omega
      rw [hk2, ← HN.out, HA.out, HN.out] at hp
      clear hk2
      go_wp2_with fail
      go_ret
      exact ⟨_, rfl, by rw [HN.out]; exact hp, hb⟩
/-- A function value that is asked for pairs: what it answers is told by d, in every world that keeps what is below. -/
def Asks (F : FuncId) (first caps : Array Value) (d : Int × Int → Bool) (w : World) (ps : List (Int × Int)) : Prop :=
  ∀ W, Below w.heap.size w W → ∀ k, k < ps.length → Calls Tryd.prog F (first.push (.agg #[.int .i64 (ps.getD k (0, 0)).1, .int .i64 (ps.getD k (0, 0)).2]) ++ caps) W fun e w' => e = .returned (.bool (d (ps.getD k (0, 0)))) ∧ Below W.heap.size W w'
theorem ff_yes (d : Int × Int → Bool) (ps : List (Int × Int)) (k : Nat) (hk : k < ps.length) (h : d (ps.getD k (0, 0)) = true) : (ps.take (k + 1)).filter d = (ps.take k).filter d ++ [ps.getD k (0, 0)] := by
  rw [List.take_add_one, List.filter_append, List.getElem?_eq_getElem hk]
  rw [List.getD_eq_getElem?_getD, List.getElem?_eq_getElem hk] at h ⊢
  simp only [Option.getD_some] at h
  simp [h]
theorem ff_no (d : Int × Int → Bool) (ps : List (Int × Int)) (k : Nat) (hk : k < ps.length) (h : d (ps.getD k (0, 0)) = false) : (ps.take (k + 1)).filter d = (ps.take k).filter d := by
  rw [List.take_add_one, List.filter_append, List.getElem?_eq_getElem hk]
  rw [List.getD_eq_getElem?_getD, List.getElem?_eq_getElem hk] at h
  simp only [Option.getD_some] at h
  simp [h]
theorem ff_len (d : Int × Int → Bool) (ps : List (Int × Int)) (k : Nat) : ((ps.take k).filter d).length ≤ ps.length :=
  Nat.le_trans (List.length_filter_le _ _) (by rw [List.length_take]; omega)
set_option maxHeartbeats 1600000 in
theorem among_any (F : FuncId) (first caps : Array Value) (d : Int × Int → Bool) (ps : List (Int × Int)) (a : Option Addr) (b cap : Nat) (w : World) (hcf : ∀ (args : Array Value) (w : World), (callFunc F args).run Tryd.prog w = .ok (.enter F args) w) (hf : Asks F first caps d w ps) (hr : PRd w a b ps) (hlen : ps.length ≤ 100000) :
    Calls Tryd.prog 53 #[.slice a ps.length cap, .func (.func F) first caps] w fun e w' => ∃ v, e = .returned v ∧ PairV w' w.heap.size v (ps.filter d) ∧ Below w.heap.size w w' := by
  have HF := Lib.hid hf
  have HR := Lib.hid hr
  clear hf hr
  go_enter Tryd.func53, Tryd.ntmps53
  go_wp2_with fail
  go_loopw [5, 10] (fun v5 v10 wr => ∃ k : Nat, k ≤ ps.length ∧ v10 = .int .i64 k ∧ PairV wr w.heap.size v5 ((ps.take k).filter d) ∧ Below w.heap.size w wr) (fun _ v10 _ => ps.length - (intOf v10).toNat)
  case atStart => exact ⟨0, Nat.zero_le _, rfl, World.ownsRow_nil _ _ _ _, Below.refl _ _⟩
  case round =>
    obtain ⟨k, hk, rfl, ho, hb⟩ := hrel
    by_cases hlt : k < ps.length
    · obtain ⟨rfl, hbl, c0, c1⟩ := (HR.out.later hb) k hlt
      have HY := Lib.hid (ff_yes d ps k hlt)
      have HN := Lib.hid (ff_no d ps k hlt)
      have hfl := ff_len d ps k
      have HP := Lib.hid (fun W hB => HF.out W hB k hlt)
      have hpe : ps.getD k (0, 0) = ((ps.getD k (0, 0)).1, (ps.getD k (0, 0)).2) := rfl
      generalize (ps.getD k (0, 0)).1 = x at c0 HP hpe
      generalize (ps.getD k (0, 0)).2 = y at c1 HP hpe
      rw [hpe] at HY HN HP
      clear hpe
      have hki : (k : Int) < (ps.length : Int) := by omega
      obtain ⟨wi, hwi⟩ : ∃ wi : World, wi = wr := ⟨_, rfl⟩
      subst hwi
      have hz := hb.size
      have HBA := balloc hb (.cells #[.int .i64 x, .int .i64 y] 94)
      go_wp2_with fail
      refine (HP.out _ HBA).mono ?_
      rintro e w2 ⟨rfl, hb2⟩
      have hB2 := bnext (balloc (Below.refl wi.heap.size wi) (.cells #[.int .i64 x, .int .i64 y] 94)) hb2
      have t0 : w2.cell? ⟨wi.heap.size, 0, none⟩ = some (.int .i64 x) := by rw [hb2.cell (by simp)]; go_cell
      have t1 : w2.cell? ⟨wi.heap.size, 1, none⟩ = some (.int .i64 y) := by rw [hb2.cell (by simp)]; go_cell
      have ho2 := pairs_now ho hB2
      have hbW := hb.trans (hB2.mono hz)
      have hzW := hbW.size
      clear ho hb hb2 c0 c1 HBA
      cases hD : d (x, y)
      · have e := Lib.hid (HN.out hD)
        clear hD
        go_wp2_with fail
        go_roundw
        case rel => exact ⟨k + 1, by omega, by go_num, by rw [e.out]; exact ho2, hbW⟩
        case measure => simp [intOf]; omega
      · have e := Lib.hid (HY.out hD)
        clear hD
        go_wp2_with (at_builtin; refine append_pair w.heap.size _ w2 _ ((ps.take k).filter d) x y rfl _ _ rfl rfl rfl (by simp) ho2 hzW (by omega) ?_; intro v' w3 ho3 hb3)
        go_roundw
        case rel => exact ⟨k + 1, by omega, by go_num, by rw [e.out]; exact ho3, hbW.trans hb3⟩
        case measure => simp [intOf]; omega
    · have hk2 : k = ps.length := by omega
      rw [hk2, List.take_length] at ho
      clear hk2
      obtain ⟨sa, sc, sb, rfl, -⟩ := pair_shape ho
      go_wp2_with fail
      go_ret
      exact ⟨_, rfl, ho, hb⟩
end Go.Proofs.YtcahecohjmahaaaDoor
