import Derived.Test.YtokhpchnnilbaaaN20
import Derived.Test.YtokhpchnnilbaaaN11
namespace Go.Proofs.Ytokhpchnnilbaaa
open Go.RowKit
set_option maxRecDepth 4000
theorem l1Own_all9 (xs : List Int) (hl : xs.length ≤ 1000000) (a : Option Addr) (cap B : Nat) (w : World) (h : RdS w B a xs) (hB : B ≤ w.heap.size) (hnil : xs.length = 0 → a = none ∧ cap = 0) :
    Calls Try.prog 78 #[.slice a xs.length cap] w fun e w' => ∃ v, e = .returned v ∧ w'.ownsRow w.heap.size 3 1 v xs.length (xs.map (Value.int .i64)) ∧ Below w.heap.size w w' := by
  rcases Nat.eq_zero_or_pos xs.length with h0 | h0
  · obtain ⟨rfl, rfl⟩ := hnil h0
    have e : xs = [] := List.eq_nil_of_length_eq_zero h0
    subst e
    exact l1Own_nil9 w
  · exact l1Own_pos9 xs h0 hl a cap B w h hB
/-- The fair lists of k cuts more behind some, the next one from f on. -/
def spC (s : ByteArray) (cuts : List Int) (k f : Nat) : List (List Int) := ((cl s.size k f).map (fun l => cuts ++ l)).filter (fairB s)
theorem clF_mapF (g : Nat → List (List Int)) (P : List Int → Bool) (h : List Int → List Int) (f : Nat) : ∀ m, ((clF g f m).map h).filter P = clF (fun x => ((g x).map h).filter P) f m
  | 0 => rfl
  | m + 1 => by simp only [clF, List.map_append, List.filter_append, clF_mapF g P h f m]
theorem spC_succ (s : ByteArray) (cuts : List Int) (k f : Nat) : spC s cuts (k + 1) f = clF (fun x => spC s (cuts ++ [(x : Int)]) k (x + 1)) f (s.size - f) := by
  unfold spC
  simp only [cl]
  rw [clF_mapF]
  congr 1
  funext x
  rw [List.map_map]
  congr 2
  funext l
  simp
theorem spC_zero (s : ByteArray) (cuts : List Int) (f : Nat) : spC s cuts 0 f = if fairB s cuts = true then [cuts] else [] := by
  simp [spC, cl, List.filter_cons]
theorem spC_len (s : ByteArray) (h16 : s.size ≤ 16) (cuts : List Int) (k f : Nat) (hk : k ≤ 4) : (spC s cuts k f).length ≤ 65536 := by
  unfold spC
  refine Nat.le_trans (List.length_filter_le _ _) ?_
  rw [List.length_map]
  exact Nat.le_trans (cl_len s.size h16 k f) (by rcases (by omega : k = 0 ∨ k = 1 ∨ k = 2 ∨ k = 3 ∨ k = 4) with rfl | rfl | rfl | rfl | rfl <;> decide)
theorem spC_row (s : ByteArray) (cuts : List Int) (k f : Nat) : ((spC s cuts k f).headD []).length ≤ cuts.length + k := by
  cases e : spC s cuts k f with
  | nil => simp
  | cons l t =>
    have hm : l ∈ spC s cuts k f := by rw [e]; simp
    unfold spC at hm
    obtain ⟨l', h1, rfl⟩ := List.mem_map.1 (List.mem_filter.1 hm).1
    simp [cl_row s.size k f l' h1]
/-- What nlSplits answers. -/
def SpV (w : World) (ls : List (List Int)) (e : Ending) (w' : World) : Prop :=
  ∃ v, e = .returned (.tuple #[v, .int .i64 (ls.length : Nat)]) ∧ w'.ownsRow w.heap.size 3 1 v (ls.headD []).length ((ls.headD []).map (Value.int .i64)) ∧ Below w.heap.size w w'
set_option maxHeartbeats 3200000 in
theorem nlSplits_zero (s : ByteArray) (hg : goodS s = true) (cuts : List Int) (hc : cuts.length ≤ 1000) (a : Option Addr) (cap f : Nat) (w : World) (h : RdS w w.heap.size a cuts) (hnil : cuts.length = 0 → a = none ∧ cap = 0) :
    Calls Try.prog 63 #[.string s, .slice a cuts.length cap, .int .i64 0] w (SpV w (spC s cuts 0 f)) := by
  have HF := Lib.hid (nlFair_any s hg cuts a cap w h)
  have HO : Hid (∀ w', Below w.heap.size w w' → _) := Lib.hid (fun w' (hb : Below w.heap.size w w') => l1Own_all9 cuts (by omega) a cap _ w' (rds_later h hb) hb.size hnil)
  rw [spC_zero]
  clear h hg hnil
  cases hf : fairB s cuts
  · rw [hf] at HF
    have e : (if false = true then [cuts] else ([] : List (List Int))) = [] := rfl
    rw [e]
    clear hf e
    go_enter Try.func63, Try.ntmps63
    go_wp2_with fail
    refine HF.out.mono ?_
    rintro e w1 ⟨rfl, hb⟩
    go_wp2_with fail
    go_returns
    exact ⟨_, rfl, World.ownsRow_nil _ _ _ _, hb⟩
  · rw [hf] at HF
    have e : (if true = true then [cuts] else ([] : List (List Int))) = [cuts] := rfl
    rw [e]
    clear hf e
    go_enter Try.func63, Try.ntmps63
    go_wp2_with fail
    refine HF.out.mono ?_
    rintro e w1 ⟨rfl, hb⟩
    have HO1 := Lib.hid (HO.out w1 hb)
    have hz := hb.size
    go_wp2_with fail
    refine HO1.out.mono ?_
    rintro e w2 ⟨v, rfl, ho, hb2⟩
    go_wp2_with fail
    go_returns
    exact ⟨_, rfl, own_low9 ho hz, bnext hb hb2⟩
theorem oi_lo9b {w : World} {base : Nat} {v : Value} {xs : List Int} (h : w.ownsRow base 3 1 v xs.length (xs.map (Value.int .i64))) : OI w base w.heap.size v xs := ⟨_, h, own_lt h⟩
theorem getD_last9 (l : List Int) (x : Int) : (l ++ [x]).getD ((l ++ [x]).length - 1) 0 = x := by simp [List.getD]
theorem head_app (A B : List (List Int)) : (A ++ B).headD [] = if A.length = 0 then B.headD [] else A.headD [] := by
  cases A with
  | nil => rfl
  | cons a t => rfl
set_option maxHeartbeats 6400000 in
theorem nlSplits_any (s : ByteArray) (hg : goodS s = true) : ∀ (k : Nat) (cuts : List Int), cuts.length + k ≤ 4 → ∀ (f : Nat), f ≤ 17 → (cuts.length = 0 ∧ f = 1 ∨ 0 < cuts.length ∧ cuts.getD (cuts.length - 1) 0 + 1 = (f : Int)) → ∀ (a : Option Addr) (cap : Nat) (w : World), RdS w w.heap.size a cuts → (cuts.length = 0 → a = none ∧ cap = 0) →
    Calls Try.prog 63 #[.string s, .slice a cuts.length cap, .int .i64 (k : Nat)] w (SpV w (spC s cuts k f))
  | 0, cuts, hc, f, _, _, a, cap, w, h, hnil => nlSplits_zero s hg cuts (by omega) a cap f w h hnil
  | k + 1, cuts, hc, f, hf, hfrom, a, cap, w, h, hnil => by
    have h16 := (goodS_at hg).1
    have IH : Hid (∀ (x : Nat), x < s.size → ∀ (a' : Option Addr) (cap' : Nat) (w' : World), RdS w' w'.heap.size a' (cuts ++ [(x : Int)]) → Calls Try.prog 63 #[.string s, .slice a' (cuts ++ [(x : Int)]).length cap', .int .i64 (k : Nat)] w' (SpV w' (spC s (cuts ++ [(x : Int)]) k (x + 1)))) := Lib.hid (fun x hx a' cap' w' h' =>
      nlSplits_any s hg k (cuts ++ [(x : Int)]) (by simp; omega) (x + 1) (by omega) (.inr ⟨by simp, by rw [getD_last9]; push_cast; rfl⟩) a' cap' w' h' (fun h => by simp at h))
    have HO : Hid (∀ w', Below w.heap.size w w' → Calls Try.prog 78 #[.slice a cuts.length cap] w' fun e w'' => ∃ v, e = .returned v ∧ w''.ownsRow w'.heap.size 3 1 v cuts.length (cuts.map (Value.int .i64)) ∧ Below w'.heap.size w' w'') := Lib.hid (fun w' (hb : Below w.heap.size w w') => l1Own_all9 cuts (by omega) a cap _ w' (rds_later h hb) hb.size hnil)
    have HSL : Hid (∀ x : Nat, (spC s (cuts ++ [(x : Int)]) k (x + 1)).length ≤ 65536) := Lib.hid (fun x => spC_len s h16 _ k _ (by omega))
    obtain ⟨g, hgd⟩ : ∃ g : Nat → List (List Int), g = fun (x : Nat) => spC s (cuts ++ [(x : Int)]) k (x + 1) := ⟨_, rfl⟩
    have HG : Hid (∀ x : Nat, spC s (cuts ++ [(x : Int)]) k (x + 1) = g x) := Lib.hid (fun x => by rw [hgd])
    have HV : Hid (spC s cuts (k + 1) f = clF g f (s.size - f)) := Lib.hid (by rw [hgd]; exact spC_succ s cuts k f)
    have HFL : Hid (∀ m, m ≤ 16 → (clF g f m).length ≤ 16 * 65536) := Lib.hid (fun m hm => Nat.le_trans (clF_len g f 65536 (fun x => by rw [← HG.out x]; exact HSL.out _) m) (Nat.mul_le_mul_right _ hm))
    have HF0 : Hid (clF g f 0 = []) := Lib.hid rfl
    have HFS : Hid (∀ m, clF g f (m + 1) = clF g f m ++ g (f + m)) := Lib.hid (fun m => rfl)
    have HV2 : Hid (∀ m, m ≤ s.size - f → ¬ f + m < s.size → clF g f m = clF g f (s.size - f)) := Lib.hid (fun m h1 h2 => by
      have : m = s.size - f := by omega
      rw [← this])
    rw [HV.out]
    clear hgd
    generalize clF g f = G at *
    have HW1 : Hid (wrap64 ((((k + 1 : Nat) : Int)) - 1) = (k : Int)) := Lib.hid (by rw [show (((k + 1 : Nat) : Int)) - 1 = (k : Int) by omega]; exact IntWalk.wrap64_in _ ⟨by omega, by omega⟩)
    have hk0 : (((k + 1 : Nat) : Int) == 0) = false := by rw [beq_eq_false_iff_ne]; omega
    have HK0 := Lib.hid hk0
    -- behind the start
    have START : Hid (∀ (c : Nat), c ≤ 4 → True) := Lib.hid (fun _ _ => trivial)
    rcases Nat.eq_zero_or_pos cuts.length with hc0 | hc0
    · have hf1 : f = 1 := by omega
      obtain ⟨rfl, rfl⟩ := hnil hc0
      have hlen0 : ¬ (0 : Int) < (cuts.length : Int) := by omega
      rw [hc0] at HO
      rw [hc0]
      have HC0 := Lib.hid hc0
      clear h hnil hfrom hg hk0
      have hk0 := HK0.out
      have HF1 := Lib.hid hf1
      clear hf1
      go_enter Try.func63, Try.ntmps63
      go_wp2_with fail
      go_loopw [9, 10, 11] (fun v9 v10 v11 wr => ∃ m : Nat, m ≤ s.size - f ∧ v11 = .int .i64 ((f + m : Nat) : Int) ∧ v10 = .int .i64 ((G m).length : Nat) ∧ wr.ownsRow w.heap.size 3 1 v9 ((G m).headD []).length (((G m).headD []).map (Value.int .i64)) ∧ Below w.heap.size w wr) (fun _ _ v11 _ => s.size - (intOf v11).toNat)
      case atStart => exact ⟨0, Nat.zero_le _, by rw [HF1.out]; rfl, by rw [HF0.out]; rfl, by rw [HF0.out]; exact World.ownsRow_nil _ _ _ _, Below.refl _ _⟩
      case round =>
        obtain ⟨m, hm, rfl, rfl, ho9, hb⟩ := hrel
        obtain ⟨wq, hwq⟩ : ∃ wq : World, wq = wr := ⟨_, rfl⟩
        subst hwq
        obtain ⟨x, hx⟩ : ∃ x, x = f + m := ⟨_, rfl⟩
        rw [← hx]
        have hz := hb.size
        by_cases hlt : x < s.size
        · have hxi : (x : Int) < (s.size : Int) := by omega
          have HI := Lib.hid (fun a' cap' w' => IH.out x hlt a' cap' w')
          have hGx := HG.out x
          have hFS := HFS.out m
          rw [← hx] at hFS
          have HGL := Lib.hid (HFL.out m (by omega))
          have HSx := Lib.hid (HSL.out x)
          rw [hGx] at HSx HI
          have HX := Lib.hid hx
          have HO1 := Lib.hid (HO.out wq hb)
          have HO9 := Lib.hid ho9
          have HFSx := Lib.hid hFS
          have hw1 := HW1.out
          generalize g x = nx at *
          clear hGx hFS ho9 hx
          go_wp2_with fail
          refine HO1.out.mono ?_
          rintro e w1 ⟨v1, rfl, ho1, hb1⟩
          have hz1 := hb1.size
          go_wp2_with (at_builtin; go_loud (refine append_intg wq.heap.size _ w1 _ cuts (x : Int) rfl _ _ rfl rfl rfl rfl (by rw [HC0.out]; exact ho1) hz1 (by omega) ?_; intro v3 w3 ho3 hb3; obtain ⟨cV, bV, rfl, -, -, -⟩ := row_read ho3 (by simp); have hrd := (oi_shape (oi_lo9b ho3)); clear ho1))
          obtain ⟨ra3, rc3, rb3, he3, -, hrd3⟩ := hrd
          cases he3
          have HR3 := Lib.hid hrd3
          clear hw1
          have HI3 := Lib.hid (HI.out _ cV w3 HR3.out)
          rw [show (cuts ++ [(x : Int)]).length = 1 by rw [List.length_append, List.length_singleton]; rw [HC0.out]] at HI3
          refine HI3.out.mono ?_
          rintro e w4 ⟨v4, rfl, ho4, hb4⟩
          have hbq : Below wq.heap.size wq w4 := (hb1.trans hb3).trans (hb4.mono (by have := hb3.size; omega))
          have HO94 := Lib.hid (own_now HO9.out hbq)
          have HO4 := Lib.hid (own_low9 ho4 (show w.heap.size ≤ w3.heap.size by have := hb3.size; omega))
          have hbw := hb.trans (hbq.mono hz)
          have hgl := HGL.out
          have hnl := HSx.out
          have HH := Lib.hid (head_app (G m) nx)
          have HNE : Hid (nx.length = 0 → nx.headD [] = []) := Lib.hid (fun e => by rw [List.eq_nil_of_length_eq_zero e]; rfl)
          have HGE : Hid ((G m).length = 0 → (G m).headD [] = []) := Lib.hid (fun e => by rw [List.eq_nil_of_length_eq_zero e]; rfl)
          have HLN : Hid ((G (m + 1)).length = (G m).length + nx.length) := Lib.hid (by rw [HFSx.out, List.length_append])
          rw [← HFSx.out] at HH
          clear ho4 hb4 hb3 hb1 hb hbq
          by_cases hg0 : (G m).length = 0
          · by_cases hn0 : nx.length = 0
            · have HFIN : Hid (w4.ownsRow w.heap.size 3 1 _ ((G (m + 1)).headD []).length (((G (m + 1)).headD []).map (Value.int .i64))) := Lib.hid (by
                have := HO94.out
                rw [HGE.out hg0] at this
                rw [HH.out, if_pos hg0, HNE.out hn0]
                exact this)
              have hb0 : (((G m).length : Int) == 0) = true := by rw [beq_iff_eq]; omega
              have hb1 : ¬ (0 : Int) < (nx.length : Int) := by omega
              have HC : Hid (((G m).length : Int) + (nx.length : Int) = ((G (m + 1)).length : Nat)) := Lib.hid (by rw [HLN.out]; push_cast; rfl)
              clear hg0 hn0
              go_wp2_with fail
              go_roundw
              case rel => exact ⟨m + 1, by have := HX.out; omega, by have := HX.out; first | omega | (rw [this]; push_cast; omega) | (simp only [Value.int.injEq, true_and]; push_cast; omega) | done, by first | exact HC.out | rw [HC.out], HFIN.out, hbw⟩
              case measure => simp [intOf]; omega
            · have HFIN : Hid (w4.ownsRow w.heap.size 3 1 v4 ((G (m + 1)).headD []).length (((G (m + 1)).headD []).map (Value.int .i64))) := Lib.hid (by
                rw [HH.out, if_pos hg0]
                exact HO4.out)
              have hb0 : (((G m).length : Int) == 0) = true := by rw [beq_iff_eq]; omega
              have hb1 : (0 : Int) < (nx.length : Int) := by omega
              have HC : Hid (((G m).length : Int) + (nx.length : Int) = ((G (m + 1)).length : Nat)) := Lib.hid (by rw [HLN.out]; push_cast; rfl)
              clear hg0 hn0
              go_wp2_with fail
              go_roundw
              case rel => exact ⟨m + 1, by have := HX.out; omega, by have := HX.out; first | omega | (rw [this]; push_cast; omega) | (simp only [Value.int.injEq, true_and]; push_cast; omega) | done, by first | exact HC.out | rw [HC.out], HFIN.out, hbw⟩
              case measure => simp [intOf]; omega
          · have HFIN : Hid (w4.ownsRow w.heap.size 3 1 _ ((G (m + 1)).headD []).length (((G (m + 1)).headD []).map (Value.int .i64))) := Lib.hid (by
              rw [HH.out, if_neg hg0]
              exact HO94.out)
            have hb0 : (((G m).length : Int) == 0) = false := by rw [beq_eq_false_iff_ne]; omega
            have HC : Hid (((G m).length : Int) + (nx.length : Int) = ((G (m + 1)).length : Nat)) := Lib.hid (by rw [HLN.out]; push_cast; rfl)
            clear hg0
            go_wp2_with fail
            go_roundw
            case rel => exact ⟨m + 1, by have := HX.out; omega, by have := HX.out; first | omega | (rw [this]; push_cast; omega) | (simp only [Value.int.injEq, true_and]; push_cast; omega) | done, by first | exact HC.out | rw [HC.out], HFIN.out, hbw⟩
            case measure => simp [intOf]; omega
        · have hxi : ¬ (x : Int) < (s.size : Int) := by omega
          have HE := Lib.hid (HV2.out m hm (by omega))
          rw [HE.out] at ho9 ⊢
          clear hx
          go_wp2_with fail
          go_returns
          exact ⟨_, rfl, ho9, hb⟩
    · have hfc := (hfrom.resolve_left (by omega)).2
      obtain ⟨b0, off0, hr0, hb0⟩ := h
      obtain ⟨rfl, c0⟩ := hr0.2 (cuts.length - 1) (by omega)
      generalize hcl : cuts.getD (cuts.length - 1) 0 = last at *
      have hc0i : (0 : Int) < (cuts.length : Int) := by omega
      have hl1 : -1 ≤ last ∧ last ≤ 16 := by omega
      obtain ⟨hl1, hl2⟩ := hl1
      clear hr0 hnil hfrom hg hk0 hcl
      have hk0 := HK0.out
      have HFC := Lib.hid hfc
      clear hfc
      go_enter Try.func63, Try.ntmps63
      go_wp2_with fail
      clear hc0i
      go_loopw [9, 10, 11] (fun v9 v10 v11 wr => ∃ m : Nat, m ≤ s.size - f ∧ v11 = .int .i64 ((f + m : Nat) : Int) ∧ v10 = .int .i64 ((G m).length : Nat) ∧ wr.ownsRow w.heap.size 3 1 v9 ((G m).headD []).length (((G m).headD []).map (Value.int .i64)) ∧ Below w.heap.size w wr) (fun _ _ v11 _ => s.size - (intOf v11).toNat)
      case atStart => exact ⟨0, Nat.zero_le _, by first | rfl | (rw [HFC.out]; rfl), by rw [HF0.out]; rfl, by rw [HF0.out]; exact World.ownsRow_nil _ _ _ _, Below.refl _ _⟩
      case round =>
        obtain ⟨m, hm, rfl, rfl, ho9, hb⟩ := hrel
        obtain ⟨wq, hwq⟩ : ∃ wq : World, wq = wr := ⟨_, rfl⟩
        subst hwq
        obtain ⟨x, hx⟩ : ∃ x, x = f + m := ⟨_, rfl⟩
        rw [← hx]
        have hz := hb.size
        by_cases hlt : x < s.size
        · have hxi : (x : Int) < (s.size : Int) := by omega
          have HI := Lib.hid (fun a' cap' w' => IH.out x hlt a' cap' w')
          have hGx := HG.out x
          have hFS := HFS.out m
          rw [← hx] at hFS
          have HGL := Lib.hid (HFL.out m (by omega))
          have HSx := Lib.hid (HSL.out x)
          rw [hGx] at HSx HI
          have HX := Lib.hid hx
          have HO1 := Lib.hid (HO.out wq hb)
          have HO9 := Lib.hid ho9
          have HFSx := Lib.hid hFS
          have hw1 := HW1.out
          generalize g x = nx at *
          clear hGx hFS ho9 hx
          go_wp2_with fail
          refine HO1.out.mono ?_
          rintro e w1 ⟨v1, rfl, ho1, hb1⟩
          have hz1 := hb1.size
          go_wp2_with (at_builtin; go_loud (refine append_intg wq.heap.size _ w1 _ cuts (x : Int) rfl _ _ rfl rfl rfl rfl ho1 hz1 (by omega) ?_; intro v3 w3 ho3 hb3; obtain ⟨cV, bV, rfl, -, -, -⟩ := row_read ho3 (by simp); have hrd := (oi_shape (oi_lo9b ho3)); clear ho1))
          obtain ⟨ra3, rc3, rb3, he3, -, hrd3⟩ := hrd
          cases he3
          have HR3 := Lib.hid hrd3
          clear hw1
          have HI3 := Lib.hid (HI.out _ cV w3 HR3.out)
          rw [show (cuts ++ [(x : Int)]).length = cuts.length + 1 by rw [List.length_append, List.length_singleton]] at HI3
          refine HI3.out.mono ?_
          rintro e w4 ⟨v4, rfl, ho4, hb4⟩
          have hbq : Below wq.heap.size wq w4 := (hb1.trans hb3).trans (hb4.mono (by have := hb3.size; omega))
          have HO94 := Lib.hid (own_now HO9.out hbq)
          have HO4 := Lib.hid (own_low9 ho4 (show w.heap.size ≤ w3.heap.size by have := hb3.size; omega))
          have hbw := hb.trans (hbq.mono hz)
          have hgl := HGL.out
          have hnl := HSx.out
          have HH := Lib.hid (head_app (G m) nx)
          have HNE : Hid (nx.length = 0 → nx.headD [] = []) := Lib.hid (fun e => by rw [List.eq_nil_of_length_eq_zero e]; rfl)
          have HGE : Hid ((G m).length = 0 → (G m).headD [] = []) := Lib.hid (fun e => by rw [List.eq_nil_of_length_eq_zero e]; rfl)
          have HLN : Hid ((G (m + 1)).length = (G m).length + nx.length) := Lib.hid (by rw [HFSx.out, List.length_append])
          rw [← HFSx.out] at HH
          clear ho4 hb4 hb3 hb1 hb hbq
          by_cases hg0 : (G m).length = 0
          · by_cases hn0 : nx.length = 0
            · have HFIN : Hid (w4.ownsRow w.heap.size 3 1 _ ((G (m + 1)).headD []).length (((G (m + 1)).headD []).map (Value.int .i64))) := Lib.hid (by
                have := HO94.out
                rw [HGE.out hg0] at this
                rw [HH.out, if_pos hg0, HNE.out hn0]
                exact this)
              have hb0 : (((G m).length : Int) == 0) = true := by rw [beq_iff_eq]; omega
              have hb1 : ¬ (0 : Int) < (nx.length : Int) := by omega
              have HC : Hid (((G m).length : Int) + (nx.length : Int) = ((G (m + 1)).length : Nat)) := Lib.hid (by rw [HLN.out]; push_cast; rfl)
              clear hg0 hn0
              go_wp2_with fail
              go_roundw
              case rel =>
                refine ⟨_, _, _, _, _, _, _, _, _, _, _, _, _, _, _, _, _, _, _, _, _, _, _, _, _, _, _, _, _, _, _, _, _, ⟨m + 1, by have := HX.out; omega, ?_, ?_, HFIN.out, hbw⟩, rfl⟩
                · have := HX.out; rw [this]; push_cast; rfl
                · rw [HC.out]
              case measure => simp [intOf]; omega
            · have HFIN : Hid (w4.ownsRow w.heap.size 3 1 v4 ((G (m + 1)).headD []).length (((G (m + 1)).headD []).map (Value.int .i64))) := Lib.hid (by
                rw [HH.out, if_pos hg0]
                exact HO4.out)
              have hb0 : (((G m).length : Int) == 0) = true := by rw [beq_iff_eq]; omega
              have hb1 : (0 : Int) < (nx.length : Int) := by omega
              have HC : Hid (((G m).length : Int) + (nx.length : Int) = ((G (m + 1)).length : Nat)) := Lib.hid (by rw [HLN.out]; push_cast; rfl)
              clear hg0 hn0
              go_wp2_with fail
              go_roundw
              case rel =>
                refine ⟨_, _, _, _, _, _, _, _, _, _, _, _, _, _, _, _, _, _, _, _, _, _, _, _, _, _, _, _, _, _, _, _, _, ⟨m + 1, by have := HX.out; omega, ?_, ?_, HFIN.out, hbw⟩, rfl⟩
                · have := HX.out; rw [this]; push_cast; rfl
                · rw [HC.out]
              case measure => simp [intOf]; omega
          · have HFIN : Hid (w4.ownsRow w.heap.size 3 1 _ ((G (m + 1)).headD []).length (((G (m + 1)).headD []).map (Value.int .i64))) := Lib.hid (by
              rw [HH.out, if_neg hg0]
              exact HO94.out)
            have hb0 : (((G m).length : Int) == 0) = false := by rw [beq_eq_false_iff_ne]; omega
            have HC : Hid (((G m).length : Int) + (nx.length : Int) = ((G (m + 1)).length : Nat)) := Lib.hid (by rw [HLN.out]; push_cast; rfl)
            clear hg0
            go_wp2_with fail
            go_roundw
            case rel =>
              refine ⟨_, _, _, _, _, _, _, _, _, _, _, _, _, _, _, _, _, _, _, _, _, _, _, _, _, _, _, _, _, _, _, _, _, ⟨m + 1, by have := HX.out; omega, ?_, ?_, HFIN.out, hbw⟩, rfl⟩
              · have := HX.out; rw [this]; push_cast; rfl
              · rw [HC.out]
            case measure => simp [intOf]; omega
        · have hxi : ¬ (x : Int) < (s.size : Int) := by omega
          have HE := Lib.hid (HV2.out m hm (by omega))
          rw [HE.out] at ho9 ⊢
          clear hx
          go_wp2_with fail
          go_returns
          exact ⟨_, rfl, ho9, hb⟩
end Go.Proofs.Ytokhpchnnilbaaa
