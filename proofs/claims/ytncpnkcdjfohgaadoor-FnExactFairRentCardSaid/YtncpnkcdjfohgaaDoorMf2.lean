import Derived.RegionTactic
import Derived.Test.YtncpnkcdjfohgaaDoorMf1
import Derived.Test.YtncpnkcdjfohgaaDoorMd3
namespace Go.Proofs.YtncpnkcdjfohgaaDoor
open Go.RowKit
set_option maxRecDepth 4000
/-- A flat as it lies in memory. -/
def flF (n : Int) (g : Nat → Int) (q : Nat) : Int := if q = 0 then n else g (q - 1)
def flA (n : Int) (g : Nat → Int) : Array Value := arrF 10 (flF n g)
theorem flA_size (n : Int) (g : Nat → Int) : (flA n g).size = 10 := arrF_size _ _
theorem flA_one (n : Int) (g : Nat → Int) : (flA n g).all (·.oneCell') = true := arrF_one _ _
def zeroF : Array Value := arrF 10 fun _ => 0
theorem zeroF_size : zeroF.size = 10 := arrF_size _ _
theorem zeroF_one : zeroF.all (·.oneCell') = true := arrF_one _ _
theorem blkFlat : Blk 72 10 := ⟨.inl ⟨_, Tryd.underlying72⟩, by kernel_rfl⟩
theorem run_alloc_flat (w : World) : (Instr.alloc 72 true (.tuple #[])).run Tryd.prog w = .ok (.pointer (some ⟨w.heap.size, 0, none⟩)) (w.alloc (.cells zeroF 72)) := by kernel_rfl
theorem run_build0_flat (w : World) : (Instr.build 72 #[]).run Tryd.prog w = .ok (.agg zeroF) w := by kernel_rfl
theorem run_build_flat (n : Int) (g : Nat → Int) (w : World) : (Instr.build 72 #[(0, .agg #[.int .i64 n]), (1, .agg (arrF 9 g))]).run Tryd.prog w = .ok (.agg (flA n g)) w := by kernel_rfl
theorem fl_range {w : World} {b : Nat} {n : Int} {g : Nat → Int} (h : w.heap[b]? = some (.cells (flA n g) 72 (0, 0))) : w.rangeAt b 1 (arrF 9 g).toList := fun j u hj => by
  rw [Array.getElem?_toList] at hj
  have hlt : j < 9 := by have := (Array.getElem?_eq_some_iff.1 hj).1; rwa [arrF_size] at this
  rw [arrF_at 9 g j hlt] at hj
  refine blk_cell h (1 + j) u ?_
  rw [flA, arrF_at 10 _ _ (by omega), flF, if_neg (by omega), show 1 + j - 1 = j by omega]
  exact hj
section
variable {ops : Array Oper} {rest : List Oper} {o : Oper} {a : Act} {w : World} {Q : Exit → Act → World → Prop}
theorem build0_flat (hgd : o.guard = none) (ho : o.op = .build 72 #[])
    (h : wpList Tryd.prog ops Q rest (a.put o.dst (.agg zeroF)) w) : wpList Tryd.prog ops Q (o :: rest) a w := by
  refine wpList_plain hgd fun K hK => ?_
  unfold Oper.wp
  simp [execOp, ho, run_build0_flat, Result.andThen]
  exact hK _ _ h
theorem build_flat {n : Int} {r fa : Array Value} (hb : ∀ w : World, (Instr.build 72 #[(0, .agg #[.int .i64 n]), (1, .agg r)]).run Tryd.prog w = .ok (.agg fa) w) (hgd : o.guard = none) (x y : Operand) (ho : o.op = .build 72 #[(0, x), (1, y)])
    (hx : a.eval x = .agg #[.int .i64 n]) (hy : a.eval y = .agg r) (h : wpList Tryd.prog ops Q rest (a.put o.dst (.agg fa)) w) : wpList Tryd.prog ops Q (o :: rest) a w := by
  refine wpList_plain hgd fun K hK => ?_
  unfold Oper.wp
  simp [execOp, ho, hx, hy, hb, Result.andThen]
  exact hK _ _ h
end
section
variable {P : Program} {ops : Array Oper} {S : World → Prop} {Q : Exit → Act → World → Prop}
theorem mix_val {sole rest : List Nat} {a : Act} {w : World} (i : Nat) (o : Oper) (hi : sole.contains i = true) (ho : ops[i]? = some o) (hw : Region.wanted o (yielded ops a.tmps) = true) (d : Option Tmp) (hd : o.dst = d) (v : Value)
    (hr : (execOp a.eval o).run P w = .ok (.value v) w) (h : S w ∧ wpMix P ops S Q sole rest (a.put d v) w) : wpMix P ops S Q sole (i :: rest) a w := by
  subst hd
  refine mix_sole i o hi ho (fun K' hK => ?_)
  rw [if_pos hw]
  unfold Oper.wp
  rw [hr]
  exact hK _ _ h
end
set_option maxHeartbeats 3200000 in
theorem flatOffers_any (n i : Nat) (h1 : 1 ≤ n) (h2 : n ≤ 8) (hi : i < Pr.cnt n) (g : Nat → Int) (hgb : ∀ q, q < 9 → -1000 ≤ g q ∧ g q ≤ 1000) (gg : Nat → Int) (hgg : ∀ q, q < 9 → gg q = g q - costP n i (q % 3)) (w : World) :
    Calls Tryd.prog 76 #[.agg (flA n g), .agg #[.int .i64 ((n : Int) - (Pr.R i : Nat)), .int .i64 ((Pr.R i : Int) - (Pr.C i : Nat)), .int .i64 (Pr.C i : Nat)]] w fun e w' => e = .returned (.agg (arrF 9 gg)) ∧ Below w.heap.size w w' := by
  have hc := (Pr.cnt_le n (by omega)).1
  have hR := Pr.R_le_of_lt n (by omega) i hi
  have hC := (Pr.RC_bd i (by omega)).1
  have HSZ : Hid (∀ k, k < 3 → ([(n : Int) - (Pr.R i : Nat), (Pr.R i : Int) - (Pr.C i : Nat), (Pr.C i : Nat)] : List Int).getD k 0 = costP n i k) := Lib.hid (fun k hk => sz3_pt n i k hR hC hk)
  have HCB := Lib.hid (fun k => costP_bd n i k h2 hi)
  have HGB := Lib.hid hgb
  have HGG := Lib.hid hgg
  clear hR hC hc hgb hgg
  generalize costP n i = c at *
  generalize (n : Int) - (Pr.R i : Nat) = ea at *
  generalize (Pr.R i : Int) - (Pr.C i : Nat) = eb at *
  generalize ((Pr.C i : Nat) : Int) = ec at *
  have hrg : (((w.alloc (.cells (flA n g) 72)).alloc (.cells #[.int .i64 ea, .int .i64 eb, .int .i64 ec] 75)).alloc (.cells zeroO 70)).rangeAt w.heap.size 1 (arrF 9 g).toList := World.rangeAt_alloc (World.rangeAt_alloc (fl_range (heap_alloc_new w _)) _) _
  generalize flA n g = fa at *
  have hg4 : ((((w.alloc (.cells fa 72)).alloc (.cells #[.int .i64 ea, .int .i64 eb, .int .i64 ec] 75)).alloc (.cells zeroO 70)).alloc (.cells zeroO 70)).heap[w.heap.size + 3]? = some (.cells zeroO 70 (0, 0)) := by
    have e := heap_alloc_new (((w.alloc (.cells fa 72)).alloc (.cells #[.int .i64 ea, .int .i64 eb, .int .i64 ec] 75)).alloc (.cells zeroO 70)) (.cells zeroO 70)
    rwa [World.size_alloc, World.size_alloc, World.size_alloc] at e
  have hg2 : ((((w.alloc (.cells fa 72)).alloc (.cells #[.int .i64 ea, .int .i64 eb, .int .i64 ec] 75)).alloc (.cells zeroO 70)).alloc (.cells zeroO 70)).heap[w.heap.size + 2]? = some (.cells zeroO 70 (0, 0)) := by
    rw [Below.heap_alloc _ _ _ (by simp)]
    have e := heap_alloc_new ((w.alloc (.cells fa 72)).alloc (.cells #[.int .i64 ea, .int .i64 eb, .int .i64 ec] 75)) (.cells zeroO 70)
    rwa [World.size_alloc, World.size_alloc] at e
  have hg1 : ((((w.alloc (.cells fa 72)).alloc (.cells #[.int .i64 ea, .int .i64 eb, .int .i64 ec] 75)).alloc (.cells zeroO 70)).alloc (.cells zeroO 70)).heap[w.heap.size + 1]? = some (.cells #[.int .i64 ea, .int .i64 eb, .int .i64 ec] 75 (0, 0)) := by
    rw [Below.heap_alloc _ _ _ (by simp), Below.heap_alloc _ _ _ (by simp)]
    have e := heap_alloc_new (w.alloc (.cells fa 72)) (.cells #[.int .i64 ea, .int .i64 eb, .int .i64 ec] 75)
    rwa [World.size_alloc] at e
  have hb4 : Below w.heap.size w ((((w.alloc (.cells fa 72)).alloc (.cells #[.int .i64 ea, .int .i64 eb, .int .i64 ec] 75)).alloc (.cells zeroO 70)).alloc (.cells zeroO 70)) := balloc (balloc (balloc (balloc (Below.refl _ _) _) _) _) _
  have hz4 : ((((w.alloc (.cells fa 72)).alloc (.cells #[.int .i64 ea, .int .i64 eb, .int .i64 ec] 75)).alloc (.cells zeroO 70)).alloc (.cells zeroO 70)).heap.size = w.heap.size + 4 := by simp
  go_enter Tryd.func76, Tryd.ntmps76
  go_wp2_with (first | ((with_reducible refine alloc_blk zeroO run_alloc_off rfl rfl ?_); simp only [World.size_alloc, Act.put, List.setIfInBounds_toArray, List.set_cons_zero, List.set_cons_succ]) | ((with_reducible refine load_rng blkOff ?_ _ rfl w.heap.size 1 ?_ (arrF 9 g) hrg (arrF_size _ _) ?_); exact rfl; exact rfl; simp only [Act.put, List.setIfInBounds_toArray, List.set_cons_zero, List.set_cons_succ]) | ((with_reducible refine store_blk blkOff rfl _ _ rfl (w.heap.size + 3) (arrF 9 g) zeroO ?_ ?_ hg4 zeroO_size (arrF_size _ _) (arrF_one _ _) (w.heap.size + 3) (Nat.le_refl _) ?_); exact rfl; exact rfl; intro w5 hg5 hb5 hk5 hz5))
  have hg15 := (hk5 (w.heap.size + 1) (by omega)).trans hg1
  have hg25 := (hk5 (w.heap.size + 2) (by omega)).trans hg2
  have hB5 : Below w.heap.size w w5 := hb4.trans (hb5.mono (by omega))
  rw [hz4] at hz5
  clear hk5 hb5 hb4 hz4 hg1 hg2 hg4 hrg
  go_loopw [11] (fun v11 wr => ∃ (p : Nat) (f : Nat → Int), p ≤ 3 ∧ v11 = .int .i64 p ∧ wr.heap[w.heap.size + 3]? = some (.cells (arrF 9 f) 70 (0, 0)) ∧ (∀ q, q < 9 → f q = if q / 3 < p then g q - c (q % 3) else g q) ∧
      wr.heap[w.heap.size + 1]? = some (.cells #[.int .i64 ea, .int .i64 eb, .int .i64 ec] 75 (0, 0)) ∧ wr.heap[w.heap.size + 2]? = some (.cells zeroO 70 (0, 0)) ∧ Below w.heap.size w wr ∧ w.heap.size + 4 ≤ wr.heap.size) (fun v11 _ => 3 - (intOf v11).toNat)
  case atStart => exact ⟨0, g, by omega, rfl, hg5, fun q _ => by rw [if_neg (by omega)], hg15, hg25, hB5, by omega⟩
  case round =>
    clear hg5 hg15 hg25 hB5 hz5
    obtain ⟨p, f, hp, rfl, hg, hf, hg1, hg2, hb, hz⟩ := hrel
    obtain ⟨wq, rfl⟩ : ∃ wq : World, wq = wr := ⟨_, rfl⟩
    have HF := Lib.hid hf
    have HG1 := Lib.hid hg1
    have HG2 := Lib.hid hg2
    clear hf hg1 hg2
    by_cases hlt : p < 3
    · have hpi : (p : Int) < 3 := by omega
      go_wp2_with ((with_reducible refine load_blk blkSpot ?_ _ rfl (w.heap.size + 1) ?_ (#[.int .i64 ea, .int .i64 eb, .int .i64 ec]) HG1.out (rfl) ?_); exact rfl; exact rfl; simp only [Act.put, List.setIfInBounds_toArray, List.set_cons_zero, List.set_cons_succ])
      go_loopw [15] (fun v15 wr => ∃ (r : Nat) (f : Nat → Int), r ≤ 3 ∧ v15 = .int .i64 r ∧ wr.heap[w.heap.size + 3]? = some (.cells (arrF 9 f) 70 (0, 0)) ∧ (∀ q, q < 9 → f q = if q / 3 < p ∨ (q / 3 = p ∧ q % 3 < r) then g q - c (q % 3) else g q) ∧
          wr.heap[w.heap.size + 1]? = some (.cells #[.int .i64 ea, .int .i64 eb, .int .i64 ec] 75 (0, 0)) ∧ wr.heap[w.heap.size + 2]? = some (.cells zeroO 70 (0, 0)) ∧ Below w.heap.size w wr ∧ w.heap.size + 4 ≤ wr.heap.size) (fun v15 _ => 3 - (intOf v15).toNat)
      case atStart => exact ⟨0, f, by omega, rfl, hg, fun q hq => by rw [HF.out q hq]; congr 1; simp, HG1.out, HG2.out, hb, hz⟩
      case round =>
        clear hg HG1 HG2 hb hz HF
        obtain ⟨r, f, hr, rfl, hg, hf, hg1, hg2, hb, hz⟩ := hrel
        obtain ⟨wi, rfl⟩ : ∃ wi : World, wi = wr := ⟨_, rfl⟩
        have HF := Lib.hid hf
        have HG := Lib.hid hg
        have HG1 := Lib.hid hg1
        have HG2 := Lib.hid hg2
        clear hf hg1 hg2 hg
        by_cases hltr : r < 3
        · have hri : (r : Int) < 3 := by omega
          have hidx := idx3' ea eb ec r hltr
          rw [HSZ.out r hltr] at hidx
          have hcell := blk_cell HG.out (p * 3 + r) _ (arrF_at 9 f _ (by omega))
          rw [show f (p * 3 + r) = g (p * 3 + r) by rw [HF.out _ (by omega), if_neg (by omega)]] at hcell
          have hxb := HGB.out (p * 3 + r) (by omega)
          have hyb := HCB.out r
          go_wp2_with fail
          refine wp_region_mix (fun _ => True) [4, 9] [0, 1, 2, 3, 5, 7, 4, 6, 8, 9] (by kernel_rfl) (by kernel_rfl) (fun _ _ d _ _ h => by cases d <;> exact h) (by kernel_rfl) rfl trivial ?_
          refine mix_take 0 _ ?_ rfl rfl rfl (some 19) rfl (fun w' hw' => ?hv0) ?_
          case hv0 =>
            go_simp
            with_reducible rfl
          simp only [Act.put, List.setIfInBounds_toArray, List.set_cons_zero, List.set_cons_succ]
          refine mix_take 1 _ ?_ rfl rfl rfl (some 20) rfl (fun w' hw' => ?hv1) ?_
          case hv1 =>
            go_simp
            with_reducible rfl
          simp only [Act.put, List.setIfInBounds_toArray, List.set_cons_zero, List.set_cons_succ]
          refine mix_take 2 _ ?_ rfl rfl rfl (some 21) rfl (fun w' hw' => ?hv2) ?_
          case hv2 =>
            go_simp
            with_reducible rfl
          simp only [Act.put, List.setIfInBounds_toArray, List.set_cons_zero, List.set_cons_succ]
          refine mix_take 3 _ ?_ rfl rfl rfl (some 22) rfl (fun w' hw' => ?hv3) ?_
          case hv3 =>
            go_simp
            with_reducible rfl
          simp only [Act.put, List.setIfInBounds_toArray, List.set_cons_zero, List.set_cons_succ]
          refine mix_take 5 _ ?_ rfl rfl rfl (some 24) rfl (fun w' hw' => ?hv5) ?_
          case hv5 =>
            go_simp
            with_reducible rfl
          simp only [Act.put, List.setIfInBounds_toArray, List.set_cons_zero, List.set_cons_succ]
          refine mix_take 7 _ ?_ rfl rfl rfl (some 26) rfl (fun w' hw' => ?hv7) ?_
          case hv7 =>
            go_simp
            with_reducible rfl
          simp only [Act.put, List.setIfInBounds_toArray, List.set_cons_zero, List.set_cons_succ]
          refine mix_val 4 _ rfl rfl rfl (some 23) rfl (.int .i64 (g (p * 3 + r))) ?hv4 ⟨trivial, ?_⟩
          case hv4 =>
            have s0 : wi.drew.cell? ⟨w.heap.size + 3, p * 3 + r, none⟩ = some (.int .i64 (g (p * 3 + r))) := hcell
            go_simp
          simp only [Act.put, List.setIfInBounds_toArray, List.set_cons_zero, List.set_cons_succ]
          refine mix_take 6 _ ?_ rfl rfl rfl (some 25) rfl (fun w' hw' => ?hv6) ?_
          case hv6 =>
            go_simp
            with_reducible rfl
          simp only [Act.put, List.setIfInBounds_toArray, List.set_cons_zero, List.set_cons_succ]
          refine mix_take 8 _ ?_ rfl rfl rfl (some 27) rfl (fun w' hw' => ?hv8) ?_
          case hv8 =>
            go_simp
            with_reducible rfl
          simp only [Act.put, List.setIfInBounds_toArray, List.set_cons_zero, List.set_cons_succ]
          have HE : Hid (∀ q, q < 9 → (if q = p * 3 + r then g (p * 3 + r) - c r else f q) = if q / 3 < p ∨ (q / 3 = p ∧ q % 3 < r + 1) then g q - c (q % 3) else g q) := Lib.hid (fun q hq => by
            by_cases e : q = p * 3 + r
            · rw [if_pos e, if_pos (by omega), show q % 3 = r by omega, e]
            · rw [if_neg e, HF.out q hq]
              congr 1
              simp only [eq_iff_iff]
              omega)
          have HS := Lib.hid (heap_setCell_same wi.drew (w.heap.size + 3) (p * 3 + r) _ _ (.int .i64 (g (p * 3 + r) - c r)) HG.out)
          rw [arrF_set 9 f (p * 3 + r) _ (by omega)] at HS
          generalize g (p * 3 + r) = x at *
          generalize c r = y at *
          refine mix_store_cell 9 _ rfl rfl rfl 3 _ _ rfl none rfl (by kernel_rfl) (w.heap.size + 3) (p * 3 + r) (x - y) ?hx ?hy (arrF 9 f) 70 HG.out (by rw [arrF_size]; omega) ⟨?hS, ?_⟩
          case hx => exact rfl
          case hy =>
            have hwr : IntKind.i64.wrap (x - y) = x - y := by
              simp only [IntKind.wrap, IntKind.bits, IntKind.signed]
              simp
              omega
            exact congrArg (Value.int .i64) hwr
          case hS => trivial
          have hg16 := (Below.heap_setCell wi.drew ⟨w.heap.size + 3, p * 3 + r, none⟩ (.int .i64 (x - y)) (w.heap.size + 1) (by show w.heap.size + 1 ≠ w.heap.size + 3; omega)).trans HG1.out
          have hg26 := (Below.heap_setCell wi.drew ⟨w.heap.size + 3, p * 3 + r, none⟩ (.int .i64 (x - y)) (w.heap.size + 2) (by show w.heap.size + 2 ≠ w.heap.size + 3; omega)).trans HG2.out
          have hB6 := (hb.trans ((Same.refl wi).drew _)).setCell (p := ⟨w.heap.size + 3, p * 3 + r, none⟩) (by show w.heap.size ≤ w.heap.size + 3; omega) (.int .i64 (x - y))
          have hz6 : w.heap.size + 4 ≤ (wi.drew.setCell ⟨w.heap.size + 3, p * 3 + r, none⟩ (.int .i64 (x - y))).heap.size := by rw [World.size_setCell]; exact hz
          refine mix_done ?_
          go_wp2_with fail
          go_roundw
          case rel => exact ⟨r + 1, _, by omega, by go_num, HS.out, HE.out, hg16, hg26, hB6, hz6⟩
          case measure => simp [intOf]; omega
        · have hr3 : r = 3 := by omega
          have HE : Hid (∀ q, q < 9 → f q = if q / 3 < p + 1 then g q - c (q % 3) else g q) := Lib.hid (fun q hq => by
            rw [HF.out q hq]
            congr 1
            simp only [eq_iff_iff]
            omega)
          clear HF hr3
          go_wp2_with fail
          go_roundw
          case rel => exact ⟨p + 1, f, by omega, by go_num, HG.out, HE.out, HG1.out, HG2.out, hb, hz⟩
          case measure => simp [intOf]; omega
    · have hp3 : p = 3 := by omega
      have HE : Hid (arrF 9 f = arrF 9 gg) := Lib.hid (arrF_congr 9 (fun q hq => by rw [HF.out q hq, if_pos (by omega), HGG.out q hq]))
      rw [HE.out] at hg
      clear hp3 HF HE
      go_wp2_with (first | ((with_reducible refine load_blk blkOff ?_ _ rfl (w.heap.size + 3) ?_ (arrF 9 gg) hg (arrF_size _ _) ?_); exact rfl; exact rfl; simp only [Act.put, List.setIfInBounds_toArray, List.set_cons_zero, List.set_cons_succ]) | ((with_reducible refine store_blk blkOff rfl _ _ rfl (w.heap.size + 2) (arrF 9 gg) zeroO ?_ ?_ HG2.out zeroO_size (arrF_size _ _) (arrF_one _ _) (w.heap.size + 2) (Nat.le_refl _) ?_); exact rfl; exact rfl; intro w7 hg7 hb7 _ _; have hB7 := hb.trans (hb7.mono (by omega))))
      exact bodyPost_ret (results_blk1 blkOff rfl _ _ (w.heap.size + 2) _ rfl hg7 (arrF_size _ _)) rfl ⟨rfl, hB7⟩
end Go.Proofs.YtncpnkcdjfohgaaDoor
