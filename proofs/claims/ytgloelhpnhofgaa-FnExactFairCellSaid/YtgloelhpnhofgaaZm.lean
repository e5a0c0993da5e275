import Derived.Test.YtgloelhpnhofgaaZa
import Derived.Test.YtgloelhpnhofgaaZc
import Derived.Test.YtgloelhpnhofgaaZd
import Derived.Test.YtgloelhpnhofgaaZf
import Derived.Test.YtgloelhpnhofgaaZl
import Derived.RegionTactic
namespace Go.Proofs.Ytgloelhpnhofgaa
open Go.RowKit
set_option maxRecDepth 4000
section
variable {P : Program} {ops : Array Oper} {S : World → Prop} {Q : Exit → Act → World → Prop}
theorem mix_store_cell {sole rest : List Nat} {a : Act} {w : World} (i : Nat) (o : Oper) (hi : sole.contains i = true) (ho : ops[i]? = some o) (hgd : o.guard = none) (ty : TypeId) (x y : Operand) (hop : o.op = .store ty x y) (d : Option Tmp) (hd : o.dst = d) (hsz : (P.info? ty).map (·.size) = some 1)
    (g k : Nat) (v : Int) (hx : a.eval x = .pointer (some ⟨g, k, none⟩)) (hy : a.eval y = .int .i64 v) (old : Array Value) (t : TypeId) (hg : w.heap[g]? = some (.cells old t (0, 0))) (hfit : k < old.size)
    (h : S (w.setCell ⟨g, k, none⟩ (.int .i64 v)) ∧ wpMix P ops S Q sole rest (a.put d undef) (w.setCell ⟨g, k, none⟩ (.int .i64 v))) : wpMix P ops S Q sole (i :: rest) a w := by
  subst hd
  refine mix_sole i o hi ho (fun K' hK => ?_)
  rw [if_pos (by simp [Region.wanted, hgd])]
  have hst := run_storeCells_at (P := P) g k t [Value.int .i64 v] 0 old w hg (by simp; omega) (by simp [Value.oneCell'])
  rw [Nat.add_zero] at hst
  simp only [List.length_cons, List.length_nil, Nat.zero_add] at hst
  have hnew : (old.toList.take k ++ [Value.int .i64 v] ++ old.toList.drop (k + 1)).toArray = old.setIfInBounds k (Value.int .i64 v) := by
    apply Array.ext'
    rw [Array.toList_setIfInBounds, List.set_eq_take_append_cons_drop, if_pos (by simpa using hfit)]
    simp
  rw [hnew, ← setCell_eq_setRow w g k old t (0, 0) (Value.int .i64 v) hg] at hst
  have hrun : (storeVar ty ⟨g, k, none⟩ (.int .i64 v)).run P w = .ok () (w.setCell ⟨g, k, none⟩ (.int .i64 v)) := by
    cases hq : P.info? ty with
    | none => simp [hq] at hsz
    | some i =>
      have hs : i.size = 1 := by simpa [hq] using hsz
      simp [storeVar, sizeOf, typeInfo, hq, hs, Value.cells, hst]
  unfold Oper.wp execOp
  simp only [hop, hx, hy, Instr.storeAt, Instr.sureAddr, Sem.run_bind, Sem.run_pure, Result.andThen_ok, hrun]
  exact hK _ _ h
end
end Go.Proofs.Ytgloelhpnhofgaa

namespace Go.Proofs.Ytgloelhpnhofgaa
open Go.RowKit
set_option maxRecDepth 4000
theorem two_heap (w : World) (o o' : Obj) : ((w.alloc o).alloc o').heap[w.heap.size]? = some o ∧ ((w.alloc o).alloc o').heap[w.heap.size + 1]? = some o' := by
  constructor
  · rw [Below.heap_alloc _ _ _ (by simp)]
    exact heap_alloc_new w _
  · have e := heap_alloc_new (w.alloc o) o'
    rwa [World.size_alloc] at e
theorem load_ok {ty : TypeId} {n : Nat} (bk : Blk ty n) (w : World) (g : Nat) (cs : Array Value) (hg : w.heap[g]? = some (.cells cs ty (0, 0))) (hc : cs.size = n) : (loadVar ty ⟨g, 0, none⟩).run Try.prog w = .ok (.agg cs) w := by
  rcases bk.und with ⟨_, hu⟩ | ⟨_, _, hu⟩ <;> exact run_loadVar_row (P := Try.prog) w g ty ty cs (0, 0) _ hg hu rfl (by rw [bk.size, hc])
end Go.Proofs.Ytgloelhpnhofgaa

namespace Go.Proofs.Ytgloelhpnhofgaa
open Go.RowKit
set_option maxRecDepth 4000
theorem cakeArr : Try.prog.arrayLen 86 = 8 := by kernel_rfl
theorem cakeElem (w : World) : (sizeOf (Try.prog.elem 86)).run Try.prog w = .ok 3 w := by kernel_rfl
theorem slice_cake (g b s : Nat) (h : b + s ≤ 8) : ∃ off, (0 < s → off = 1 + 3 * b) ∧ ∀ w, (Instr.sliceAt 86 (.pointer (some ⟨g, 1, none⟩)) (some (.int .i64 (b : Nat))) (some (.int .i64 ((b : Int) + (s : Int)))) none).run Try.prog w = .ok (.slice (some ⟨g, off, none⟩) s (8 - b)) w := by
  have e : ∀ w, (Instr.sliceAt 86 (.pointer (some ⟨g, 1, none⟩)) (some (.int .i64 (b : Nat))) (some (.int .i64 ((b : Int) + (s : Int)))) none).run Try.prog w = .ok (slicedAt ⟨g, 1, none⟩ b (b + s) 8 3) w := by
    intro w
    have h := run_sliceAt_array_lh (P := Try.prog) w 86 ⟨g, 1, none⟩ Try.underlying86 .i64 .i64 (b : Nat) ((b : Int) + (s : Int)) (by omega) (by omega) (by rw [cakeArr]; omega)
    rw [h, cakeElem, Result.andThen_ok, cakeArr]
    congr 2
  by_cases hb : 8 = b
  · refine ⟨1, fun hs => by omega, fun w => ?_⟩
    rw [e w, slicedAt, if_pos hb]
    congr 2
    omega
  · refine ⟨1 + b * 3, fun hs => by omega, fun w => ?_⟩
    rw [e w, slicedAt, if_neg hb, Addr.add_lit]
    congr 2
    omega
end Go.Proofs.Ytgloelhpnhofgaa

namespace Go.Proofs.Ytgloelhpnhofgaa
open Go.RowKit
set_option maxRecDepth 4000
/-- Numbers as an array of so many cells. -/
def arrF (m : Nat) (f : Nat → Int) : Array Value := ((List.range m).map fun q => Value.int .i64 (f q)).toArray
theorem arrF_size (m : Nat) (f : Nat → Int) : (arrF m f).size = m := by simp [arrF]
theorem arrF_one (m : Nat) (f : Nat → Int) : (arrF m f).all (·.oneCell') = true := by
  simp only [arrF, List.all_toArray, List.all_map, List.all_eq_true]
  exact fun _ _ => rfl
theorem arrF_at (m : Nat) (f : Nat → Int) (q : Nat) (h : q < m) : (arrF m f)[q]? = some (.int .i64 (f q)) := by
  simp only [arrF, List.getElem?_toArray]
  rw [List.getElem?_map, List.getElem?_range h]
  rfl
theorem arrF_congr (m : Nat) {f g : Nat → Int} (h : ∀ q, q < m → f q = g q) : arrF m f = arrF m g := by
  unfold arrF
  congr 1
  exact List.map_congr_left fun q hq => by rw [h q (by simpa using hq)]
theorem arrF_set (m : Nat) (f : Nat → Int) (q : Nat) (x : Int) (h : q < m) : (arrF m f).setIfInBounds q (.int .i64 x) = arrF m (fun p => if p = q then x else f p) := by
  apply Array.ext_getElem?
  intro i
  rw [Array.getElem?_setIfInBounds]
  by_cases e : q = i
  · subst e
    rw [if_pos rfl, if_pos (by rw [arrF_size]; exact h), arrF_at _ _ _ h, if_pos rfl]
  · rw [if_neg e]
    by_cases hp : i < m
    · rw [arrF_at _ _ _ hp, arrF_at _ _ _ hp, if_neg (by omega)]
    · rw [Array.getElem?_eq_none (by rw [arrF_size]; omega), Array.getElem?_eq_none (by rw [arrF_size]; omega)]
def zeroO : Array Value := arrF 9 fun _ => 0
theorem zeroO_size : zeroO.size = 9 := arrF_size _ _
theorem zeroO_one : zeroO.all (·.oneCell') = true := arrF_one _ _
theorem blkOff : Blk 136 9 := ⟨.inr ⟨_, _, Try.underlying136⟩, by kernel_rfl⟩
theorem run_alloc_off (w : World) : (Instr.alloc 136 true (.tuple #[])).run Try.prog w = .ok (.pointer (some ⟨w.heap.size, 0, none⟩)) (w.alloc (.cells zeroO 136)) := by kernel_rfl
/-- What each piece at a point is worth to each person, by the cell where it lies. -/
def wof (ts : List (List Int)) (n i q : Nat) : Int := worth (ts.getD (q / 3) []) n i (q % 3)
def offA (ts : List (List Int)) (n i : Nat) : Array Value := arrF 9 (wof ts n i)
theorem offA_size (ts : List (List Int)) (n i : Nat) : (offA ts n i).size = 9 := arrF_size _ _
theorem offA_one (ts : List (List Int)) (n i : Nat) : (offA ts n i).all (·.oneCell') = true := arrF_one _ _
theorem tv_bd {n : Nat} {ts : List (List Int)} (h : rowsB n 9 ts = true) (q : Nat) : 0 ≤ tv ts q ∧ tv ts q ≤ 9 := by
  obtain ⟨h3, hr⟩ := rowsB_at h
  exact getD_bd (by omega) (by omega) (hr (q % 3) (by omega)).2 _
theorem sf_sl (ts : List (List Int)) (b p : Nat) (hp : p < 3) : ∀ k, sf (fun q => tv ts (3 * b + q)) p k = sl (ts.getD p []) b k
  | 0 => by rw [sf, sl_zero]
  | k + 1 => by
    rw [sf, sf_sl ts b p hp k, sl_succ, tv, show (3 * b + (3 * k + p)) % 3 = p by omega, show (3 * b + (3 * k + p)) / 3 = b + k by omega]
theorem idx3' (a b c : Int) (y : Nat) (hy : y < 3) (w : World) : (Instr.index 121 (.agg #[.int .i64 a, .int .i64 b, .int .i64 c]) (.int .i64 y)).run Try.prog w = .ok (.int .i64 ([a, b, c].getD y 0)) w := by
  rcases (show y = 0 ∨ y = 1 ∨ y = 2 by omega) with rfl | rfl | rfl
  · exact (show (Instr.index 121 (.agg #[.int .i64 a, .int .i64 b, .int .i64 c]) (.int .i64 0)).run Try.prog w = .ok (.int .i64 a) w by kernel_rfl)
  · exact (show (Instr.index 121 (.agg #[.int .i64 a, .int .i64 b, .int .i64 c]) (.int .i64 1)).run Try.prog w = .ok (.int .i64 b) w by kernel_rfl)
  · exact (show (Instr.index 121 (.agg #[.int .i64 a, .int .i64 b, .int .i64 c]) (.int .i64 2)).run Try.prog w = .ok (.int .i64 c) w by kernel_rfl)
set_option maxHeartbeats 3200000 in
theorem offersAt_any (n i : Nat) (h1 : 1 ≤ n) (h2 : n ≤ 8) (hi : i < Pr.cnt n) (ts : List (List Int)) (hy : rowsB n 9 ts = true) (w : World) :
    Calls Try.prog 130 #[.agg (cakeA n ts), .agg #[.int .i64 ((n : Int) - (Pr.R i : Nat)), .int .i64 ((Pr.R i : Int) - (Pr.C i : Nat)), .int .i64 (Pr.C i : Nat)]] w fun e w' => e = .returned (.agg (offA ts n i)) ∧ Below w.heap.size w w' := by
  have hc := (Pr.cnt_le n (by omega)).1
  have hR := Pr.R_le_of_lt n (by omega) i hi
  have hC := (Pr.RC_bd i (by omega)).1
  have HSZ : Hid (∀ k, k < 3 → ([(n : Int) - (Pr.R i : Nat), (Pr.R i : Int) - (Pr.C i : Nat), (Pr.C i : Nat)] : List Int).getD k 0 = (sz3 n i k : Nat)) := Lib.hid (fun k hk => sz3_pt n i k hR hC hk)
  have HPS := Lib.hid (fun k hk => pre3_succ n i k hR hC hk)
  have HPL := Lib.hid (fun k hk => pre3_le n i k hR hC hk)
  have HTB := Lib.hid (tv_bd hy)
  clear hy hC hR
  generalize (n : Int) - (Pr.R i : Nat) = ea at *
  generalize (Pr.R i : Int) - (Pr.C i : Nat) = eb at *
  generalize ((Pr.C i : Nat) : Int) = ec at *
  have HCA : Hid (∀ q, q < 24 → (cakeA n ts)[1 + q]? = some (.int .i64 (tv ts q))) := Lib.hid (fun q hq => cakeF_at n (tv ts) q hq)
  have HCZ := Lib.hid (cakeA_size n ts)
  generalize cakeA n ts = ca at *
  have hmf : ∀ (fn : Fn) (first cap : Array Value) (w : World), (Instr.makeFunc fn first cap).run Try.prog w = .ok (.func fn first cap) w := fun _ _ _ _ => rfl
  go_enter Try.func130, Try.ntmps130
  go_wp2_with (first | ((with_reducible refine alloc_blk zeroO run_alloc_off rfl rfl ?_); simp only [World.size_alloc, Act.put, List.setIfInBounds_toArray, List.set_cons_zero, List.set_cons_succ]))
  obtain ⟨w4, hw4⟩ : ∃ w4, w4 = (((w.alloc (.cells ca 88)).alloc (.cells #[.int .i64 ea, .int .i64 eb, .int .i64 ec] 121)).alloc (.cells zeroO 136)).alloc (.cells zeroO 136) := ⟨_, rfl⟩
  rw [← hw4]
  have hz4 : w4.heap.size = w.heap.size + 4 := by rw [hw4]; simp
  have hb4 : Below w.heap.size w w4 := by rw [hw4]; exact balloc (balloc (balloc (balloc (Below.refl _ _) _) _) _) _
  have hg0 : w4.heap[w.heap.size]? = some (.cells ca 88 (0, 0)) := by
    rw [hw4, Below.heap_alloc _ _ _ (by simp; omega), Below.heap_alloc _ _ _ (by simp; omega), Below.heap_alloc _ _ _ (by simp)]
    exact heap_alloc_new w _
  have hg2 : w4.heap[w.heap.size + 2]? = some (.cells zeroO 136 (0, 0)) := by
    rw [hw4, Below.heap_alloc _ _ _ (by simp)]
    have e := heap_alloc_new ((w.alloc (.cells ca 88)).alloc (.cells #[.int .i64 ea, .int .i64 eb, .int .i64 ec] 121)) (.cells zeroO 136)
    rwa [World.size_alloc, World.size_alloc] at e
  have hg3 : w4.heap[w.heap.size + 3]? = some (.cells zeroO 136 (0, 0)) := by
    rw [hw4]
    have e := heap_alloc_new (((w.alloc (.cells ca 88)).alloc (.cells #[.int .i64 ea, .int .i64 eb, .int .i64 ec] 121)).alloc (.cells zeroO 136)) (.cells zeroO 136)
    rwa [World.size_alloc, World.size_alloc, World.size_alloc] at e
  have HG0 := Lib.hid hg0
  clear hw4 hg0
  go_loopw [6, 12] (fun v6 v12 wr => ∃ (k : Nat) (f : Nat → Int), k ≤ 3 ∧ v12 = .int .i64 k ∧ v6 = .int .i64 (pre3 n i k : Nat) ∧ wr.heap[w.heap.size + 3]? = some (.cells (arrF 9 f) 136 (0, 0)) ∧ (∀ q, q < 9 → f q = if q % 3 < k then wof ts n i q else 0) ∧
      wr.heap[w.heap.size]? = some (.cells ca 88 (0, 0)) ∧ wr.heap[w.heap.size + 2]? = some (.cells zeroO 136 (0, 0)) ∧ Below w.heap.size w wr ∧ w.heap.size + 4 ≤ wr.heap.size) (fun _ v12 _ => 3 - (intOf v12).toNat)
  case atStart => exact ⟨0, fun _ => 0, by omega, rfl, rfl, hg3, fun q _ => by rw [if_neg (by omega)], HG0.out, hg2, hb4, by omega⟩
  case round =>
    clear hg3 hg2 HG0 hb4 hz4
    obtain ⟨k, f, hk, rfl, rfl, hg, hf, hg0, hg2, hb, hz⟩ := hrel
    obtain ⟨wq, rfl⟩ : ∃ wq : World, wq = wr := ⟨_, rfl⟩
    have HF := Lib.hid hf
    have HG0 := Lib.hid hg0
    have HG2 := Lib.hid hg2
    clear hf hg0 hg2
    by_cases hlt : k < 3
    · have hki : (k : Int) < 3 := by omega
      have hidx := idx3' ea eb ec k hlt
      rw [HSZ.out k hlt] at hidx
      have HPK := Lib.hid (HPS.out k hlt)
      have hpl := HPL.out k hlt
      have HW : Hid (∀ p, p < 3 → ∀ q, q < 9 → q % 3 = k → q / 3 = p → sf (fun q => tv ts (3 * pre3 n i k + q)) p (sz3 n i k) = wof ts n i q) := Lib.hid (fun p hp q hq h1 h2 => by rw [sf_sl ts _ p hp, wof, worth, h1, h2])
      generalize pre3 n i k = b at *
      generalize sz3 n i k = s at *
      go_wp2_with fail
      go_loopw [19] (fun v19 wr => ∃ (j : Nat) (f : Nat → Int), j ≤ 3 ∧ v19 = .int .i64 j ∧ wr.heap[w.heap.size + 3]? = some (.cells (arrF 9 f) 136 (0, 0)) ∧ (∀ q, q < 9 → f q = if q % 3 < k ∨ (q % 3 = k ∧ q / 3 < j) then wof ts n i q else 0) ∧
          wr.heap[w.heap.size]? = some (.cells ca 88 (0, 0)) ∧ wr.heap[w.heap.size + 2]? = some (.cells zeroO 136 (0, 0)) ∧ Below w.heap.size w wr ∧ w.heap.size + 4 ≤ wr.heap.size) (fun v19 _ => 3 - (intOf v19).toNat)
      case atStart => exact ⟨0, f, by omega, rfl, hg, fun q hq => by rw [HF.out q hq]; congr 1; simp, HG0.out, HG2.out, hb, hz⟩
      case round =>
        clear hg HG0 HG2 hb hz HF
        obtain ⟨j, f, hj, rfl, hg, hf, hg0, hg2, hb, hz⟩ := hrel
        have HF := Lib.hid hf
        have HG := Lib.hid hg
        have HG0 := Lib.hid hg0
        have HG2 := Lib.hid hg2
        clear hf hg0 hg2 hg
        by_cases hltj : j < 3
        · have hji : (j : Int) < 3 := by omega
          go_wp2_with fail
          obtain ⟨wi, hwi⟩ : ∃ wi, wi = wr.alloc (.cells #[.int .i64 j] 3) := ⟨_, rfl⟩
          rw [← hwi]
          have hbi : Below wr.heap.size wr wi := by rw [hwi]; exact balloc (Below.refl _ _) _
          have hci : wi.cell? ⟨wr.heap.size, 0, none⟩ = some (.int .i64 j) := by rw [hwi, World.cell?_alloc_at _ _ _ _ rfl]; rfl
          have hzi : wi.heap.size = wr.heap.size + 1 := by rw [hwi]; simp
          have hs8 : b + s ≤ 8 := by omega
          obtain ⟨off, hoff, hsl⟩ := slice_cake w.heap.size b s hs8
          have HOFF := Lib.hid hoff
          clear hwi hoff
          refine wp_region_mix (fun w' => w'.cell? ⟨wr.heap.size, 0, none⟩ = some (.int .i64 j)) [7, 10] [0, 1, 2, 3, 4, 5, 6, 8, 7, 9, 10] (by kernel_rfl) (by kernel_rfl) (fun _ _ d _ _ h => by cases d <;> exact h) (by kernel_rfl) rfl hci ?_
          refine mix_take 0 _ ?_ rfl rfl rfl (some 22) rfl (fun w' hw' => ?hv0) ?_
          case hv0 =>
            have s0 : w'.cell? ⟨wr.heap.size, 0, none⟩ = some (.int .i64 j) := hw'
            go_simp
            with_reducible rfl
          simp only [Act.put, List.setIfInBounds_toArray, List.set_cons_zero, List.set_cons_succ]
          refine mix_take 1 _ ?_ rfl rfl rfl (some 23) rfl (fun w' hw' => ?hv1) ?_
          case hv1 =>
            go_simp
            with_reducible rfl
          simp only [Act.put, List.setIfInBounds_toArray, List.set_cons_zero, List.set_cons_succ]
          refine mix_take 2 _ ?_ rfl rfl rfl (some 24) rfl (fun w' hw' => ?hv2) ?_
          case hv2 =>
            go_simp
            with_reducible rfl
          simp only [Act.put, List.setIfInBounds_toArray, List.set_cons_zero, List.set_cons_succ]
          refine mix_take 3 _ ?_ rfl rfl rfl (some 25) rfl (fun w' hw' => ?hv3) ?_
          case hv3 =>
            go_simp
            with_reducible rfl
          simp only [Act.put, List.setIfInBounds_toArray, List.set_cons_zero, List.set_cons_succ]
          refine mix_take 4 _ ?_ rfl rfl rfl (some 26) rfl (fun w' hw' => ?hv4) ?_
          case hv4 =>
            go_simp
            with_reducible rfl
          simp only [Act.put, List.setIfInBounds_toArray, List.set_cons_zero, List.set_cons_succ]
          refine mix_take 5 _ ?_ rfl rfl rfl (some 27) rfl (fun w' hw' => ?hv5) ?_
          case hv5 =>
            go_simp
            with_reducible rfl
          simp only [Act.put, List.setIfInBounds_toArray, List.set_cons_zero, List.set_cons_succ]
          refine mix_take 6 _ ?_ rfl rfl rfl (some 28) rfl (fun w' hw' => ?hv6) ?_
          case hv6 =>
            go_simp
            with_reducible rfl
          simp only [Act.put, List.setIfInBounds_toArray, List.set_cons_zero, List.set_cons_succ]
          refine mix_take 8 _ ?_ rfl rfl rfl (some 30) rfl (fun w' hw' => ?hv8) ?_
          case hv8 =>
            go_simp
            with_reducible rfl
          simp only [Act.put, List.setIfInBounds_toArray, List.set_cons_zero, List.set_cons_succ]
          refine mix_call 7 _ rfl rfl rfl 133 #[.slice (some ⟨w.heap.size, off, none⟩) s (8 - b), pickC wr.heap.size] (some 29) rfl ?hr7 ?_
          case hr7 =>
            simp only [pickC]
            go_simp
          have hcs : ∀ q, q < 3 * s → wi.drew.cell? ⟨w.heap.size, off + q, none⟩ = some (.int .i64 (tv ts (3 * b + q))) := fun q hq => by
            have h1 := blk_cell ((hbi.block w.heap.size (by omega)).trans HG0.out) (1 + (3 * b + q)) _ (HCA.out (3 * b + q) (by omega))
            rw [HOFF.out (by omega), show 1 + 3 * b + q = 1 + (3 * b + q) by omega]
            exact h1
          refine (sumOf_pick (fun q => tv ts (3 * b + q)) (fun q => HTB.out _) j hltj w.heap.size off s (8 - b) wr.heap.size (by omega) wi.drew (by show wr.heap.size < wi.heap.size; omega) hci (by show w.heap.size < wi.heap.size; omega) hcs).mono ?_
          rintro e w5 ⟨rfl, hb5⟩
          have hs5 : w5.cell? ⟨wr.heap.size, 0, none⟩ = some (.int .i64 j) := (hb5.cell (by show wr.heap.size < wi.heap.size; omega)).trans hci
          have hb5' : Below wi.heap.size wi w5 := (Same.refl wi |>.drew wi.heap.size).trans hb5
          have hg5 := Lib.hid ((hb5'.block (w.heap.size + 3) (by omega)).trans ((hbi.block _ (by omega)).trans HG.out))
          have hg05 := Lib.hid ((hb5'.block w.heap.size (by omega)).trans ((hbi.block _ (by omega)).trans HG0.out))
          have hg25 := Lib.hid ((hb5'.block (w.heap.size + 2) (by omega)).trans ((hbi.block _ (by omega)).trans HG2.out))
          have hB5 : Below w.heap.size w w5 := bnext (bnext hb hbi) hb5'
          have hz5 := hb5'.size
          clear hcs hb5 hb5'
          refine ⟨_, rfl, hs5, ?_⟩
          simp only [Act.put, List.setIfInBounds_toArray, List.set_cons_zero, List.set_cons_succ]
          refine mix_take 9 _ ?_ rfl rfl rfl (some 31) rfl (fun w' hw' => ?hv9) ?_
          case hv9 =>
            go_simp
            with_reducible rfl
          simp only [Act.put, List.setIfInBounds_toArray, List.set_cons_zero, List.set_cons_succ]
          have HE : Hid (∀ q, q < 9 → (if q = j * 3 + k then sf (fun q => tv ts (3 * b + q)) j s else f q) = if q % 3 < k ∨ (q % 3 = k ∧ q / 3 < j + 1) then wof ts n i q else 0) := Lib.hid (fun q hq => by
            by_cases e : q = j * 3 + k
            · rw [if_pos e, if_pos (by omega)]
              exact HW.out j hltj q hq (by omega) (by omega)
            · rw [if_neg e, HF.out q hq]
              congr 1
              simp only [eq_iff_iff]
              omega)
          have HS := Lib.hid (heap_setCell_same w5 (w.heap.size + 3) (j * 3 + k) _ _ (.int .i64 (sf (fun q => tv ts (3 * b + q)) j s)) hg5.out)
          rw [arrF_set 9 f (j * 3 + k) _ (by omega)] at HS
          generalize sf (fun q => tv ts (3 * b + q)) j s = x at *
          refine mix_store_cell 10 _ rfl rfl rfl 3 _ _ rfl none rfl (by kernel_rfl) (w.heap.size + 3) (j * 3 + k) x ?hx ?hy (arrF 9 f) 136 hg5.out (by rw [arrF_size]; omega) ⟨?hS, ?_⟩
          case hx => exact rfl
          case hy => exact rfl
          case hS => exact (World.cell?_of_block (w := w5) (a := ⟨wr.heap.size, 0, none⟩) (Below.heap_setCell w5 ⟨w.heap.size + 3, j * 3 + k, none⟩ (.int .i64 x) wr.heap.size (by show wr.heap.size ≠ w.heap.size + 3; omega))).trans hs5
          have hg06 := (Below.heap_setCell w5 ⟨w.heap.size + 3, j * 3 + k, none⟩ (.int .i64 x) w.heap.size (by show w.heap.size ≠ w.heap.size + 3; omega)).trans hg05.out
          have hg26 := (Below.heap_setCell w5 ⟨w.heap.size + 3, j * 3 + k, none⟩ (.int .i64 x) (w.heap.size + 2) (by show w.heap.size + 2 ≠ w.heap.size + 3; omega)).trans hg25.out
          have hB6 := hB5.setCell (p := ⟨w.heap.size + 3, j * 3 + k, none⟩) (by show w.heap.size ≤ w.heap.size + 3; omega) (.int .i64 x)
          have hz6 : w.heap.size + 4 ≤ (w5.setCell ⟨w.heap.size + 3, j * 3 + k, none⟩ (.int .i64 x)).heap.size := by rw [World.size_setCell]; omega
          refine mix_done ?_
          go_wp2_with fail
          go_roundw
          case rel => exact ⟨j + 1, _, by omega, by go_num, HS.out, HE.out, hg06, hg26, hB6, hz6⟩
          case measure => simp [intOf]; omega
        · have hj3 : j = 3 := by omega
          have HE : Hid (∀ q, q < 9 → f q = if q % 3 < k + 1 then wof ts n i q else 0) := Lib.hid (fun q hq => by
            rw [HF.out q hq]
            congr 1
            simp only [eq_iff_iff]
            omega)
          clear HF hj3
          go_wp2_with fail
          go_roundw
          case rel => exact ⟨k + 1, f, by omega, by go_num, by rw [HPK.out]; go_num, HG.out, HE.out, HG0.out, HG2.out, hb, hz⟩
          case measure => simp [intOf]; omega
    · have hk3 : k = 3 := by omega
      have HE : Hid (arrF 9 f = offA ts n i) := Lib.hid (arrF_congr 9 (fun q hq => by rw [HF.out q hq, if_pos (by omega)]))
      rw [HE.out] at hg
      clear hk3 HF HE
      go_wp2_with (first | ((with_reducible refine load_blk blkOff ?_ _ rfl (w.heap.size + 3) ?_ (offA ts n i) hg (offA_size _ _ _) ?_); exact rfl; exact rfl; simp only [Act.put, List.setIfInBounds_toArray, List.set_cons_zero, List.set_cons_succ]) | ((with_reducible refine store_blk blkOff rfl _ _ rfl (w.heap.size + 2) (offA ts n i) zeroO ?_ ?_ HG2.out zeroO_size (offA_size _ _ _) (offA_one _ _ _) (w.heap.size + 2) (Nat.le_refl _) ?_); exact rfl; exact rfl; intro w7 hg7 hb7 _ _; have hB7 := hb.trans (hb7.mono (by omega))))
      exact bodyPost_ret (results_blk1 blkOff rfl _ _ (w.heap.size + 2) _ rfl hg7 (offA_size _ _ _)) rfl ⟨rfl, hB7⟩
end Go.Proofs.Ytgloelhpnhofgaa

namespace Go.Proofs.Ytgloelhpnhofgaa
open Go.RowKit
set_option maxRecDepth 4000
def zeroS : Array Value := #[.int .i64 0, .int .i64 0, .int .i64 0]
theorem zeroS_size : zeroS.size = 3 := rfl
theorem zeroS_one : zeroS.all (·.oneCell') = true := by simp [zeroS, Value.oneCell']
theorem blkSpot : Blk 121 3 := ⟨.inr ⟨_, _, Try.underlying121⟩, by kernel_rfl⟩
/-- A point as it lies in memory. -/
def spA (n i : Nat) : Array Value := #[.int .i64 ((n : Int) - (Pr.R i : Nat)), .int .i64 ((Pr.R i : Int) - (Pr.C i : Nat)), .int .i64 (Pr.C i : Nat)]
theorem spA_size (n i : Nat) : (spA n i).size = 3 := rfl
theorem spA_one (n i : Nat) : (spA n i).all (·.oneCell') = true := by simp [spA, Value.oneCell']
theorem run_alloc_spot (w : World) : (Instr.alloc 121 true (.tuple #[])).run Try.prog w = .ok (.pointer (some ⟨w.heap.size, 0, none⟩)) (w.alloc (.cells zeroS 121)) := by kernel_rfl
theorem run_build0_spot (w : World) : (Instr.build 121 #[]).run Try.prog w = .ok (.agg zeroS) w := by kernel_rfl
section
variable {ops : Array Oper} {rest : List Oper} {o : Oper} {a : Act} {w : World} {Q : Exit → Act → World → Prop}
theorem build0_spot (hgd : o.guard = none) (ho : o.op = .build 121 #[])
    (h : wpList Try.prog ops Q rest (a.put o.dst (.agg zeroS)) w) : wpList Try.prog ops Q (o :: rest) a w := by
  refine wpList_plain hgd fun K hK => ?_
  unfold Oper.wp
  simp [execOp, ho, run_build0_spot, Result.andThen]
  exact hK _ _ h
end
theorem results_two {ty ty' : TypeId} {n n' : Nat} (bk : Blk ty n) (bk' : Blk ty' n') {fn : Func} {p p' q : Tmp} (h : fn.results = #[.cell p ty, .cell p' ty', .tmp q]) (tmps : Array Value) (w : World) (g g' : Nat) (cs cs' : Array Value) (v : Value)
    (hp : tmps.getD p undef = .pointer (some ⟨g, 0, none⟩)) (hp' : tmps.getD p' undef = .pointer (some ⟨g', 0, none⟩)) (hq : tmps.getD q undef = v) (hg : w.heap[g]? = some (.cells cs ty (0, 0))) (hg' : w.heap[g']? = some (.cells cs' ty' (0, 0))) (hc : cs.size = n) (hc' : cs'.size = n') :
    (results fn tmps).run Try.prog w = .ok (.tuple #[.agg cs, .agg cs', v]) w := by
  have hp1 : tmps[p]?.getD undef = .pointer (some ⟨g, 0, none⟩) := by simpa using hp
  have hp2 : tmps[p']?.getD undef = .pointer (some ⟨g', 0, none⟩) := by simpa using hp'
  have hq' : tmps[q]?.getD undef = v := by simpa using hq
  simp [results, h, hp1, hp2, hq', asAddr, load_ok bk w g cs hg hc, load_ok bk' w g' cs' hg' hc']
end Go.Proofs.Ytgloelhpnhofgaa

namespace Go.Proofs.Ytgloelhpnhofgaa
open Go.RowKit
set_option maxRecDepth 4000
def OutPiecesOf (w : World) (r0 : List Int) (r1 : Bool) (e : Ending) (w' : World) : Prop := ∃ v0, e = .returned (.tuple #[v0, .bool r1]) ∧ OI w' w.heap.size w'.heap.size v0 r0 ∧ Below w.heap.size w w'
def okC (n : Int) (ts : List (List Int)) (i : Int) : Prop := tstB n ts = true ∧ Pr.okPt n i
def okP (p : Int) : Prop := 0 ≤ p ∧ p ≤ 2
end Go.Proofs.Ytgloelhpnhofgaa

namespace Go.Proofs.Ytgloelhpnhofgaa
open Go.RowKit
set_option maxRecDepth 4000
theorem idxOff (ts : List (List Int)) (n i p : Nat) (hp : p < 3) (w : World) : (Instr.index 136 (.agg (offA ts n i)) (.int .i64 p)).run Try.prog w = .ok (.agg #[.int .i64 (worth (ts.getD p []) n i 0), .int .i64 (worth (ts.getD p []) n i 1), .int .i64 (worth (ts.getD p []) n i 2)]) w := by
  rcases (show p = 0 ∨ p = 1 ∨ p = 2 by omega) with rfl | rfl | rfl
  · exact (show (Instr.index 136 (.agg (offA ts n i)) (.int .i64 0)).run Try.prog w = .ok (.agg #[.int .i64 (worth (ts.getD 0 []) n i 0), .int .i64 (worth (ts.getD 0 []) n i 1), .int .i64 (worth (ts.getD 0 []) n i 2)]) w by kernel_rfl)
  · exact (show (Instr.index 136 (.agg (offA ts n i)) (.int .i64 1)).run Try.prog w = .ok (.agg #[.int .i64 (worth (ts.getD 1 []) n i 0), .int .i64 (worth (ts.getD 1 []) n i 1), .int .i64 (worth (ts.getD 1 []) n i 2)]) w by kernel_rfl)
  · exact (show (Instr.index 136 (.agg (offA ts n i)) (.int .i64 2)).run Try.prog w = .ok (.agg #[.int .i64 (worth (ts.getD 2 []) n i 0), .int .i64 (worth (ts.getD 2 []) n i 1), .int .i64 (worth (ts.getD 2 []) n i 2)]) w by kernel_rfl)
theorem okC_yes {n i : Int} {ts : List (List Int)} (h : okC n ts i) : ∃ m j : Nat, n = m ∧ i = j ∧ 1 ≤ m ∧ m ≤ 8 ∧ j < Pr.cnt m ∧ rowsB m 9 ts = true := by
  obtain ⟨hT, h1, h2, h3, h4⟩ := h
  obtain ⟨m, rfl⟩ := Int.eq_ofNat_of_zero_le (show 0 ≤ n by omega)
  obtain ⟨j, rfl⟩ := Int.eq_ofNat_of_zero_le h3
  have e : tstB m ts = rowsB m 9 ts := by simp [tstB]; omega
  exact ⟨m, j, rfl, rfl, by omega, by omega, by simpa using h4, by rw [← e]; exact hT⟩
theorem pcs_len (t : List Int) (n i : Nat) : (pcs t n i).length = 3 := rfl
end Go.Proofs.Ytgloelhpnhofgaa

namespace Go.Proofs.Ytgloelhpnhofgaa
open Go.RowKit
set_option maxRecDepth 4000
/-- The favourite of the first k pieces: the first one of those with slices that is worth most, -1 if none has any. -/
def favStep (W : Nat → Int) (s : Nat → Nat) (k : Nat) (b : Int) : Int := if 0 < s k ∧ (b < 0 ∨ W b.toNat < W k) then (k : Int) else b
def favL (W : Nat → Int) (s : Nat → Nat) : Nat → Int
  | 0 => -1
  | k + 1 => favStep W s k (favL W s k)
theorem favL_bd (W : Nat → Int) (s : Nat → Nat) : ∀ k : Nat, -1 ≤ favL W s k ∧ favL W s k < (k : Int)
  | 0 => by simp [favL]
  | k + 1 => by
    have h := favL_bd W s k
    simp only [favL, favStep]
    split <;> omega
def favP (t : List Int) (n i : Nat) : Int := favL (worth t n i) (sz3 n i) 3
theorem favL_pos (W : Nat → Int) (s : Nat → Nat) (k j : Nat) (hj : j < k) (h : 0 < s j) : 0 ≤ favL W s k := by
  induction k with
  | zero => omega
  | succ k ih =>
    simp only [favL, favStep]
    by_cases e : j = k
    · subst e
      by_cases hb : favL W s j < 0
      · rw [if_pos ⟨h, .inl hb⟩]; omega
      · split <;> omega
    · have := ih (by omega)
      split <;> omega
theorem favP_bd (t : List Int) (n i : Nat) (h1 : 1 ≤ n) (hR : Pr.R i ≤ n) (hC : Pr.C i ≤ Pr.R i) : 0 ≤ favP t n i ∧ favP t n i ≤ 2 := by
  have h := favL_bd (worth t n i) (sz3 n i) 3
  have hp : 0 ≤ favP t n i := by
    by_cases e0 : 0 < sz3 n i 0
    · exact favL_pos _ _ 3 0 (by omega) e0
    · by_cases e1 : 0 < sz3 n i 1
      · exact favL_pos _ _ 3 1 (by omega) e1
      · refine favL_pos _ _ 3 2 (by omega) ?_
        simp [sz3] at e0 e1 ⊢
        omega
  unfold favP at *
  omega
theorem rd_three {w : World} {a : Option Addr} {b : Nat} {xs : List Int} (h : Rd w a b 0 xs) (hl : xs.length = 3) : a = some ⟨b, 0, none⟩ ∧ ∀ k, k < 3 → w.cell? ⟨b, k, none⟩ = some (.int .i64 (xs.getD k 0)) :=
  ⟨(h.2 0 (by omega)).1, fun k hk => by have := (h.2 k (by omega)).2; rwa [Nat.zero_add] at this⟩
theorem pcs_getD (t : List Int) (n i k : Nat) (hk : k < 3) : (pcs t n i).getD k 0 = worth t n i k := by
  rcases (by omega : k = 0 ∨ k = 1 ∨ k = 2) with rfl | rfl | rfl <;> rfl
set_option maxHeartbeats 3200000 in
theorem ckFavourite_any (n i : Nat) (h1 : 1 ≤ n) (h2 : n ≤ 8) (hi : i < Pr.cnt n) (t : List Int) (ht : t.length = n) (hA : allB 0 9 t = true) (a : Option Addr) (cap : Nat) (w : World) (h : RdS w w.heap.size a t) :
    Calls Try.prog 101 #[.int .i64 n, .slice a t.length cap, .int .i64 i] w fun e w' => e = .returned (.int .i64 (favP t n i)) ∧ Below w.heap.size w w' := by
  have hc := (Pr.cnt_le n (by omega)).1
  have hR := Pr.R_le_of_lt n (by omega) i hi
  have hC := (Pr.RC_bd i (by omega)).1
  have HM := Lib.hid (fun w => meAt_any n i h1 h2 (by omega) w)
  have HPC := Lib.hid (ckPieces_any n i h1 h2 hi t ht hA a cap w h)
  have HSZ : Hid (∀ k, k < 3 → ([(n : Int) - (Pr.R i : Nat), (Pr.R i : Int) - (Pr.C i : Nat), (Pr.C i : Nat)] : List Int).getD k 0 = (sz3 n i k : Nat)) := Lib.hid (fun k hk => sz3_pt n i k hR hC hk)
  have HW : Hid (∀ k, k < 3 → (pcs t n i).getD k 0 = worth t n i k) := Lib.hid (fun k hk => pcs_getD t n i k hk)
  have HV : Hid (favP t n i = favL (worth t n i) (sz3 n i) 3) := Lib.hid rfl
  have HL : Hid ((pcs t n i).length = 3) := Lib.hid rfl
  generalize (n : Int) - (Pr.R i : Nat) = ea at *
  generalize (Pr.R i : Int) - (Pr.C i : Nat) = eb at *
  generalize ((Pr.C i : Nat) : Int) = ec at *
  generalize worth t n i = W at *
  generalize sz3 n i = s at *
  generalize favP t n i = fv at *
  generalize pcs t n i = P at *
  clear hR hC hc hA ht h
  go_enter Try.func101, Try.ntmps101
  go_wp2_with fail
  refine HPC.out.mono ?_
  rintro e w1 ⟨v, rfl, ho, hb1⟩
  obtain ⟨a1, c1, b1, rfl, hr, hrs⟩ := oi_shape ho
  obtain ⟨ha1, hcl⟩ := rd_three hr HL.out
  subst ha1
  rw [HL.out]
  have hb1l : b1 < w1.heap.size := ho.elim fun et h => h.2 b1 rfl
  have HC1 : Hid (∀ k, k < 3 → w1.cell? ⟨b1, k, none⟩ = some (.int .i64 (W k))) := Lib.hid (fun k hk => by rw [hcl k hk, HW.out k hk])
  clear hr hrs ho hcl
  go_wp2_with fail
  refine (HM.out _).mono ?_
  rintro e w2 ⟨rfl, hw2⟩
  have hb2 : Below w.heap.size w w2 := by rw [hw2]; exact balloc hb1 _
  have HC2 : Hid (∀ k, k < 3 → w2.cell? ⟨b1, k, none⟩ = some (.int .i64 (W k))) := Lib.hid (fun k hk => by rw [hw2, World.cell?_alloc_past _ _ _ hb1l]; exact HC1.out k hk)
  have HM2 : Hid (∀ k, k < 3 → w2.cell? ⟨w1.heap.size, k, none⟩ = some (.int .i64 (s k : Nat))) := Lib.hid (fun k hk => by
    rw [hw2, World.cell?_alloc_at _ _ _ _ rfl, ← HSZ.out k hk]
    rcases (by omega : k = 0 ∨ k = 1 ∨ k = 2) with rfl | rfl | rfl <;> rfl)
  clear hw2
  go_wp2_with fail
  go_loopw [8, 19] (fun v8 v19 wr => ∃ k : Nat, k ≤ 3 ∧ v19 = .int .i64 k ∧ v8 = .int .i64 (favL W s k) ∧ Same w2 wr) (fun _ v19 _ => 3 - (intOf v19).toNat)
  case atStart => exact ⟨0, by omega, rfl, rfl, Same.refl _⟩
  case round =>
    obtain ⟨k, hk, rfl, rfl, hs⟩ := hrel
    by_cases hlt : k < 3
    · have hki : (k : Int) < 3 := by omega
      have cm := (hs.cell ⟨w1.heap.size, k, none⟩).trans (HM2.out k hlt)
      have ck := (hs.cell ⟨b1, k, none⟩).trans (HC2.out k hlt)
      have hbd := favL_bd W s k
      have HS : Hid (favL W s (k + 1) = favStep W s k (favL W s k)) := Lib.hid rfl
      generalize favL W s k = b at *
      have HST : Hid (favStep W s k b = if 0 < s k ∧ (b < 0 ∨ W b.toNat < W k) then (k : Int) else b) := Lib.hid rfl
      by_cases hp : 0 < s k
      · by_cases hb : b < 0
        · have HE : Hid (favL W s (k + 1) = k) := Lib.hid (by rw [HS.out, HST.out, if_pos ⟨hp, .inl hb⟩])
          clear HS HST
          generalize s k = sk at *
          have hd : (0 : Int) < (sk : Int) := by omega
          go_wp2_with fail
          go_quiet (fail)
          go_wp2
          go_roundw
          case rel => exact ⟨k + 1, by omega, by go_num, by rw [HE.out], hs.drewN _⟩
          case measure => simp [intOf]; omega
        · obtain ⟨j, rfl⟩ := Int.eq_ofNat_of_zero_le (show 0 ≤ b by omega)
          have hjk : j < 3 := by omega
          have hji : (j : Int) < 3 := by omega
          have cj := (hs.cell ⟨b1, j, none⟩).trans (HC2.out j hjk)
          have hbF : decide ((j : Int) < 0) = false := by simp
          by_cases hg : W j < W k
          · have HE : Hid (favL W s (k + 1) = k) := Lib.hid (by rw [HS.out, HST.out, if_pos ⟨hp, .inr (by simpa using hg)⟩])
            clear HS HST hb
            generalize s k = sk at *
            have hd : (0 : Int) < (sk : Int) := by omega
            generalize W k = wk at *
            generalize W j = wj at *
            go_wp2_with fail
            go_quiet (fail)
            go_wp2
            go_roundw
            case rel => exact ⟨k + 1, by omega, by go_num, by rw [HE.out], hs.drewN _⟩
            case measure => simp [intOf]; omega
          · have HE : Hid (favL W s (k + 1) = j) := Lib.hid (by rw [HS.out, HST.out, if_neg (fun h => h.2.elim hb (fun h => hg (by simpa using h)))])
            clear HS HST hb
            generalize s k = sk at *
            have hd : (0 : Int) < (sk : Int) := by omega
            generalize W k = wk at *
            generalize W j = wj at *
            have hgF : decide (wj < wk) = false := by simp; omega
            go_wp2_with fail
            go_quiet (fail)
            go_wp2
            go_roundw
            case rel => exact ⟨k + 1, by omega, by go_num, by rw [HE.out], hs.drewN _⟩
            case measure => simp [intOf]; omega
      · have HE : Hid (favL W s (k + 1) = b) := Lib.hid (by rw [HS.out, HST.out, if_neg (fun h => hp h.1)])
        clear HS HST
        generalize s k = sk at *
        have hd : decide ((0 : Int) < (sk : Int)) = false := by simp; omega
        go_wp2_with fail
        go_quiet (fail)
        go_wp2
        go_roundw
        case rel => exact ⟨k + 1, by omega, by go_num, by rw [HE.out], hs.drewN _⟩
        case measure => simp [intOf]; omega
    · have hk3 : k = 3 := by omega
      subst hk3
      go_wp2_with fail
      go_ret
      exact ⟨ret_int HV.out.symm, below_same hb2 hs⟩
set_option maxHeartbeats 3200000 in
theorem favourite_any (n i : Nat) (h1 : 1 ≤ n) (h2 : n ≤ 8) (hi : i < Pr.cnt n) (t : List Int) (w : World) :
    Calls Try.prog 129 #[.agg #[.int .i64 ((n : Int) - (Pr.R i : Nat)), .int .i64 ((Pr.R i : Int) - (Pr.C i : Nat)), .int .i64 (Pr.C i : Nat)], .agg #[.int .i64 (worth t n i 0), .int .i64 (worth t n i 1), .int .i64 (worth t n i 2)]] w fun e w' => e = .returned (.int .i64 (favP t n i)) ∧ Below w.heap.size w w' := by
  have hc := (Pr.cnt_le n (by omega)).1
  have hR := Pr.R_le_of_lt n (by omega) i hi
  have hC := (Pr.RC_bd i (by omega)).1
  have HSZ : Hid (∀ k, k < 3 → ([(n : Int) - (Pr.R i : Nat), (Pr.R i : Int) - (Pr.C i : Nat), (Pr.C i : Nat)] : List Int).getD k 0 = (sz3 n i k : Nat)) := Lib.hid (fun k hk => sz3_pt n i k hR hC hk)
  have HV : Hid (favP t n i = favL (worth t n i) (sz3 n i) 3) := Lib.hid rfl
  generalize (n : Int) - (Pr.R i : Nat) = ea at *
  generalize (Pr.R i : Int) - (Pr.C i : Nat) = eb at *
  generalize ((Pr.C i : Nat) : Int) = ec at *
  generalize worth t n i = W at *
  generalize sz3 n i = s at *
  generalize favP t n i = fv at *
  clear hR hC hc
  obtain ⟨w2, hw2⟩ : ∃ w2, w2 = (w.alloc (.cells #[.int .i64 ea, .int .i64 eb, .int .i64 ec] 121)).alloc (.cells #[.int .i64 (W 0), .int .i64 (W 1), .int .i64 (W 2)] 134) := ⟨_, rfl⟩
  have hb2 : Below w.heap.size w w2 := by rw [hw2]; exact balloc (balloc (Below.refl _ _) _) _
  have HC2 : Hid (∀ k, k < 3 → w2.cell? ⟨w.heap.size + 1, k, none⟩ = some (.int .i64 (W k))) := Lib.hid (fun k hk => by
    rw [hw2, World.cell?_alloc_at _ _ _ _ (by simp)]
    rcases (by omega : k = 0 ∨ k = 1 ∨ k = 2) with rfl | rfl | rfl <;> rfl)
  have HW2 := Lib.hid hw2
  clear hw2
  go_enter Try.func129, Try.ntmps129
  go_wp2_with fail
  rw [← HW2.out]
  go_loopw [5, 9] (fun v5 v9 wr => ∃ k : Nat, k ≤ 3 ∧ v9 = .int .i64 k ∧ v5 = .int .i64 (favL W s k) ∧ Same w2 wr) (fun _ v9 _ => 3 - (intOf v9).toNat)
  case atStart => exact ⟨0, by omega, rfl, rfl, Same.refl _⟩
  case round =>
    obtain ⟨k, hk, rfl, rfl, hs⟩ := hrel
    by_cases hlt : k < 3
    · have hki : (k : Int) < 3 := by omega
      have hidx := idx3' ea eb ec k hlt
      rw [HSZ.out k hlt] at hidx
      have ck := (hs.cell ⟨w.heap.size + 1, k, none⟩).trans (HC2.out k hlt)
      have hbd := favL_bd W s k
      have HS : Hid (favL W s (k + 1) = favStep W s k (favL W s k)) := Lib.hid rfl
      generalize favL W s k = b at *
      have HST : Hid (favStep W s k b = if 0 < s k ∧ (b < 0 ∨ W b.toNat < W k) then (k : Int) else b) := Lib.hid rfl
      by_cases hp : 0 < s k
      · by_cases hb : b < 0
        · have HE : Hid (favL W s (k + 1) = k) := Lib.hid (by rw [HS.out, HST.out, if_pos ⟨hp, .inl hb⟩])
          clear HS HST
          generalize s k = sk at *
          have hd : (0 : Int) < (sk : Int) := by omega
          go_wp2_with fail
          go_quiet (fail)
          go_wp2
          go_roundw
          case rel => exact ⟨k + 1, by omega, by go_num, by rw [HE.out], hs.drewN _⟩
          case measure => simp [intOf]; omega
        · obtain ⟨j, rfl⟩ := Int.eq_ofNat_of_zero_le (show 0 ≤ b by omega)
          have hjk : j < 3 := by omega
          have hji : (j : Int) < 3 := by omega
          have cj := (hs.cell ⟨w.heap.size + 1, j, none⟩).trans (HC2.out j hjk)
          have hbF : decide ((j : Int) < 0) = false := by simp
          by_cases hg : W j < W k
          · have HE : Hid (favL W s (k + 1) = k) := Lib.hid (by rw [HS.out, HST.out, if_pos ⟨hp, .inr (by simpa using hg)⟩])
            clear HS HST hb
            generalize s k = sk at *
            have hd : (0 : Int) < (sk : Int) := by omega
            generalize W k = wk at *
            generalize W j = wj at *
            go_wp2_with fail
            go_quiet (fail)
            go_wp2
            go_roundw
            case rel => exact ⟨k + 1, by omega, by go_num, by rw [HE.out], hs.drewN _⟩
            case measure => simp [intOf]; omega
          · have HE : Hid (favL W s (k + 1) = j) := Lib.hid (by rw [HS.out, HST.out, if_neg (fun h => h.2.elim hb (fun h => hg (by simpa using h)))])
            clear HS HST hb
            generalize s k = sk at *
            have hd : (0 : Int) < (sk : Int) := by omega
            generalize W k = wk at *
            generalize W j = wj at *
            have hgF : decide (wj < wk) = false := by simp; omega
            go_wp2_with fail
            go_quiet (fail)
            go_wp2
            go_roundw
            case rel => exact ⟨k + 1, by omega, by go_num, by rw [HE.out], hs.drewN _⟩
            case measure => simp [intOf]; omega
      · have HE : Hid (favL W s (k + 1) = b) := Lib.hid (by rw [HS.out, HST.out, if_neg (fun h => hp h.1)])
        clear HS HST
        generalize s k = sk at *
        have hd : decide ((0 : Int) < (sk : Int)) = false := by simp; omega
        go_wp2_with fail
        go_quiet (fail)
        go_wp2
        go_roundw
        case rel => exact ⟨k + 1, by omega, by go_num, by rw [HE.out], hs.drewN _⟩
        case measure => simp [intOf]; omega
    · have hk3 : k = 3 := by omega
      subst hk3
      go_wp2_with fail
      go_ret
      exact ⟨ret_int HV.out.symm, below_same hb2 hs⟩
end Go.Proofs.Ytgloelhpnhofgaa

namespace Go.Proofs.Ytgloelhpnhofgaa
open Go.RowKit
set_option maxRecDepth 4000
set_option maxHeartbeats 1600000 in
theorem favouriteAt_any (n p i : Nat) (h1 : 1 ≤ n) (h2 : n ≤ 8) (hp : p < 3) (hi : i < Pr.cnt n) (ts : List (List Int)) (hy : rowsB n 9 ts = true) (w : World) :
    Calls Try.prog 124 #[.agg (cakeA n ts), .agg (spA n i), .int .i64 p] w fun e w' => e = .returned (.int .i64 (favP (ts.getD p []) n i)) ∧ Below w.heap.size w w' := by
  have HO := Lib.hid (fun w => offersAt_any n i h1 h2 hi ts hy w)
  have HF := Lib.hid (fun w => favourite_any n i h1 h2 hi (ts.getD p []) w)
  have hidx := idxOff ts n i p hp
  have hp3 : (p : Int) < 3 := by omega
  obtain ⟨hg0, hg1⟩ := two_heap w (.cells (cakeA n ts) 88) (.cells (spA n i) 121)
  have hb0 := balloc (balloc (Below.refl w.heap.size w) (.cells (cakeA n ts) 88)) (.cells (spA n i) 121)
  have hz0 : ((w.alloc (.cells (cakeA n ts) 88)).alloc (.cells (spA n i) 121)).heap.size = w.heap.size + 2 := by simp
  go_enter Try.func124, Try.ntmps124
  go_wp2_with fail
  generalize (w.alloc (.cells (cakeA n ts) 88)).alloc (.cells (spA n i) 121) = w2 at hb0 hg0 hg1 hz0 ⊢
  refine wp_region_mix (fun w' => Below w2.heap.size w2 w') [3, 6] [0, 1, 2, 4, 3, 5, 6, 7] (by kernel_rfl) (by kernel_rfl) (fun _ _ d _ _ h => by cases d <;> exact h) (by kernel_rfl) rfl ((Same.refl w2).drew _) ?_
  refine mix_take 0 _ (.agg (spA n i)) rfl rfl rfl (some 7) rfl (fun w' hw' => exec_row _ _ rfl (w.heap.size + 1) rfl (spA n i) (load_ok blkSpot w' _ _ (((hw' : Below w2.heap.size w2 w').block _ (by omega)).trans hg1) (spA_size _ _))) ?_
  simp only [Act.put, List.setIfInBounds_toArray, List.set_cons_zero, List.set_cons_succ]
  refine mix_take 1 _ (.agg (cakeA n ts)) rfl rfl rfl (some 8) rfl (fun w' hw' => exec_row _ _ rfl (w.heap.size) rfl (cakeA n ts) (load_ok blkCake w' _ _ (((hw' : Below w2.heap.size w2 w').block _ (by omega)).trans hg0) (cakeA_size _ _))) ?_
  simp only [Act.put, List.setIfInBounds_toArray, List.set_cons_zero, List.set_cons_succ]
  refine mix_take 2 _ (.agg (spA n i)) rfl rfl rfl (some 9) rfl (fun w' hw' => exec_row _ _ rfl (w.heap.size + 1) rfl (spA n i) (load_ok blkSpot w' _ _ (((hw' : Below w2.heap.size w2 w').block _ (by omega)).trans hg1) (spA_size _ _))) ?_
  simp only [Act.put, List.setIfInBounds_toArray, List.set_cons_zero, List.set_cons_succ]
  refine mix_take 4 _ ?_ rfl rfl rfl (some 11) rfl (fun w' hw' => ?hv4) ?_
  case hv4 =>
    go_simp
    with_reducible rfl
  simp only [Act.put, List.setIfInBounds_toArray, List.set_cons_zero, List.set_cons_succ]
  refine mix_call 3 _ rfl rfl rfl 130 #[.agg (cakeA n ts), .agg (spA n i)] (some 10) rfl ?hr3 ?_
  case hr3 => go_simp
  refine (HO.out _).mono ?_
  rintro e w3 ⟨rfl, hb3⟩
  have hb3' : Below w2.heap.size w2 w3 := ((Same.refl w2).drew w2.heap.size).trans hb3
  refine ⟨_, rfl, hb3', ?_⟩
  simp only [Act.put, List.setIfInBounds_toArray, List.set_cons_zero, List.set_cons_succ]
  refine mix_take 5 _ ?_ rfl rfl rfl (some 12) rfl (fun w' hw' => ?hv5) ?_
  case hv5 =>
    go_simp
    with_reducible rfl
  simp only [Act.put, List.setIfInBounds_toArray, List.set_cons_zero, List.set_cons_succ]
  refine mix_call 6 _ rfl rfl rfl 129 #[.agg (spA n i), .agg #[.int .i64 (worth (ts.getD p []) n i 0), .int .i64 (worth (ts.getD p []) n i 1), .int .i64 (worth (ts.getD p []) n i 2)]] (some 13) rfl ?hr6 ?_
  case hr6 => go_simp
  refine (HF.out _).mono ?_
  rintro e w4 ⟨rfl, hb4⟩
  have hb4' := bnext hb3' hb4
  refine ⟨_, rfl, hb4', ?_⟩
  simp only [Act.put, List.setIfInBounds_toArray, List.set_cons_zero, List.set_cons_succ]
  refine mix_take 7 _ ?_ rfl rfl rfl (some 6) rfl (fun w' hw' => ?hv7) ?_
  case hv7 =>
    go_simp
    with_reducible rfl
  simp only [Act.put, List.setIfInBounds_toArray, List.set_cons_zero, List.set_cons_succ]
  refine mix_done ?_
  go_wp2_with fail
  go_ret
  exact ⟨rfl, bnext hb0 hb4'⟩
end Go.Proofs.Ytgloelhpnhofgaa

namespace Go.Proofs.Ytgloelhpnhofgaa
open Go.RowKit
set_option maxRecDepth 4000
def OutFavouriteOf (w : World) (r0 : Int) (r1 : Bool) (e : Ending) (w' : World) : Prop := e = .returned (.tuple #[.int .i64 r0, .bool r1]) ∧ Below w.heap.size w w'
end Go.Proofs.Ytgloelhpnhofgaa

namespace Go.Proofs.Ytgloelhpnhofgaa
open Go.RowKit
set_option maxRecDepth 4000
/-- The label of a point: its owner's favourite. -/
def lbV (ts : List (List Int)) (n i : Nat) : Int := favP (ts.getD (ownr i).toNat []) n i
def ckl (ts : List (List Int)) (n : Nat) : List Int := (List.range (Pr.cnt n)).map (lbV ts n)
theorem ckl_len (ts : List (List Int)) (n : Nat) : (ckl ts n).length = Pr.cnt n := by simp [ckl]
theorem ownr_nat (i : Nat) (h : i < 45) : ∃ p : Nat, p < 3 ∧ ownr i = p := by
  have hb := ownr_bd i h
  obtain ⟨p, hp⟩ := Int.eq_ofNat_of_zero_le hb.1
  exact ⟨p, by omega, hp⟩
theorem lbV_bd (ts : List (List Int)) (n i : Nat) (h1 : 1 ≤ n) (h2 : n ≤ 8) (hi : i < Pr.cnt n) : 0 ≤ lbV ts n i ∧ lbV ts n i ≤ 2 := by
  have hc := (Pr.cnt_le n (by omega)).1
  exact favP_bd _ n i h1 (Pr.R_le_of_lt n (by omega) i hi) (Pr.RC_bd i (by omega)).1
set_option maxHeartbeats 1600000 in
theorem labelAt_any (n i : Nat) (h1 : 1 ≤ n) (h2 : n ≤ 8) (hi : i < Pr.cnt n) (ts : List (List Int)) (hy : rowsB n 9 ts = true) (w : World) :
    Calls Try.prog 105 #[.agg (cakeA n ts), .agg (spA n i)] w fun e w' => e = .returned (.int .i64 (lbV ts n i)) ∧ Below w.heap.size w w' := by
  have hc := (Pr.cnt_le n (by omega)).1
  obtain ⟨p, hp, hop⟩ := ownr_nat i (by omega)
  have HO := Lib.hid (fun w => owner_any n i (by omega) w)
  rw [hop] at HO
  have HF := Lib.hid (fun w => favouriteAt_any n p i h1 h2 hp hi ts hy w)
  have HV : Hid (lbV ts n i = favP (ts.getD p []) n i) := Lib.hid (by rw [lbV, hop]; rfl)
  clear hop
  obtain ⟨hg0, hg1⟩ := two_heap w (.cells (cakeA n ts) 88) (.cells (spA n i) 121)
  have hb0 := balloc (balloc (Below.refl w.heap.size w) (.cells (cakeA n ts) 88)) (.cells (spA n i) 121)
  have hz0 : ((w.alloc (.cells (cakeA n ts) 88)).alloc (.cells (spA n i) 121)).heap.size = w.heap.size + 2 := by simp
  go_enter Try.func105, Try.ntmps105
  go_wp2_with fail
  generalize (w.alloc (.cells (cakeA n ts) 88)).alloc (.cells (spA n i) 121) = w2 at hb0 hg0 hg1 hz0 ⊢
  refine wp_region_mix (fun w' => Below w2.heap.size w2 w') [3, 4] [0, 1, 2, 3, 4, 5] (by kernel_rfl) (by kernel_rfl) (fun _ _ d _ _ h => by cases d <;> exact h) (by kernel_rfl) rfl ((Same.refl w2).drew _) ?_
  refine mix_take 0 _ (.agg (cakeA n ts)) rfl rfl rfl (some 5) rfl (fun w' hw' => exec_row _ _ rfl (w.heap.size) rfl (cakeA n ts) (load_ok blkCake w' _ _ (((hw' : Below w2.heap.size w2 w').block _ (by omega)).trans hg0) (cakeA_size _ _))) ?_
  simp only [Act.put, List.setIfInBounds_toArray, List.set_cons_zero, List.set_cons_succ]
  refine mix_take 1 _ (.agg (spA n i)) rfl rfl rfl (some 6) rfl (fun w' hw' => exec_row _ _ rfl (w.heap.size + 1) rfl (spA n i) (load_ok blkSpot w' _ _ (((hw' : Below w2.heap.size w2 w').block _ (by omega)).trans hg1) (spA_size _ _))) ?_
  simp only [Act.put, List.setIfInBounds_toArray, List.set_cons_zero, List.set_cons_succ]
  refine mix_take 2 _ (.agg (spA n i)) rfl rfl rfl (some 7) rfl (fun w' hw' => exec_row _ _ rfl (w.heap.size + 1) rfl (spA n i) (load_ok blkSpot w' _ _ (((hw' : Below w2.heap.size w2 w').block _ (by omega)).trans hg1) (spA_size _ _))) ?_
  simp only [Act.put, List.setIfInBounds_toArray, List.set_cons_zero, List.set_cons_succ]
  refine mix_call 3 _ rfl rfl rfl 108 #[.agg (spA n i)] (some 8) rfl ?hr3 ?_
  case hr3 => go_simp
  refine (HO.out _).mono ?_
  rintro e w3 ⟨rfl, hb3⟩
  have hb3' : Below w2.heap.size w2 w3 := ((Same.refl w2).drew w2.heap.size).trans hb3
  refine ⟨_, rfl, hb3', ?_⟩
  simp only [Act.put, List.setIfInBounds_toArray, List.set_cons_zero, List.set_cons_succ]
  refine mix_call 4 _ rfl rfl rfl 124 #[.agg (cakeA n ts), .agg (spA n i), .int .i64 p] (some 9) rfl ?hr4 ?_
  case hr4 => go_simp
  refine (HF.out _).mono ?_
  rintro e w4 ⟨rfl, hb4⟩
  have hb4' := bnext hb3' hb4
  refine ⟨_, rfl, hb4', ?_⟩
  simp only [Act.put, List.setIfInBounds_toArray, List.set_cons_zero, List.set_cons_succ]
  refine mix_take 5 _ ?_ rfl rfl rfl (some 4) rfl (fun w' hw' => ?hv5) ?_
  case hv5 =>
    go_simp
    with_reducible rfl
  simp only [Act.put, List.setIfInBounds_toArray, List.set_cons_zero, List.set_cons_succ]
  refine mix_done ?_
  go_wp2_with fail
  go_ret
  exact ⟨ret_int HV.out.symm, bnext hb0 hb4'⟩
set_option maxHeartbeats 1600000 in
theorem lbyCake_any (n : Nat) (h1 : 1 ≤ n) (h2 : n ≤ 8) (ts : List (List Int)) (hy : rowsB n 9 ts = true) (w : World) :
    Calls Try.prog 104 #[.agg #[.int .i64 n], .func (.func 105) #[.agg (cakeA n ts)] #[]] w fun e w' => ∃ v, e = .returned v ∧ w'.ownsRow w.heap.size 3 1 v ((List.range (Pr.cnt n)).map (lbV ts n)).length (((List.range (Pr.cnt n)).map (lbV ts n)).map (Value.int .i64)) ∧ Below w.heap.size w w' := by
  have hcn := (Pr.cnt_le n (by omega)).1
  obtain ⟨i0, hi, hz0, hz1, hz2⟩ := info_parts intInfo
  have hLl : ((List.range (Pr.cnt n)).map (lbV ts n)).length = Pr.cnt n := by simp
  have hLg : ∀ k, k < Pr.cnt n → ((List.range (Pr.cnt n)).map (lbV ts n)).getD k 0 = lbV ts n k := fun k hk => by simp [List.getD, hk]
  have HC := Lib.hid (fun k (hk : k < Pr.cnt n) w' => labelAt_any n k h1 h2 hk ts hy w')
  generalize (List.range (Pr.cnt n)).map (lbV ts n) = L at *
  have HLL := Lib.hid hLl
  have HLG := Lib.hid hLg
  clear hLl hLg hy
  go_enter Try.func104, Try.ntmps104
  go_wp2_with fail
  refine (size_any n h2 _).mono ?_
  rintro e w1 ⟨rfl, hb1⟩
  have hm1 : w1.cell? ⟨w.heap.size, 0, none⟩ = some (.int .i64 n) := (hb1.cell (by simp)).trans (by go_cell)
  have hB1 := bnext (balloc (Below.refl w.heap.size w) (.cells #[.int .i64 n] 55)) hb1
  have hlt1 : w.heap.size < w1.heap.size := by have := hb1.size; simp at this; omega
  clear hb1
  go_wp2_with (at_make; refine wpList_make_full _ rfl _ _ 22 rfl w1.heap.size 3 i0 (.int .i64 0) 1 Try.underlying22 hi hz0 hz1 _ _ _ _ (Pr.cnt n) rfl rfl ?hC ?hL ?hb2 ?hb3 ?hb4 ?_)
  case hC => rfl
  case hL => rfl
  case hb2 => rw [hz2]; omega
  case hb3 => unfold maxLen; omega
  case hb4 => exact Nat.le_refl _
  intro w2 ho2 hg2
  have ho2' : w2.ownsRow w1.heap.size 3 1 (.slice (some ⟨w1.heap.size, 0, none⟩) (Pr.cnt n) (Pr.cnt n)) (Pr.cnt n) ((cpy L 0).map (Value.int .i64)) := by
    rw [cpy_zero, List.map_replicate, HLL.out]
    first | exact made_ints (Pr.cnt n) ▸ ho2 | exact made_ints' (Pr.cnt n) ▸ ho2
  have hB2 : Below w1.heap.size w1 w2 := (Below.refl _ _).grown hg2 (Nat.le_refl _) (fun k hk => by cases hk)
  have HM1 := Lib.hid hm1
  clear ho2 hg2 hm1
  go_wp2_with fail
  go_loopw [12] (fun v12 wr => ∃ k : Nat, k ≤ Pr.cnt n ∧ v12 = .int .i64 k ∧ wr.ownsRow w1.heap.size 3 1 (.slice (some ⟨w1.heap.size, 0, none⟩) (Pr.cnt n) (Pr.cnt n)) (Pr.cnt n) ((cpy L k).map (Value.int .i64)) ∧ Below w1.heap.size w1 wr) (fun v12 _ => Pr.cnt n - (intOf v12).toNat)
  case atStart => exact ⟨0, Nat.zero_le _, rfl, ho2', hB2⟩
  case round =>
    obtain ⟨k, hk, rfl, ho, hb⟩ := hrel
    by_cases hlt : k < Pr.cnt n
    · have hm : wr.cell? ⟨w.heap.size, 0, none⟩ = some (.int .i64 n) := (hb.cell hlt1).trans HM1.out
      have hk45 : k < 45 := by omega
      go_wp2_with fail
      refine (spotAt_any n k h1 h2 hk45 _).mono ?_
      rintro e w3 ⟨rfl, hb3⟩
      go_wp2_with fail
      refine (HC.out k hlt _).mono ?_
      rintro e w4 ⟨rfl, hb4⟩
      have hB4 := bnext hb3 hb4
      have ho4 := own_now ho hB4
      have hb4' := hb.trans (hB4.mono hb.size)
      have hf := ho4.frozenAt k
      have hcc := ho4.cellAt k (by omega)
      have hst := (ho4.stored k (.int .i64 (L.getD k 0))).1
      rw [cpy_set L k (by rw [HLL.out]; exact hlt)] at hst
      have HS := Lib.hid hst
      have hl' : k < ((cpy L k).map (Value.int .i64)).length := by rw [List.length_map, cpy_len _ _ (by rw [HLL.out]; omega), HLL.out]; exact hlt
      rw [List.getElem?_eq_getElem hl'] at hcc
      generalize ((cpy L k).map (Value.int .i64))[k] = old at hcc
      rw [← HLG.out k hlt]
      clear hst ho4 hl' ho hb hb3 hb4 hm
      generalize L.getD k 0 = x at *
      go_wp2_with fail
      go_roundw
      case rel => exact ⟨k + 1, by omega, by go_num, HS.out, hb4'.setCell (Nat.le_refl _) _⟩
      case measure => simp [intOf]; omega
    · have hk2 : k = Pr.cnt n := by omega
      have e : cpy L k = L := by rw [hk2, ← HLL.out]; exact cpy_all L
      rw [e] at ho
      clear e hk2
      go_wp2_with fail
      go_ret
      rw [HLL.out]
      exact ⟨_, rfl, own_base ho (Nat.le_of_lt hlt1), bnext hB1 hb⟩
set_option maxHeartbeats 800000 in
theorem labels_any (n : Nat) (h1 : 1 ≤ n) (h2 : n ≤ 8) (ts : List (List Int)) (hy : rowsB n 9 ts = true) (w : World) :
    Calls Try.prog 70 #[.agg (cakeA n ts)] w fun e w' => ∃ v, e = .returned v ∧ OI w' w.heap.size w'.heap.size v (ckl ts n) ∧ Below w.heap.size w w' := by
  have HB := Lib.hid (fun w => lbyCake_any n h1 h2 ts hy w)
  have hmf : ∀ (fn : Fn) (first cap : Array Value) (w : World), (Instr.makeFunc fn first cap).run Try.prog w = .ok (.func fn first cap) w := fun _ _ _ _ => rfl
  have hg0 := heap_alloc_new w (.cells (cakeA n ts) 88)
  have hb0 := balloc (Below.refl w.heap.size w) (.cells (cakeA n ts) 88)
  have hz0 : (w.alloc (.cells (cakeA n ts) 88)).heap.size = w.heap.size + 1 := by simp
  have hc0 := blk_cell hg0 0 _ (cakeF_zero n (tv ts))
  clear hy
  go_enter Try.func70, Try.ntmps70
  go_wp2_with ((with_reducible refine load_blk blkCake ?_ _ rfl (w.heap.size) ?_ (cakeA n ts) hg0 (cakeA_size _ _) ?_); exact rfl; exact rfl; simp only [Act.put, List.setIfInBounds_toArray, List.set_cons_zero, List.set_cons_succ])
  refine (HB.out _).mono ?_
  rintro e w2 ⟨v, rfl, ho, hb2⟩
  have hB2 := bnext hb0 hb2
  go_wp2_with fail
  go_ret
  refine ⟨_, rfl, ⟨_, own_base ho (by rw [hz0]; omega), own_lt ho⟩, hB2⟩
set_option maxHeartbeats 1600000 in
theorem ckLabels_any (n : Nat) (h1 : 1 ≤ n) (h2 : n ≤ 8) (ts : List (List Int)) (hy : rowsB n 9 ts = true) (a : Option Addr) (cap : Nat) (w : World) (h : RdSS w w.heap.size a ts) :
    Calls Try.prog 68 #[.int .i64 n, .slice a ts.length cap] w fun e w' => ∃ v, e = .returned v ∧ OI w' w.heap.size w'.heap.size v (ckl ts n) ∧ Below w.heap.size w w' := by
  have hcn := (Pr.cnt_le n (by omega)).1
  obtain ⟨hl3, hrow⟩ := rowsB_at hy
  have HROW := Lib.hid hrow
  have HL3 := Lib.hid hl3
  have HRD := Lib.hid h
  have HCL : Hid (ckl ts n = (List.range (Pr.cnt n)).map (lbV ts n)) := Lib.hid rfl
  have HSUC : Hid (∀ k, (List.range (k + 1)).map (lbV ts n) = (List.range k).map (lbV ts n) ++ [lbV ts n k]) := Lib.hid (fun k => by rw [List.range_succ, List.map_append]; rfl)
  have HLN : Hid (∀ k, ((List.range k).map (lbV ts n)).length = k) := Lib.hid (fun k => by simp)
  have HV : Hid (∀ k p : Nat, ownr k = p → lbV ts n k = favP (ts.getD p []) n k) := Lib.hid (fun k p h => by rw [lbV, h]; rfl)
  clear h hrow hy hl3
  go_enter Try.func68, Try.ntmps68
  go_wp2_with fail
  go_loopw [5, 6] (fun v5 v6 wr => ∃ k : Nat, k ≤ Pr.cnt n ∧ v6 = .int .i64 k ∧ wr.ownsRow w.heap.size 3 1 v5 ((List.range k).map (lbV ts n)).length (((List.range k).map (lbV ts n)).map (Value.int .i64)) ∧ Below w.heap.size w wr) (fun _ v6 _ => Pr.cnt n - (intOf v6).toNat)
  case atStart => exact ⟨0, Nat.zero_le _, rfl, World.ownsRow_nil _ _ _ _, Below.refl _ _⟩
  case round =>
    obtain ⟨k, hk, rfl, ho, hb⟩ := hrel
    obtain ⟨wq, rfl⟩ : ∃ wq : World, wq = wr := ⟨_, rfl⟩
    by_cases hlt : k < Pr.cnt n
    · have hlti : (k : Int) < (Pr.cnt n : Nat) := by omega
      obtain ⟨p, hp, hop⟩ := ownr_nat k (by omega)
      have HO := Lib.hid (fun w => ckOwner_any n k h1 h2 (by omega) w)
      rw [hop] at HO
      obtain ⟨htl, hta⟩ := HROW.out p (by have := HL3.out; omega)
      have hpi : (p : Int) < (ts.length : Int) := by have := HL3.out; omega
      have hv := HV.out k p hop
      have hs1 := HSUC.out k
      rw [hv] at hs1
      have HS1 := Lib.hid hs1
      have HTL := Lib.hid htl
      have HTA := Lib.hid hta
      have hlk := HLN.out k
      have hz := hb.size
      generalize (List.range k).map (lbV ts n) = L at *
      clear hs1 hv hop htl hta
      go_wp2_with fail
      refine (meCount_any n h2 _).mono ?_
      rintro e w' ⟨rfl, rfl⟩
      go_wp2_with fail
      refine (HO.out _).mono ?_
      rintro e w2 ⟨rfl, hb2⟩
      have hB2 := bnext hb hb2
      have ho2 := own_now ho hb2
      obtain ⟨-, b, off, hr⟩ := rdss_later HRD.out hB2
      obtain ⟨ha, hbl, ra, rc, c1, hrs⟩ := hr p (by have := HL3.out; omega)
      have HRS := Lib.hid (rds_mono hrs hB2.size)
      subst ha
      clear hr hrs ho hb hb2
      generalize ts.getD p [] = t at *
      go_wp2_with fail
      refine (ckFavourite_any n k h1 h2 hlt t HTL.out HTA.out ra rc w2 HRS.out).mono ?_
      rintro e w3 ⟨rfl, hb3⟩
      have hB3 := bnext hB2 hb3
      have ho3 := own_now ho2 hb3
      have hz3 := hB3.size
      clear ho2 hB2 hb3 c1
      generalize favP t n k = x at *
      go_wp2_with (at_builtin; refine append_int w.heap.size _ _ L _ rfl _ _ rfl rfl rfl ho3 hz3 (by omega) ?_; intro v' w6 ho6 hb6)
      go_roundw
      case rel => first | exact ⟨k + 1, by omega, by go_num, by rw [HS1.out]; exact ho6, hB3.trans hb6⟩ | ((repeat apply Exists.intro); exact ⟨⟨k + 1, by omega, by go_num, by rw [HS1.out]; exact ho6, hB3.trans hb6⟩, rfl⟩)
      case measure => simp [intOf]; omega
    · have hk2 : k = Pr.cnt n := by omega
      subst hk2
      rw [← HCL.out] at ho
      go_wp2_with fail
      refine (meCount_any n h2 _).mono ?_
      rintro e w' ⟨rfl, rfl⟩
      go_wp2_with fail
      go_ret
      exact ⟨_, rfl, ⟨_, ho, own_lt ho⟩, hb⟩
end Go.Proofs.Ytgloelhpnhofgaa

namespace Go.Proofs.Ytgloelhpnhofgaa
open Go.RowKit
set_option maxRecDepth 4000
theorem tstB_yes {n : Int} {ts : List (List Int)} (h : tstB n ts = true) : ∃ m : Nat, n = m ∧ 1 ≤ m ∧ m ≤ 8 ∧ rowsB m 9 ts = true := by
  simp only [tstB, Bool.and_eq_true, decide_eq_true_eq] at h
  obtain ⟨⟨h1, h2⟩, hy⟩ := h
  obtain ⟨m, rfl⟩ := Int.eq_ofNat_of_zero_le (show 0 ≤ n by omega)
  exact ⟨m, rfl, by omega, by omega, by simpa using hy⟩
theorem cakeOf_fail (n : Int) (ts : List (List Int)) (hno : tstB n ts = false) (a : Option Addr) (cap : Nat) (w : World) (h : RdSS w w.heap.size a ts) :
    Calls Try.prog 69 #[.int .i64 n, .slice a ts.length cap] w fun e w' => e = .returned (.tuple #[.agg zeroC, .bool false]) ∧ Below w.heap.size w w' := by
  by_cases hn : 1 ≤ n ∧ n ≤ 8
  · obtain ⟨n, rfl⟩ := Int.eq_ofNat_of_zero_le (show 0 ≤ n by omega)
    have e : tstB n ts = rowsB n 9 ts := by simp [tstB]; omega
    exact cakeOf_no n (by omega) (by omega) ts a cap w h (by rw [← e]; exact hno)
  · exact cakeOf_side n hn ts a cap w
theorem ckTastes_yes (n : Nat) (h1 : 1 ≤ n) (h2 : n ≤ 8) (ts : List (List Int)) (hy : rowsB n 9 ts = true) (a : Option Addr) (cap B : Nat) (w : World) (h : RdSS w B a ts) :
    Calls Try.prog 67 #[.int .i64 n, .slice a ts.length cap] w fun e w' => e = .returned (.bool true) ∧ w = w' := by
  have := ckTastes_side n h1 h2 ts a cap B w h
  rwa [hy] at this
theorem ckTastes_no (n : Int) (ts : List (List Int)) (hy : tstB n ts = false) (a : Option Addr) (cap B : Nat) (w : World) (h : RdSS w B a ts) :
    Calls Try.prog 67 #[.int .i64 n, .slice a ts.length cap] w fun e w' => e = .returned (.bool false) ∧ w = w' := by
  have := ckTastes_any n ts a cap B w h
  rwa [hy] at this
end Go.Proofs.Ytgloelhpnhofgaa
