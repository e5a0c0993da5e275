import Derived.RegionTactic
import Derived.Test.YtncpnkcdjfohgaaDoorMd2
import Derived.Test.YtncpnkcdjfohgaaDoorMb3
namespace Go.Proofs.YtncpnkcdjfohgaaDoor
open Go.RowKit
set_option maxRecDepth 4000
/-- What the package's variable of sharings holds. -/
def ShV (w : World) : Prop := (∀ q, q < 18 → w.cell? ⟨0, q, none⟩ = some (.int .i64 (shn q))) ∧ 0 < w.heap.size
theorem ShV_later {w w' : World} (h : ShV w) (hb : Below w.heap.size w w') : ShV w' := ⟨fun q hq => (hb.cell (p := ⟨0, q, none⟩) h.2).trans (h.1 q hq), Nat.lt_of_lt_of_le h.2 hb.size⟩
theorem blkAll : Blk 111 18 := ⟨.inr ⟨_, _, Tryd.underlying111⟩, by kernel_rfl⟩
theorem blkSh : Blk 58 3 := ⟨.inr ⟨_, _, Tryd.underlying58⟩, by kernel_rfl⟩
theorem idxAll (k : Nat) (hk : k < 6) (w : World) : (Instr.index 111 (.agg (arrF 18 shn)) (.int .i64 k)).run Tryd.prog w = .ok (.agg #[.int .i64 (shn (3 * k)), .int .i64 (shn (3 * k + 1)), .int .i64 (shn (3 * k + 2))]) w := by
  rcases (by omega : k = 0 ∨ k = 1 ∨ k = 2 ∨ k = 3 ∨ k = 4 ∨ k = 5) with rfl | rfl | rfl | rfl | rfl | rfl
  · exact (show (Instr.index 111 (.agg (arrF 18 shn)) (.int .i64 0)).run Tryd.prog w = .ok (.agg #[.int .i64 0, .int .i64 1, .int .i64 2]) w by kernel_rfl)
  · exact (show (Instr.index 111 (.agg (arrF 18 shn)) (.int .i64 1)).run Tryd.prog w = .ok (.agg #[.int .i64 0, .int .i64 2, .int .i64 1]) w by kernel_rfl)
  · exact (show (Instr.index 111 (.agg (arrF 18 shn)) (.int .i64 2)).run Tryd.prog w = .ok (.agg #[.int .i64 1, .int .i64 0, .int .i64 2]) w by kernel_rfl)
  · exact (show (Instr.index 111 (.agg (arrF 18 shn)) (.int .i64 3)).run Tryd.prog w = .ok (.agg #[.int .i64 1, .int .i64 2, .int .i64 0]) w by kernel_rfl)
  · exact (show (Instr.index 111 (.agg (arrF 18 shn)) (.int .i64 4)).run Tryd.prog w = .ok (.agg #[.int .i64 2, .int .i64 0, .int .i64 1]) w by kernel_rfl)
  · exact (show (Instr.index 111 (.agg (arrF 18 shn)) (.int .i64 5)).run Tryd.prog w = .ok (.agg #[.int .i64 2, .int .i64 1, .int .i64 0]) w by kernel_rfl)
section
variable {ops : Array Oper} {rest : List Oper} {o : Oper} {a : Act} {w : World} {Q : Exit → Act → World → Prop} {ty : TypeId} {n : Nat}
theorem load_rng (bk : Blk ty n) (hw : Region.wanted o (yielded ops a.tmps) = true) (x : Operand) (ho : o.op = .load ty x) (g off : Nat) (hx : a.eval x = .pointer (some ⟨g, off, none⟩)) (v : Array Value) (hr : w.rangeAt g off v.toList) (hc : v.size = n)
    (h : wpList Tryd.prog ops Q rest (a.put o.dst (.agg v)) w) : wpList Tryd.prog ops Q (o :: rest) a w := by
  exact wpList_step fun K hK => by
    rw [if_pos hw]
    rcases bk.und with ⟨_, hu⟩ | ⟨_, _, hu⟩ <;> exact wp_load_mid _ x ho g off hx v.toList _ hr hu rfl (by rw [bk.size]; simp [hc]) (hK _ _ (by simpa using h))
end
theorem shv_range {w : World} (h : ShV w) : w.rangeAt 0 0 (arrF 18 shn).toList := fun j u hj => by
  rw [Array.getElem?_toList] at hj
  have hlt : j < 18 := by have := (Array.getElem?_eq_some_iff.1 hj).1; rwa [arrF_size] at this
  rw [arrF_at 18 shn j hlt] at hj
  rw [Nat.zero_add, h.1 j hlt]
  exact hj
/-- Shares as they lie in memory. -/
def shA (k : Nat) : Array Value := #[.int .i64 (shn (3 * k)), .int .i64 (shn (3 * k + 1)), .int .i64 (shn (3 * k + 2))]
def zeroH : Array Value := #[.int .i64 0, .int .i64 0, .int .i64 0]
theorem shA_size (k : Nat) : (shA k).size = 3 := rfl
theorem zeroH_size : zeroH.size = 3 := rfl
theorem shA_one (k : Nat) : (shA k).all (·.oneCell') = true := by simp [shA, Value.oneCell']
theorem zeroH_one : zeroH.all (·.oneCell') = true := by simp [zeroH, Value.oneCell']
theorem run_alloc_sh (w : World) : (Instr.alloc 58 true (.tuple #[])).run Tryd.prog w = .ok (.pointer (some ⟨w.heap.size, 0, none⟩)) (w.alloc (.cells zeroH 58)) := by kernel_rfl
theorem run_build0_sh (w : World) : (Instr.build 58 #[]).run Tryd.prog w = .ok (.agg zeroH) w := by kernel_rfl
section
variable {ops : Array Oper} {rest : List Oper} {o : Oper} {a : Act} {w : World} {Q : Exit → Act → World → Prop}
theorem build0_sh (hgd : o.guard = none) (ho : o.op = .build 58 #[])
    (h : wpList Tryd.prog ops Q rest (a.put o.dst (.agg zeroH)) w) : wpList Tryd.prog ops Q (o :: rest) a w := by
  refine wpList_plain hgd fun K hK => ?_
  unfold Oper.wp
  simp [execOp, ho, run_build0_sh, Result.andThen]
  exact hK _ _ h
end
set_option maxHeartbeats 1600000 in
theorem equal_any (xs ys : List Int) (a a' : Option Addr) (cap cap' B B' : Nat) (w : World) (h : RdS w B a xs) (h' : RdS w B' a' ys) :
    Calls Tryd.prog 87 #[.slice a xs.length cap, .slice a' ys.length cap'] w fun e w' => e = .returned (.bool (decide (xs = ys))) ∧ Same w w' := by
  obtain ⟨b, off, ⟨hm, hc⟩, -⟩ := h
  obtain ⟨b', off', ⟨hm', hc'⟩, -⟩ := h'
  unfold maxLen at hm hm'
  have HC := Lib.hid hc
  have HC' := Lib.hid hc'
  clear hc hc'
  by_cases hl : xs.length = ys.length
  · have hne : ((xs.length : Int) != (ys.length : Int)) = false := by rw [hl]; simp
    have HL := Lib.hid hl
    have HD : Hid (∀ k, k < xs.length → xs.getD k 0 ≠ ys.getD k 0 → decide (xs = ys) = false) := Lib.hid (fun k hk hn => by
      rw [decide_eq_false_iff_not]; rintro rfl; exact hn rfl)
    have HY : Hid ((∀ k, k < xs.length → xs.getD k 0 = ys.getD k 0) → decide (xs = ys) = true) := Lib.hid (fun h => by
      rw [decide_eq_true_eq]
      apply List.ext_getElem hl
      intro i h1 h2
      have := h i h1
      simpa [List.getD, List.getElem?_eq_getElem h1, List.getElem?_eq_getElem h2] using this)
    clear hl
    go_enter Tryd.func87, Tryd.ntmps87
    go_wp2_with fail
    go_loopw [13] (fun v13 wr => ∃ k : Nat, k ≤ xs.length ∧ v13 = .int .i64 k ∧ (∀ j, j < k → xs.getD j 0 = ys.getD j 0) ∧ Same w wr) (fun v13 _ => xs.length - (intOf v13).toNat)
    case atStart => exact ⟨0, Nat.zero_le _, rfl, fun j hj => by omega, Same.refl _⟩
    case round =>
      obtain ⟨k, hk, rfl, hall, hs⟩ := hrel
      have HA := Lib.hid hall
      clear hall
      by_cases hlt : k < xs.length
      · obtain ⟨ha, c⟩ := HC.out k hlt
        obtain ⟨ha', c'⟩ := HC'.out k (by have := HL.out; omega)
        subst ha ha'
        have c1 : wr.cell? ⟨b, off + k, none⟩ = some (.int .i64 (xs.getD k 0)) := (hs.cell _).trans c
        have c2 : wr.cell? ⟨b', off' + k, none⟩ = some (.int .i64 (ys.getD k 0)) := (hs.cell _).trans c'
        have hi : (k : Int) < (xs.length : Int) := by omega
        have hi2 : (k : Int) < (ys.length : Int) := by have := HL.out; omega
        have HDK := Lib.hid (HD.out k hlt)
        have HX : Hid (xs.getD k 0 = ys.getD k 0 → ∀ j, j < k + 1 → xs.getD j 0 = ys.getD j 0) := Lib.hid (fun h j hj => by
          by_cases e : j = k
          · rw [e]; exact h
          · exact HA.out j (by omega))
        clear c c' HA
        generalize xs.getD k 0 = x at *
        generalize ys.getD k 0 = y at *
        by_cases hxy : x = y
        · have hne2 : (x != y) = false := by simp [hxy]
          have HXY := Lib.hid (HX.out hxy)
          clear hxy
          go_wp2
          go_quiet (fail)
          go_wp2
          go_roundw
          case rel => exact ⟨k + 1, by omega, by go_num, HXY.out, hs.drewN _⟩
          case measure => simp [intOf]; omega
        · have hne2 : (x != y) = true := by simp [hxy]
          have HF := Lib.hid (HDK.out hxy)
          clear hxy
          go_wp2
          go_quiet (fail)
          go_wp2
          go_ret
          exact ⟨ret_bool HF.out.symm, hs.drewN _⟩
      · have hT := Lib.hid (HY.out (fun j hj => HA.out j (by omega)))
        go_wp2
        go_ret
        exact ⟨ret_bool hT.out.symm, hs⟩
  · have hne : ((xs.length : Int) != (ys.length : Int)) = true := by simp; omega
    have HF : Hid (decide (xs = ys) = false) := Lib.hid (by rw [decide_eq_false_iff_not]; rintro rfl; exact hl rfl)
    clear hl
    go_enter Tryd.func87, Tryd.ntmps87
    go_wp2
    go_ret
    exact ⟨ret_bool HF.out.symm, Same.refl _⟩
set_option maxHeartbeats 1600000 in
theorem sharingOf_any (xs : List Int) (r : Array Value) (ok : Bool) (hr : (ok = false ∧ r = zeroH ∧ ∀ k, k < 6 → shL k ≠ xs) ∨ (ok = true ∧ ∃ k, k < 6 ∧ xs = shL k ∧ r = shA k)) (a : Option Addr) (cap : Nat) (w : World) (hv : ShV w) (h : RdS w w.heap.size a xs) :
    Calls Tryd.prog 55 #[.slice a xs.length cap] w fun e w' => e = .returned (.tuple #[.agg r, .bool ok]) ∧ Below w.heap.size w w' := by
  have HR := Lib.hid hr
  have HRD := Lib.hid h
  have HI := Lib.hid (fun k hk w => idxAll k hk w)
  have hb0 := balloc (Below.refl w.heap.size w) (.cells zeroH 58)
  have hg0 := heap_alloc_new w (.cells zeroH 58)
  have hrg := shv_range (ShV_later hv hb0)
  clear hr hv h
  go_enter Tryd.func55, Tryd.ntmps55
  go_wp2_with (first | (with_reducible refine alloc_blk zeroH run_alloc_sh rfl rfl ?_) | ((with_reducible refine load_rng blkAll ?_ _ rfl 0 0 ?_ (arrF 18 shn) hrg (arrF_size _ _) ?_); exact rfl; exact rfl; simp only [Act.put, List.setIfInBounds_toArray, List.set_cons_zero, List.set_cons_succ]))
  generalize w.alloc (.cells zeroH 58) = w0 at hb0 hg0 ⊢
  clear hrg
  generalize arrF 18 shn = ar at *
  go_loopw [7] (fun v7 wr => ∃ k : Nat, k ≤ 6 ∧ v7 = .int .i64 k ∧ (∀ j, j < k → shL j ≠ xs) ∧ Below w.heap.size w wr ∧ wr.heap[w.heap.size]? = some (.cells zeroH 58 (0, 0))) (fun v7 _ => 6 - (intOf v7).toNat)
  case atStart => exact ⟨0, by omega, rfl, fun j hj => by omega, hb0, hg0⟩
  case round =>
    clear hb0 hg0
    obtain ⟨k, hk, rfl, hno, hb, hg⟩ := hrel
    obtain ⟨wq, rfl⟩ : ∃ wq : World, wq = wr := ⟨_, rfl⟩
    have HNO := Lib.hid hno
    clear hno
    have hz : w.heap.size < wq.heap.size := (Array.getElem?_eq_some_iff.1 hg).1
    by_cases hlt : k < 6
    · have hki : (k : Int) < 6 := by omega
      have hidx := HI.out k hlt
      have HSL : Hid (shL k = [shn (3 * k), shn (3 * k + 1), shn (3 * k + 2)]) := Lib.hid rfl
      have HSA : Hid (shA k = #[.int .i64 (shn (3 * k)), .int .i64 (shn (3 * k + 1)), .int .i64 (shn (3 * k + 2))]) := Lib.hid rfl
      obtain ⟨w1, hw1⟩ : ∃ w1, w1 = wq.alloc (.cells (shA k) 58) := ⟨_, rfl⟩
      have hb1 : Below wq.heap.size wq w1 := by rw [hw1]; exact balloc (Below.refl _ _) _
      have hg1 : w1.heap[wq.heap.size]? = some (.cells (shA k) 58 (0, 0)) := by rw [hw1]; exact heap_alloc_new _ _
      have hB1 := bnext hb hb1
      have hg01 := (hb1.block w.heap.size hz).trans hg
      have hrd : RdS w1 w1.heap.size (some ⟨wq.heap.size, 0, none⟩) (shL k) := ⟨wq.heap.size, 0, ⟨by simp [shL, maxLen], fun j hj => ⟨rfl, by
        have hj3 : j < 3 := hj
        rw [Nat.zero_add, shL_at k j hj3]
        exact blk_cell hg1 j _ (by rcases (by omega : j = 0 ∨ j = 1 ∨ j = 2) with rfl | rfl | rfl <;> rfl)⟩⟩, .inr (Array.getElem?_eq_some_iff.1 hg1).1⟩
      have HRD2 := Lib.hid hrd
      rw [HSA.out] at hw1
      have HW1 := Lib.hid hw1
      clear hrd hw1
      generalize shn (3 * k) = x at hidx HW1
      generalize shn (3 * k + 1) = y at hidx HW1
      generalize shn (3 * k + 2) = z at hidx HW1
      go_wp2_with fail
      rw [← HW1.out]
      refine (equal_any (shL k) xs _ _ _ _ _ _ w1 HRD2.out (rds_mono (rds_later HRD.out hB1) hB1.size)).mono ?_
      rintro e w2 ⟨rfl, hs2⟩
      have hB2 := below_same hB1 hs2
      have hg12 := ((hs2 (wq.heap.size + 1)).block wq.heap.size (by omega)).trans hg1
      have hg02 := ((hs2 (w.heap.size + 1)).block w.heap.size (by omega)).trans hg01
      by_cases he : shL k = xs
      · rw [decide_eq_true he]
        rcases HR.out with ⟨-, -, hf⟩ | ⟨rfl, k', hk', e1, e2⟩
        · exact absurd he (hf k hlt)
        · have ek : k = k' := shL_inj k hlt k' hk' (by rw [he, e1])
          subst ek
          subst e2
          clear he e1 hidx
          go_wp2_with (first | ((with_reducible refine load_blk blkSh ?_ _ rfl (wq.heap.size) ?_ (shA k) hg12 (shA_size _) ?_); exact rfl; exact rfl; simp only [Act.put, List.setIfInBounds_toArray, List.set_cons_zero, List.set_cons_succ]) | ((with_reducible refine store_blk blkSh rfl _ _ rfl w.heap.size (shA k) zeroH ?_ ?_ hg02 zeroH_size (shA_size _) (shA_one _) w.heap.size (Nat.le_refl _) ?_); exact rfl; exact rfl; intro w7 hg7 hb7 _ _))
          try rw [Exit.noGoto_ret]
          exact bodyPost_ret (results_blk blkSh rfl _ _ w.heap.size _ _ rfl rfl hg7 (shA_size _)) rfl ⟨rfl, hB2.trans hb7⟩
      · rw [decide_eq_false he]
        have HNO2 : Hid (∀ j, j < k + 1 → shL j ≠ xs) := Lib.hid (fun j hj => by
          by_cases e : j = k
          · rw [e]; exact he
          · exact HNO.out j (by omega))
        clear he HNO
        go_wp2_with fail
        go_roundw
        case rel => exact ⟨k + 1, by omega, by go_num, HNO2.out, hB2, hg02⟩
        case measure => simp [intOf]; omega
    · rcases HR.out with ⟨rfl, rfl, -⟩ | ⟨-, k', hk', e1, -⟩
      · go_wp2_with (first | (with_reducible refine build0_sh rfl rfl ?_) | ((with_reducible refine store_blk blkSh rfl _ _ rfl w.heap.size zeroH zeroH ?_ ?_ hg zeroH_size zeroH_size zeroH_one w.heap.size (Nat.le_refl _) ?_); exact rfl; exact rfl; intro w7 hg7 hb7 _ _))
        try rw [Exit.noGoto_ret]
        exact bodyPost_ret (results_blk blkSh rfl _ _ w.heap.size _ _ rfl rfl hg7 zeroH_size) rfl ⟨rfl, hb.trans hb7⟩
      · exact absurd e1.symm (HNO.out k' (by omega))
end Go.Proofs.YtncpnkcdjfohgaaDoor
