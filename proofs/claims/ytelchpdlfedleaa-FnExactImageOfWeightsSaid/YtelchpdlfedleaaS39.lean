import Derived.LoopN
import Derived.RegionTactic
import Derived.Test.YtelchpdlfedleaaS37
import Derived.Test.YtelchpdlfedleaaS15s
import Derived.Test.YtelchpdlfedleaaS29
namespace Go.Proofs.Ytelchpdlfedleaa
open Go.RowKit
set_option maxRecDepth 4000
/-- Nine numbers in a row, as three points. -/
def nine (P : Nat → Nat → Int) : Array Value := n9 (P 0 0) (P 0 1) (P 0 2) (P 1 0) (P 1 1) (P 1 2) (P 2 0) (P 2 1) (P 2 2)
theorem nine_at (P : Nat → Nat → Int) (i k : Nat) (hi : i < 3) (hk : k < 3) : (nine P)[i * 3 + k]? = some (.int .i64 (P i k)) := by
  rcases (by omega : i = 0 ∨ i = 1 ∨ i = 2) with rfl | rfl | rfl <;> rcases (by omega : k = 0 ∨ k = 1 ∨ k = 2) with rfl | rfl | rfl <;> rfl
theorem three_at (W : Nat → Int) (i : Nat) (hi : i < 3) : (spA3 (W 0) (W 1) (W 2))[i]? = some (.int .i64 (W i)) := by
  rcases (by omega : i = 0 ∨ i = 1 ∨ i = 2) with rfl | rfl | rfl <;> rfl
theorem idx_sp (p : Nat → Int) (k : Nat) (hk : k < 3) (w : World) : (Instr.index 50 (.agg #[.int .i64 (p 0), .int .i64 (p 1), .int .i64 (p 2)]) (.int .i64 (k : Nat))).run Try.prog w = .ok (.int .i64 (p k)) w := by
  rcases (by omega : k = 0 ∨ k = 1 ∨ k = 2) with rfl | rfl | rfl <;> kernel_rfl
set_option maxHeartbeats 3200000 in
theorem wmix_any (W : Nat → Int) (P : Nat → Nat → Int) (hs : Small3 W P) (b cap : Nat) (ty : TypeId) (w : World) (hg : w.heap[b]? = some (.cells (nine P) ty (0, 0))) :
    Calls Try.prog 84 #[.agg (spA3 (W 0) (W 1) (W 2)), .slice (some ⟨b, 0, none⟩) 3 cap] w fun e w' => ∃ v, e = .returned v ∧ OI w' w.heap.size w'.heap.size v (mxr W P 3 0) ∧ Below w.heap.size w w' := by
  obtain ⟨i0, hi, hz0, hz1, hz2⟩ := info_parts intInfo
  have hbl : b < w.heap.size := (Array.getElem?_eq_some_iff.1 hg).1
  obtain ⟨w1, hw1⟩ : ∃ w1, w1 = w.alloc (.cells (spA3 (W 0) (W 1) (W 2)) 74) := ⟨_, rfl⟩
  have hb1 : Below w.heap.size w w1 := by rw [hw1]; exact balloc (Below.refl _ _) _
  have hg1 : w1.heap[w.heap.size]? = some (.cells (spA3 (W 0) (W 1) (W 2)) 74 (0, 0)) := by rw [hw1]; exact heap_alloc_new w _
  have hz1' : w1.heap.size = w.heap.size + 1 := by rw [hw1]; simp
  have hgb := heap_later hg hb1
  have HW1 := Lib.hid hw1
  have HC : Hid (∀ i, i < 3 → ∀ k, k < 3 → w1.cell? ⟨b, i * 3 + k, none⟩ = some (.int .i64 (P i k))) := Lib.hid (fun i hi k hk => blk_cell hgb _ _ (nine_at P i k hi hk))
  have HW : Hid (∀ i, i < 3 → w1.cell? ⟨w.heap.size, i, none⟩ = some (.int .i64 (W i))) := Lib.hid (fun i hi => blk_cell hg1 _ _ (three_at W i hi))
  have hlw : w.heap.size < w1.heap.size := by omega
  have hlb : b < w1.heap.size := by omega
  have hzb : w.heap.size ≤ w1.heap.size := by omega
  have HS := Lib.hid hs
  have HAB := Lib.hid (acc_bd hs)
  have HSB := Lib.hid (sum_bd hs)
  have HML := Lib.hid (mxr_len W P)
  have HMA := Lib.hid (mxr_at W P)
  have HMS := Lib.hid (mxr_set W P)
  have HM3 := Lib.hid (mxr_sum W P)
  have HME := Lib.hid (mxr_end W P)
  have HM0 := Lib.hid (mxr_zero W P)
  clear hw1 hg1 hgb hs hg hz1'
  go_enter Try.func84, Try.ntmps84
  go_wp2_with (at_make; rw [← HW1.out]; refine wpList_make_full _ rfl _ _ 27 rfl w1.heap.size 3 i0 (.int .i64 0) 1 Try.underlying27 hi hz0 hz1 _ _ _ _ 4 rfl rfl ?hC ?hL ?hb2 ?hb3 ?hb4 ?_)
  case hC => rfl
  case hL => rfl
  case hb2 => rw [hz2]; omega
  case hb3 => unfold maxLen; omega
  case hb4 => exact Nat.le_refl _
  intro w2 ho1 hg1
  have ho1' : w2.ownsRow w1.heap.size 3 1 (.slice (some ⟨w1.heap.size, 0, none⟩) 4 4) 4 ((mxr W P 0 0).map (Value.int .i64)) := by
    rw [HM0.out]
    have e : (madeCells #[Value.int .i64 0] 4).toList = [.int .i64 0, .int .i64 0, .int .i64 0, .int .i64 0] := made_ints' 4
    rw [e] at ho1
    exact ho1
  have hB1 : Below w1.heap.size w1 w2 := (Below.refl _ _).grown hg1 (Nat.le_refl _) (fun k hk => by cases hk)
  clear ho1 hg1
  go_wp2_with fail
  go_loopw [13] (fun v13 wr => ∃ i : Nat, i ≤ 3 ∧ v13 = .int .i64 i ∧ wr.ownsRow w1.heap.size 3 1 (.slice (some ⟨w1.heap.size, 0, none⟩) 4 4) 4 ((mxr W P i 0).map (Value.int .i64)) ∧ Below w1.heap.size w1 wr) (fun v13 _ => 3 - (intOf v13).toNat)
  case atStart => exact ⟨0, Nat.zero_le _, rfl, ho1', hB1⟩
  case round =>
    clear ho1' hB1
    obtain ⟨i, hi, rfl, ho, hb⟩ := hrel
    obtain ⟨wq, rfl⟩ : ∃ wq : World, wq = wr := ⟨_, rfl⟩
    by_cases hlt : i < 3
    · have hp := HC.out i hlt
      have g1 := HW.out i hlt
      have d0 : wq.cell? ⟨b, i * 3, none⟩ = some (.int .i64 (P i 0)) := (hb.cell (p := ⟨b, i * 3, none⟩) hlb).trans (hp 0 (by omega))
      have d1 : wq.cell? ⟨b, i * 3 + 1, none⟩ = some (.int .i64 (P i 1)) := (hb.cell (p := ⟨b, i * 3 + 1, none⟩) hlb).trans (hp 1 (by omega))
      have d2 : wq.cell? ⟨b, i * 3 + 2, none⟩ = some (.int .i64 (P i 2)) := (hb.cell (p := ⟨b, i * 3 + 2, none⟩) hlb).trans (hp 2 (by omega))
      have HX := Lib.hid (idx_sp (P i))
      have hoq := own_now ho (balloc (Below.refl wq.heap.size wq) (.cells #[.int .i64 (P i 0), .int .i64 (P i 1), .int .i64 (P i 2)] 50))
      have hbq := balloc hb (.cells #[.int .i64 (P i 0), .int .i64 (P i 1), .int .i64 (P i 2)] 50)
      have hii : (i : Int) < 3 := by omega
      have HAi := Lib.hid (HMA.out i)
      have HSi := Lib.hid (HMS.out i)
      have HLi := Lib.hid (HML.out i)
      have hs3 := HM3.out i
      have HEi := Lib.hid (HME.out i)
      have HBi : Hid (∀ k, k < 3 → 0 ≤ accW W P i k ∧ accW W P i k ≤ 45000000) := Lib.hid (fun k hk => by have := HAB.out k hk i (by omega); omega)
      have hsb := HSB.out i (by omega)
      obtain ⟨⟨hw0, hw1⟩, hpb⟩ := HS.out i hlt
      have HPB := Lib.hid hpb
      have HG1 := Lib.hid g1
      clear hp hpb g1 ho hb
      generalize W i = x at *
      generalize sumW W i = s at *
      go_wp2_with fail
      go_loopw [19] (fun v19 wr => ∃ k : Nat, k ≤ 3 ∧ v19 = .int .i64 k ∧ wr.ownsRow w1.heap.size 3 1 (.slice (some ⟨w1.heap.size, 0, none⟩) 4 4) 4 ((mxr W P i k).map (Value.int .i64)) ∧ Below w1.heap.size w1 wr) (fun v19 _ => 3 - (intOf v19).toNat)
      case atStart => exact ⟨0, Nat.zero_le _, rfl, hoq, hbq⟩
      case round =>
        clear hoq hbq d0 d1 d2
        obtain ⟨k, hk, rfl, ho, hb⟩ := hrel
        obtain ⟨wm, rfl⟩ : ∃ wm : World, wm = wr := ⟨_, rfl⟩
        by_cases hltk : k < 3
        · have g1 := (hb.cell (p := ⟨w.heap.size, i, none⟩) hlw).trans HG1.out
          have hx := HX.out k hltk
          have o1 := own4_at ho k (by omega) (HLi.out k)
          rw [HAi.out k hltk] at o1
          have f1 := ho.frozenAt k
          obtain ⟨q0, q1⟩ := HBi.out k hltk
          obtain ⟨p0, p2⟩ := HPB.out k hltk
          have hkk : (k : Int) < 3 := by omega
          have hk4 : (k : Int) < 4 := by omega
          have hset := Lib.hid (HSi.out k hltk)
          have hput := Lib.hid (own4_put ho k (accW W P i k + x * P i k))
          rw [hset.out] at hput
          obtain ⟨m0, m1⟩ := prod_bd hw0 hw1 p0 p2
          have e1 : wrap64 (x * P i k) = x * P i k := IntWalk.wrap64_in _ ⟨by omega, by omega⟩
          have e2 : wrap64 (accW W P i k + x * P i k) = accW W P i k + x * P i k := IntWalk.wrap64_in _ ⟨by omega, by omega⟩
          have e3 : IntKind.i64.wrap (x * P i k) = x * P i k := IntWalk.i64_in _ ⟨by omega, by omega⟩
          have e4 : IntKind.i64.wrap (accW W P i k + x * P i k) = accW W P i k + x * P i k := IntWalk.i64_in _ ⟨by omega, by omega⟩
          have hbs := hb.setCell (p := ⟨w1.heap.size, k, none⟩) (Nat.le_refl _) (.int .i64 (accW W P i k + x * P i k))
          clear ho hset
          go_wp2_with fail
          go_region
          go_wp2_with fail
          go_roundw
          case rel => exact ⟨k + 1, by omega, by go_num, hput.out, hbs.drew⟩
          case measure => simp [intOf]; omega
        · have hk3 : k = 3 := by omega
          subst hk3
          have g1 := (hb.cell (p := ⟨w.heap.size, i, none⟩) hlw).trans HG1.out
          have o1 := own4_at ho 3 (by omega) (HLi.out 3)
          rw [hs3] at o1
          have f1 := ho.frozenAt 3
          have hput := Lib.hid (own4_put ho 3 (s + x))
          rw [HEi.out] at hput
          have e2 : wrap64 (s + x) = s + x := IntWalk.wrap64_in _ ⟨by omega, by omega⟩
          have e4 : IntKind.i64.wrap (s + x) = s + x := IntWalk.i64_in _ ⟨by omega, by omega⟩
          have hbs := hb.setCell (p := ⟨w1.heap.size, 3, none⟩) (Nat.le_refl _) (.int .i64 (s + x))
          clear ho
          go_wp2_with fail
          go_region
          go_wp2_with fail
          go_roundw
          case rel => exact ⟨i + 1, by omega, by go_num, hput.out, hbs.drew⟩
          case measure => simp [intOf]; omega
    · have hi3 : i = 3 := by omega
      subst hi3
      go_wp2_with fail
      go_ret
      exact ⟨_, rfl, ⟨_, own_base ho hzb, own_lt ho⟩, bnext hb1 hb⟩
end Go.Proofs.Ytelchpdlfedleaa
