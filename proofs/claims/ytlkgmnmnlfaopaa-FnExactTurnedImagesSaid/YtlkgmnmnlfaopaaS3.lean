import Derived.StillTailTactics
import Derived.RegionTactic
import Derived.Test.YtlkgmnmnlfaopaaS1
import Derived.Test.YtlkgmnmnlfaopaaS0b
import Derived.Test.YtlkgmnmnlfaopaaZf
namespace Go.Proofs.Ytlkgmnmnlfaopaa
open Go.RowKit
set_option maxRecDepth 4000
theorem tt_ff {b : Bool} {P : Prop} (h : b = false) : b = true → P := fun e => by rw [h] at e; cases e
section
variable {ops : Array Oper} {rest : List Oper} {o : Oper} {a : Act} {w : World} {Q : Exit → Act → World → Prop}
theorem run_arr3 {ty e : TypeId} (hu : Try.prog.underlying ty = some (.array 3 e)) (p : Option Addr) (len cap : Nat) (h : 3 ≤ len) (w : World) : (Instr.arrayAt ty (.slice p len cap)).run Try.prog w = .ok (.pointer p) w := by
  unfold Instr.arrayAt
  simp only [Sem.run_bind, run_underlying hu, Result.andThen_ok]
  rw [if_neg (by omega)]
  rfl
/-- A slice of at least three numbers, seen as an array. -/
theorem arr3_ptr {ty e : TypeId} (hu : Try.prog.underlying ty = some (.array 3 e)) (hgd : o.guard = none) (x : Operand) (ho : o.op = .sliceToArrayPointer ty x) (p : Option Addr) (len cap : Nat) (hx : a.eval x = .slice p len cap) (hl : 3 ≤ len)
    (h : wpList Try.prog ops Q rest (a.put o.dst (.pointer p)) w) : wpList Try.prog ops Q (o :: rest) a w := by
  refine wpList_plain hgd fun K hK => ?_
  unfold Oper.wp
  simp [execOp, ho, hx, run_arr3 hu p len cap hl, Result.andThen]
  exact hK _ _ h
end
set_option maxHeartbeats 1600000 in
theorem spotOf_any (s : Int) (hs1 : s ≤ 24) (p : List Int) (a : Option Addr) (cap B : Nat) (w : World) (h : RdS w B a p) (hB : B ≤ w.heap.size) :
    Calls Try.prog 111 #[.slice a p.length cap, .int .i64 s] w fun e w' => ∃ x y z : Int, e = .returned (.tuple #[.agg #[.int .i64 x, .int .i64 y, .int .i64 z], .bool (ptI s p)]) ∧ (ptI s p = true → x = p.getD 0 0 ∧ y = p.getD 1 0 ∧ z = p.getD 2 0) ∧ Below w.heap.size w w' := by
  obtain ⟨b, off, hr, hrb⟩ := h
  by_cases hl : p.length = 3
  · have hne : ((p.length : Int) != 3) = false := by rw [hl]; rfl
    have hm3 : p.length ≤ 3 := by omega
    have hrb' : b < w.heap.size := by omega
    obtain ⟨w1, hw1⟩ : ∃ w1, w1 = w.alloc (.cells #[.int .i64 0, .int .i64 0, .int .i64 0] 79) := ⟨_, rfl⟩
    have hb1 : Below w.heap.size w w1 := by rw [hw1]; exact balloc (Below.refl _ _) _
    have HR : Hid (∀ k, k < p.length → a = some ⟨b, off, none⟩ ∧ w1.cell? ⟨b, off + k, none⟩ = some (.int .i64 (p.getD k 0))) := Lib.hid (fun k hk => ⟨(hr.2 k hk).1, (hb1.cell (p := ⟨b, off + k, none⟩) hrb').trans (hr.2 k hk).2⟩)
    have hg1 : w1.heap[w.heap.size]? = some (.cells zspot 79 (0, 0)) := by rw [hw1]; exact heap_alloc_new w _
    have hz1 : w1.heap.size = w.heap.size + 1 := by rw [hw1]; simp
    have HW1 := Lib.hid hw1
    have HL := Lib.hid hl
    have HNO : Hid (allB 0 s p = false → ptI s p = false) := Lib.hid (fun h => by simp [ptI, h])
    have HYES : Hid (allB 0 s p = true → ptI s p = (p.getD 0 0 + p.getD 1 0 + p.getD 2 0 == s)) := Lib.hid (fun h => by simp [ptI, h, hl])
    clear hw1 hr hl
    go_enter Try.func111, Try.ntmps111
    go_wp2_with fail
    rw [← HW1.out]
    go_loop [15] (fun vk => ∃ k : Nat, k ≤ p.length ∧ vk = .int .i64 k ∧ ∀ j, j < k → 0 ≤ p.getD j 0 ∧ p.getD j 0 ≤ s) (fun vk => p.length - (intOf vk).toNat)
    case atStart => exact ⟨0, Nat.zero_le _, rfl, by omega⟩
    case round =>
      obtain ⟨k, hk, rfl, hall⟩ := hrel
      have HA := Lib.hid hall
      clear hall
      by_cases hlt : k < p.length
      · obtain ⟨ha, c1⟩ := HR.out k hlt
        subst ha
        have hki : (k : Int) < (p.length : Int) := by omega
        have HF : Hid (¬ (0 ≤ p.getD k 0 ∧ p.getD k 0 ≤ s) → ptI s p = false) := Lib.hid (fun h => HNO.out (allB_no 0 s p k hlt h))
        have HX : Hid (0 ≤ p.getD k 0 ∧ p.getD k 0 ≤ s → ∀ j, j < k + 1 → 0 ≤ p.getD j 0 ∧ p.getD j 0 ≤ s) := Lib.hid (fun hx j hj => by
          by_cases e : j = k
          · rw [e]; exact hx
          · exact HA.out j (by omega))
        clear HA
        generalize p.getD k 0 = x at *
        by_cases h1 : x < 0
        · have hd1 : decide (x < 0) = true := by simpa using h1
          have hF := Lib.hid (HF.out (by omega))
          go_wp2_with (first | ((with_reducible refine store_blk blkSp rfl _ _ rfl (w.heap.size) zspot zspot ?_ ?_ hg1 zspot_size zspot_size zspot_one w.heap.size (Nat.le_refl _) ?_); exact rfl; exact rfl; intro w2 hg2 hb2 hk2 hz2) | (with_reducible refine build0_blk zspot run_build0_sp rfl rfl ?_))
          have hB2 := hb1.trans hb2
          refine bodyPost_ret (results_blk blkSp rfl _ _ (w.heap.size) zspot _ rfl rfl hg2 zspot_size) rfl ?_
          exact ⟨0, 0, 0, by rw [hF.out]; rfl, tt_ff hF.out, hB2⟩
        · have hd1 : decide (x < 0) = false := by simpa using h1
          by_cases h2 : s < x
          · have hd2 : decide (s < x) = true := by simpa using h2
            have hF := Lib.hid (HF.out (by omega))
            go_wp2_with (first | ((with_reducible refine store_blk blkSp rfl _ _ rfl (w.heap.size) zspot zspot ?_ ?_ hg1 zspot_size zspot_size zspot_one w.heap.size (Nat.le_refl _) ?_); exact rfl; exact rfl; intro w2 hg2 hb2 hk2 hz2) | (with_reducible refine build0_blk zspot run_build0_sp rfl rfl ?_))
            have hB2 := hb1.trans hb2
            refine bodyPost_ret (results_blk blkSp rfl _ _ (w.heap.size) zspot _ rfl rfl hg2 zspot_size) rfl ?_
            exact ⟨0, 0, 0, by rw [hF.out]; rfl, tt_ff hF.out, hB2⟩
          · have hd2 : decide (s < x) = false := by simpa using h2
            go_wp2_with fail
            go_round
            case rel => exact ⟨k + 1, by omega, by go_num, HX.out ⟨by omega, by omega⟩⟩
            case measure => simp [intOf]; omega
      · have hL3 := HL.out
        have hk3 : k = 3 := by omega
        obtain ⟨ha, c0⟩ := HR.out 0 (by omega)
        obtain ⟨-, c1⟩ := HR.out 1 (by omega)
        obtain ⟨-, c2⟩ := HR.out 2 (by omega)
        rw [Nat.add_zero] at c0
        subst ha
        have HV := Lib.hid (HYES.out (allB_yes 0 s p (fun j hj => HA.out j (by omega))))
        have b0 := HA.out 0 (by omega)
        have b1 := HA.out 1 (by omega)
        have b2 := HA.out 2 (by omega)
        obtain ⟨x, hx⟩ : ∃ x, x = p.getD 0 0 := ⟨_, rfl⟩
        obtain ⟨y, hy⟩ : ∃ y, y = p.getD 1 0 := ⟨_, rfl⟩
        obtain ⟨z, hz⟩ : ∃ z, z = p.getD 2 0 := ⟨_, rfl⟩
        rw [← hx] at c0 b0 HV
        rw [← hy] at c1 b1 HV
        rw [← hz] at c2 b2 HV
        have HX := Lib.hid (⟨hx, hy, hz⟩ : x = p.getD 0 0 ∧ y = p.getD 1 0 ∧ z = p.getD 2 0)
        have hl3 : 3 ≤ p.length := by omega
        have hx15 : x ≤ 24 := by omega
        have hy15 : y ≤ 24 := by omega
        have hz15 : z ≤ 24 := by omega
        have hx0 := b0.1
        have hy0 := b1.1
        have hz0 := b2.1
        clear hL3 hx hy hz b0 b1 b2 HA HR HYES HNO
        have harr := run_arr3 Try.underlying79 (some ⟨b, off, none⟩) p.length cap hl3
        go_wp2_with fail
        obtain ⟨w2, hw2⟩ : ∃ w2, w2 = w1.alloc (.cells (spA3 x y z) 79) := ⟨_, rfl⟩
        have hg2 : w2.heap[w1.heap.size]? = some (.cells (spA3 x y z) 79 (0, 0)) := by rw [hw2]; exact heap_alloc_new _ _
        have hg02 : w2.heap[w.heap.size]? = some (.cells zspot 79 (0, 0)) := by rw [hw2, Below.heap_alloc _ _ _ (by omega)]; exact hg1
        have hB2 : Below w.heap.size w w2 := by rw [hw2]; exact balloc hb1 _
        have hz2 : w2.heap.size = w1.heap.size + 1 := by rw [hw2]; simp
        simp only [spA3] at hw2
        rw [← hw2]
        clear hw2 c0 c1 c2 harr HW1
        rw [hz1] at hg2
        have hwr1 : IntKind.i64.wrap (x + y) = x + y := IntWalk.i64_in _ ⟨by omega, by omega⟩
        have hwr2 : IntKind.i64.wrap (x + y + z) = x + y + z := IntWalk.i64_in _ ⟨by omega, by omega⟩
        refine wp_region_mix (fun w' => w'.heap[w.heap.size + 1]? = some (.cells (spA3 x y z) 79 (0, 0))) [11] [0, 1, 2, 3, 4, 5, 6, 7, 8, 9, 10, 11, 12] (by kernel_rfl) (by kernel_rfl) (fun _ _ d _ _ h => by cases d <;> exact h) (by kernel_rfl) rfl hg2 ?_
        refine mix_take 0 _ (.agg (spA3 x y z)) rfl rfl rfl (some 31) rfl (fun w' hw' => exec_row _ _ rfl (w.heap.size + 1) rfl (spA3 x y z) (blk_load blkSp w' _ _ hw' (spA3_size _ _ _))) ?_
        simp only [Act.put, List.setIfInBounds_toArray, List.set_cons_zero, List.set_cons_succ]
        refine mix_take 1 _ ?_ rfl rfl rfl (some 32) rfl (fun w' hw' => ?hv1) ?_
        case hv1 =>
          go_simp
          with_reducible rfl
        simp only [Act.put, List.setIfInBounds_toArray, List.set_cons_zero, List.set_cons_succ]
        refine mix_take 2 _ ?_ rfl rfl rfl (some 33) rfl (fun w' hw' => ?hv2) ?_
        case hv2 =>
          have s0 := blk_cell (w := w') hw' 0 (.int .i64 x) rfl
          go_simp
          with_reducible rfl
        simp only [Act.put, List.setIfInBounds_toArray, List.set_cons_zero, List.set_cons_succ]
        refine mix_take 3 _ ?_ rfl rfl rfl (some 34) rfl (fun w' hw' => ?hv3) ?_
        case hv3 =>
          go_simp
          with_reducible rfl
        simp only [Act.put, List.setIfInBounds_toArray, List.set_cons_zero, List.set_cons_succ]
        refine mix_take 4 _ ?_ rfl rfl rfl (some 35) rfl (fun w' hw' => ?hv4) ?_
        case hv4 =>
          have s0 := blk_cell (w := w') hw' 1 (.int .i64 y) rfl
          go_simp
          with_reducible rfl
        simp only [Act.put, List.setIfInBounds_toArray, List.set_cons_zero, List.set_cons_succ]
        refine mix_take 5 _ ?_ rfl rfl rfl (some 36) rfl (fun w' hw' => ?hv5) ?_
        case hv5 =>
          go_simp
          with_reducible rfl
        simp only [Act.put, List.setIfInBounds_toArray, List.set_cons_zero, List.set_cons_succ]
        refine mix_take 6 _ ?_ rfl rfl rfl (some 37) rfl (fun w' hw' => ?hv6) ?_
        case hv6 =>
          go_simp
          with_reducible rfl
        simp only [Act.put, List.setIfInBounds_toArray, List.set_cons_zero, List.set_cons_succ]
        refine mix_take 7 _ ?_ rfl rfl rfl (some 38) rfl (fun w' hw' => ?hv7) ?_
        case hv7 =>
          have s0 := blk_cell (w := w') hw' 2 (.int .i64 z) rfl
          go_simp
          with_reducible rfl
        simp only [Act.put, List.setIfInBounds_toArray, List.set_cons_zero, List.set_cons_succ]
        refine mix_take 8 _ ?_ rfl rfl rfl (some 39) rfl (fun w' hw' => ?hv8) ?_
        case hv8 =>
          go_simp
          with_reducible rfl
        simp only [Act.put, List.setIfInBounds_toArray, List.set_cons_zero, List.set_cons_succ]
        refine mix_take 9 _ ?_ rfl rfl rfl (some 40) rfl (fun w' hw' => ?hv9) ?_
        case hv9 =>
          go_simp
          with_reducible rfl
        simp only [Act.put, List.setIfInBounds_toArray, List.set_cons_zero, List.set_cons_succ]
        refine mix_take 10 _ ?_ rfl rfl rfl (some 41) rfl (fun w' hw' => ?hv10) ?_
        case hv10 =>
          go_simp
          with_reducible rfl
        simp only [Act.put, List.setIfInBounds_toArray, List.set_cons_zero, List.set_cons_succ]
        refine mix_store_blk blkSp 11 _ rfl rfl rfl _ _ rfl none rfl (w.heap.size) (spA3 x y z) zspot rfl rfl hg02 zspot_size (spA3_size _ _ _) (spA3_one _ _ _) w.heap.size (Nat.le_refl _) (fun w3 hg3 hb3 hk3 hz3 => ⟨(hk3 _ (by omega)).trans hg2, ?_⟩)
        simp only [Act.put]
        have hB3 : Below w.heap.size w w3 := (hB2.drew).trans hb3
        refine mix_take 12 _ ?_ rfl rfl rfl (some 5) rfl (fun w' hw' => ?hv12) ?_
        case hv12 =>
          go_simp
          with_reducible rfl
        simp only [Act.put, List.setIfInBounds_toArray, List.set_cons_zero, List.set_cons_succ]
        refine mix_done ?_
        go_wp2_with fail
        refine bodyPost_ret (results_blk blkSp rfl _ _ (w.heap.size) (spA3 x y z) _ rfl rfl hg3 (spA3_size _ _ _)) rfl ?_
        exact ⟨x, y, z, by rw [HV.out]; rfl, fun _ => HX.out, hB3⟩
  · have hne : ((p.length : Int) != 3) = true := by simp; omega
    have HF : Hid (ptI s p = false) := Lib.hid (by simp [ptI, hl])
    have hm := hr.1
    unfold maxLen at hm
    clear hr hl
    go_enter Try.func111, Try.ntmps111
    go_wp2_with fail
    go_returns
    exact ⟨0, 0, 0, by rw [HF.out], tt_ff HF.out, by go_grown⟩
end Go.Proofs.Ytlkgmnmnlfaopaa
