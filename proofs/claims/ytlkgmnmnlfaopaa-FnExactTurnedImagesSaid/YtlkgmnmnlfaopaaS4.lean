import Derived.Test.YtlkgmnmnlfaopaaS3
namespace Go.Proofs.Ytlkgmnmnlfaopaa
open Go.RowKit
set_option maxRecDepth 4000
/-- A map as it lies in memory: its side, and three numbers for each point; those behind them are 0. -/
def mapF (n : Nat) (f : Nat → Int) : Array Value := (Value.int .i64 n :: (List.range 63).map fun q => Value.int .i64 (f q)).toArray
def zeroM : Array Value := mapF 0 fun _ => 0
theorem mapF_size (n : Nat) (f : Nat → Int) : (mapF n f).size = 64 := by simp [mapF]
theorem zeroM_size : zeroM.size = 64 := mapF_size _ _
theorem mapF_one (n : Nat) (f : Nat → Int) : (mapF n f).all (·.oneCell') = true := by
  simp only [mapF, List.all_toArray, List.all_cons, List.all_map, Bool.and_eq_true, List.all_eq_true]
  exact ⟨rfl, fun _ _ => rfl⟩
theorem zeroM_one : zeroM.all (·.oneCell') = true := mapF_one _ _
theorem mapF_at (n : Nat) (f : Nat → Int) (q : Nat) (h : q < 63) : (mapF n f)[1 + q]? = some (.int .i64 (f q)) := by
  simp only [mapF, List.getElem?_toArray]
  rw [show 1 + q = q + 1 by omega, List.getElem?_cons_succ, List.getElem?_map, List.getElem?_range h]
  rfl
theorem mapF_zero (n : Nat) (f : Nat → Int) : (mapF n f)[0]? = some (.int .i64 n) := by simp [mapF]
theorem mapF_congr (n : Nat) {f g : Nat → Int} (h : ∀ q, q < 63 → f q = g q) : mapF n f = mapF n g := by
  unfold mapF
  congr 2
  exact List.map_congr_left fun q hq => by rw [h q (by simpa using hq)]
theorem mapF_win (n : Nat) (f : Nat → Int) (k : Nat) (hk : k < 21) (x y z : Int) :
    ((mapF n f).toList.take (1 + k * 3) ++ [Value.int .i64 x, .int .i64 y, .int .i64 z] ++ (mapF n f).toList.drop (1 + k * 3 + 3)).toArray = mapF n (fun q => if q / 3 = k then [x, y, z].getD (q % 3) 0 else f q) := by
  apply Array.ext_getElem?
  intro i
  have hl : (mapF n f).toList.length = 64 := by simp [mapF]
  simp only [List.getElem?_toArray]
  by_cases h1 : i < 1 + k * 3
  · rw [List.append_assoc, List.getElem?_append_left (by rw [List.length_take, hl]; omega), List.getElem?_take, if_pos h1, Array.getElem?_toList]
    cases i with
    | zero => rw [mapF_zero, mapF_zero]
    | succ q => rw [show q + 1 = 1 + q by omega, mapF_at _ _ _ (by omega), mapF_at _ _ _ (by omega), if_neg (by omega)]
  · by_cases h2 : i < 1 + k * 3 + 3
    · rw [List.append_assoc, List.getElem?_append_right (by rw [List.length_take, hl]; omega), List.length_take, hl, List.getElem?_append_left (by simp; omega)]
      obtain ⟨q, rfl⟩ : ∃ q, i = 1 + q := ⟨i - 1, by omega⟩
      rw [mapF_at _ _ _ (by omega), if_pos (by omega)]
      have e : 1 + q - min (1 + k * 3) 64 = q % 3 := by omega
      rw [e]
      have h3 : q % 3 < 3 := by omega
      rcases (by omega : q % 3 = 0 ∨ q % 3 = 1 ∨ q % 3 = 2) with h | h | h <;> rw [h] <;> rfl
    · rw [List.getElem?_append_right (by simp [hl]; omega), List.getElem?_drop, Array.getElem?_toList]
      have e : 1 + k * 3 + 3 + (i - ((mapF n f).toList.take (1 + k * 3) ++ [Value.int .i64 x, .int .i64 y, .int .i64 z]).length) = i := by simp [hl]; omega
      rw [e]
      by_cases h3 : i < 64
      · obtain ⟨q, rfl⟩ : ∃ q, i = 1 + q := ⟨i - 1, by omega⟩
        rw [mapF_at _ _ _ (by omega), mapF_at _ _ _ (by omega), if_neg (by omega)]
      · rw [Array.getElem?_eq_none (by rw [mapF_size]; omega), Array.getElem?_eq_none (by rw [mapF_size]; omega)]
theorem blkM : Blk 87 64 := ⟨.inl ⟨_, Try.underlying87⟩, by kernel_rfl⟩
theorem run_alloc_map (w : World) : (Instr.alloc 87 true (.tuple #[])).run Try.prog w = .ok (.pointer (some ⟨w.heap.size, 0, none⟩)) (w.alloc (.cells zeroM 87)) := by kernel_rfl
theorem run_build0_map (w : World) : (Instr.build 87 #[]).run Try.prog w = .ok (.agg zeroM) w := by kernel_rfl
theorem run_buildn_map (n : Nat) (w : World) : (Instr.build 87 #[(0, .agg #[.int .i64 n])]).run Try.prog w = .ok (.agg (mapF n fun _ => 0)) w := by kernel_rfl
/-- The map of some images. -/
def mq (im : List (List Int)) (q : Nat) : Int := iq im (q / 3) (q % 3)
def mapA (n : Nat) (im : List (List Int)) : Array Value := mapF n (mq im)
theorem mapA_size (n : Nat) (im : List (List Int)) : (mapA n im).size = 64 := mapF_size _ _
theorem mapA_one (n : Nat) (im : List (List Int)) : (mapA n im).all (·.oneCell') = true := mapF_one _ _
theorem mapA_at (n : Nat) (im : List (List Int)) (i k : Nat) (hi : i < 21) (hk : k < 3) : (mapA n im)[1 + i * 3 + k]? = some (.int .i64 (iq im i k)) := by
  rw [mapA, show 1 + i * 3 + k = 1 + (i * 3 + k) by omega, mapF_at _ _ _ (by omega), mq, show (i * 3 + k) / 3 = i by omega, show (i * 3 + k) % 3 = k by omega]
theorem cnt21 (n : Nat) (h : n ≤ 5) : Pr.cnt n ≤ 21 := by
  have : ∀ n, n < 6 → Pr.cnt n ≤ 21 := by decide
  exact this n (by omega)
theorem iq_past {n : Nat} {im : List (List Int)} (h : im.length = Pr.cnt n) (i k : Nat) (hi : Pr.cnt n ≤ i) : iq im i k = 0 := by
  unfold iq
  rw [show im.getD i [] = [] by rw [List.getD_eq_getElem?_getD, List.getElem?_eq_none (by omega)]; rfl]
  rfl
section
variable {ops : Array Oper} {rest : List Oper} {o : Oper} {a : Act} {w : World} {Q : Exit → Act → World → Prop}
theorem buildn_map (hgd : o.guard = none) (x : Operand) (n : Nat) (ho : o.op = .build 87 #[(0, x)]) (hx : a.eval x = .agg #[.int .i64 n])
    (h : wpList Try.prog ops Q rest (a.put o.dst (.agg (mapF n fun _ => 0))) w) : wpList Try.prog ops Q (o :: rest) a w := by
  refine wpList_plain hgd fun K hK => ?_
  unfold Oper.wp
  simp [execOp, ho, hx, run_buildn_map, Result.andThen]
  exact hK _ _ h
end
set_option maxHeartbeats 400000 in
theorem imageOf_any (n : Nat) (h2 : n ≤ 8) (p : List Int) (a : Option Addr) (cap B : Nat) (w : World) (h : RdS w B a p) (hB : B ≤ w.heap.size) :
    Calls Try.prog 90 #[.agg #[.int .i64 n], .slice a p.length cap] w fun e w' => ∃ x y z : Int, e = .returned (.tuple #[.agg #[.int .i64 x, .int .i64 y, .int .i64 z], .bool (ptI (3 * (n : Int)) p)]) ∧ (ptI (3 * (n : Int)) p = true → x = p.getD 0 0 ∧ y = p.getD 1 0 ∧ z = p.getD 2 0) ∧ Below w.heap.size w w' := by
  obtain ⟨w2, hw2⟩ : ∃ w2, w2 = (w.alloc (.cells #[.int .i64 n] 75)).alloc (.cells #[.int .i64 0, .int .i64 0, .int .i64 0] 79) := ⟨_, rfl⟩
  have hb2 : Below w.heap.size w w2 := by rw [hw2]; exact balloc (balloc (Below.refl _ _) _) _
  have hz2 : w2.heap.size = w.heap.size + 2 := by rw [hw2]; simp
  have HS := Lib.hid (spotOf_any (3 * (n : Int)) (by omega) p a cap B w2 (rds_chg h (chg_below hb2) hB (.inr rfl)) (by omega))
  have hm2 : w2.cell? ⟨w.heap.size, 0, none⟩ = some (.int .i64 n) := by rw [hw2, World.cell?_alloc_past _ _ _ (by simp), World.cell?_alloc_at _ _ _ _ rfl]; rfl
  have hg2 : w2.heap[w.heap.size + 1]? = some (.cells zspot 79 (0, 0)) := by
    rw [hw2]
    have e := heap_alloc_new (w.alloc (.cells #[.int .i64 n] 75)) (.cells #[.int .i64 0, .int .i64 0, .int .i64 0] 79)
    rw [World.size_alloc] at e
    exact e
  have HW2 := Lib.hid hw2
  clear hw2 h
  go_enter Try.func90, Try.ntmps90
  go_wp2_with fail
  rw [← HW2.out]
  refine HS.out.mono ?_
  rintro e w3 ⟨x, y, z, rfl, hx, hb3⟩
  have hg3 := (hb3.block (w.heap.size + 1) (by omega)).trans hg2
  have hB3 := hb2.trans (hb3.mono (by omega))
  have HX := Lib.hid hx
  clear hx hg2 hm2
  go_wp2_with ((with_reducible refine store_blk blkSp rfl _ _ rfl (w.heap.size + 1) (spA3 x y z) zspot ?_ ?_ hg3 zspot_size (spA3_size _ _ _) (spA3_one _ _ _) w.heap.size (by omega) ?_); exact rfl; exact rfl; intro w4 hg4 hb4 hk4 hz4)
  refine bodyPost_ret (results_blk blkSp rfl _ _ (w.heap.size + 1) (spA3 x y z) _ rfl rfl hg4 (spA3_size _ _ _)) rfl ?_
  exact ⟨x, y, z, rfl, HX.out, hB3.trans hb4⟩
theorem blkMesh : Blk 75 1 := ⟨.inl ⟨_, Try.underlying75⟩, by kernel_rfl⟩
theorem mesh_one (n : Int) : (#[.int .i64 n] : Array Value).all (·.oneCell') = true := by simp [Value.oneCell']
set_option maxHeartbeats 400000 in
theorem mappedMeshOf_any (n : Int) (b8 : Bool) (hb8 : b8 = decide (1 ≤ n ∧ n ≤ 8)) (bd : Bool) (hbd : bd = decide (1 ≤ n ∧ n ≤ 5)) (hM : ∀ w, Calls Try.prog 110 #[.int .i64 n] w fun e w' => e = .returned (.tuple #[.agg #[.int .i64 n], .bool b8]) ∧ Below w.heap.size w w') (w : World) :
    Calls Try.prog 89 #[.int .i64 n] w fun e w' => e = .returned (.tuple #[.agg #[.int .i64 n], .bool bd]) ∧ Below w.heap.size w w' := by
  have hz : (w.alloc (.cells #[.int .i64 0] 75)).heap.size = w.heap.size + 1 := by simp
  have hg0 := heap_alloc_new w (.cells #[.int .i64 0] 75)
  have hb0 := balloc (Below.refl w.heap.size w) (.cells #[.int .i64 0] 75)
  have HM := Lib.hid hM
  have HD : Hid (bd = (b8 && decide (n ≤ 5))) := Lib.hid (by rw [hb8, hbd]; by_cases h1 : 1 ≤ n <;> by_cases h2 : n ≤ 5 <;> by_cases h3 : n ≤ 8 <;> simp [h1, h2, h3]; omega)
  clear hM hb8 hbd
  go_enter Try.func89, Try.ntmps89
  go_wp2_with fail
  refine (HM.out _).mono ?_
  rintro e w1 ⟨rfl, hb1⟩
  have hg1 := (hb1.block w.heap.size (by omega)).trans hg0
  have hB1 := bnext hb0 hb1
  have hz1 := hb1.size
  have hg2 : (w1.alloc (.cells #[.int .i64 n] 75)).heap[w.heap.size]? = some (.cells #[.int .i64 0] 75 (0, 0)) := (Below.heap_alloc w1 _ _ (by omega)).trans hg1
  have hB2 := balloc hB1 (.cells #[.int .i64 n] 75)
  clear hb1 hb0 hg0 hz
  cases b8
  · have HF : Hid (bd = false) := Lib.hid (by rw [HD.out]; rfl)
    go_wp2_with ((with_reducible refine store_blk blkMesh rfl _ _ rfl (w.heap.size) #[.int .i64 n] #[.int .i64 0] ?_ ?_ hg2 rfl rfl (mesh_one _) w.heap.size (Nat.le_refl _) ?_); exact rfl; exact rfl; intro w4 hg4 hb4 hk4 hz4)
    exact bodyPost_ret (results_blk blkMesh rfl _ _ (w.heap.size) _ _ rfl rfl hg4 rfl) rfl ⟨by rw [HF.out]; rfl, hB2.trans hb4⟩
  · have HF : Hid (bd = decide (n ≤ 5)) := Lib.hid (by rw [HD.out]; rfl)
    go_wp2_with ((with_reducible refine store_blk blkMesh rfl _ _ rfl (w.heap.size) #[.int .i64 n] #[.int .i64 0] ?_ ?_ hg2 rfl rfl (mesh_one _) w.heap.size (Nat.le_refl _) ?_); exact rfl; exact rfl; intro w4 hg4 hb4 hk4 hz4)
    exact bodyPost_ret (results_blk blkMesh rfl _ _ (w.heap.size) _ _ rfl rfl hg4 rfl) rfl ⟨by rw [HF.out]; rfl, hB2.trans hb4⟩
theorem mappedMeshOf_yes (n : Nat) (h1 : 1 ≤ n) (h2 : n ≤ 5) (w : World) :
    Calls Try.prog 89 #[.int .i64 n] w fun e w' => e = .returned (.tuple #[.agg #[.int .i64 n], .bool true]) ∧ Below w.heap.size w w' :=
  mappedMeshOf_any n true (by simp; omega) true (by simp; omega) (meshOf_yes n h1 (by omega)) w
theorem mappedMeshOf_no (n : Int) (h : ¬ (1 ≤ n ∧ n ≤ 5)) (w : World) :
    Calls Try.prog 89 #[.int .i64 n] w fun e w' => e = .returned (.tuple #[.agg #[.int .i64 n], .bool false]) ∧ Below w.heap.size w w' := by
  by_cases h8 : 1 ≤ n ∧ n ≤ 8
  · obtain ⟨m, rfl⟩ := Int.eq_ofNat_of_zero_le (show 0 ≤ n by omega)
    exact mappedMeshOf_any m true (by simp; omega) false (by simp; omega) (meshOf_yes m (by omega) (by omega)) w
  · exact mappedMeshOf_any n false (by simp; omega) false (by simp; omega) (meshOf_no n h8) w
end Go.Proofs.Ytlkgmnmnlfaopaa
