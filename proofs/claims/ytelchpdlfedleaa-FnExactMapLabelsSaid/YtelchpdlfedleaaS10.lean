import Derived.Test.YtelchpdlfedleaaS9
namespace Go.Proofs.Ytelchpdlfedleaa
open Go.RowKit
set_option maxRecDepth 4000
theorem labelAtM_raw (n i : Nat) (h1 : 1 ≤ n) (h2 : n ≤ 5) (hi : i < Pr.cnt n) (im : List (List Int)) (hy : imB n im = true) (w : World) :
    Calls Try.prog 91 #[.agg (mapA n im), .agg #[.int .i64 ((n : Int) - (Pr.R i : Nat)), .int .i64 ((Pr.R i : Int) - (Pr.C i : Nat)), .int .i64 (Pr.C i : Nat)]] w fun e w' => e = .returned (.int .i64 (lbM im n i)) ∧ Below w.heap.size w w' :=
  labelAtM_any n i h1 h2 hi im hy w
set_option maxHeartbeats 1600000 in
theorem lbyMap_any (n : Nat) (h1 : 1 ≤ n) (h2 : n ≤ 5) (im : List (List Int)) (hy : imB n im = true) (w : World) :
    Calls Try.prog 90 #[.agg #[.int .i64 n], .func (.func 91) #[.agg (mapA n im)] #[]] w fun e w' => ∃ v, e = .returned v ∧ w'.ownsRow w.heap.size 3 1 v ((List.range (Pr.cnt n)).map (lbM im n)).length (((List.range (Pr.cnt n)).map (lbM im n)).map (Value.int .i64)) ∧ Below w.heap.size w w' := by
  have hcn := cnt21 n h2
  obtain ⟨i0, hi, hz0, hz1, hz2⟩ := info_parts intInfo
  have hLl : ((List.range (Pr.cnt n)).map (lbM im n)).length = Pr.cnt n := by simp
  have hLg : ∀ k, k < Pr.cnt n → ((List.range (Pr.cnt n)).map (lbM im n)).getD k 0 = lbM im n k := fun k hk => by simp [List.getD, hk]
  have HC := Lib.hid (fun k (hk : k < Pr.cnt n) w' => labelAtM_raw n k h1 h2 hk im hy w')
  generalize (List.range (Pr.cnt n)).map (lbM im n) = L at *
  have HLL := Lib.hid hLl
  have HLG := Lib.hid hLg
  clear hLl hLg hy
  go_enter Try.func90, Try.ntmps90
  go_wp2_with fail
  refine (size_any n (by omega) _).mono ?_
  rintro e w1 ⟨rfl, hb1⟩
  have hm1 : w1.cell? ⟨w.heap.size, 0, none⟩ = some (.int .i64 n) := (hb1.cell (by simp)).trans (by go_cell)
  have hB1 := bnext (balloc (Below.refl w.heap.size w) (.cells #[.int .i64 n] 48)) hb1
  have hlt1 : w.heap.size < w1.heap.size := by have := hb1.size; simp at this; omega
  clear hb1
  go_wp2_with (at_make; refine wpList_make_full _ rfl _ _ 27 rfl w1.heap.size 3 i0 (.int .i64 0) 1 Try.underlying27 hi hz0 hz1 _ _ _ _ (Pr.cnt n) rfl rfl ?hC ?hL ?hb2 ?hb3 ?hb4 ?_)
  case hC => rfl
  case hL => rfl
  case hb2 => rw [hz2]; omega
  case hb3 => unfold maxLen; omega
  case hb4 => exact Nat.le_refl _
  intro w2 ho2 hg2
  have ho2' : w2.ownsRow w1.heap.size 3 1 (.slice (some ⟨w1.heap.size, 0, none⟩) (Pr.cnt n) (Pr.cnt n)) (Pr.cnt n) ((cpy L 0).map (Value.int .i64)) := by
    rw [cpy_zero, List.map_replicate, HLL.out]
    first | exact made_ints (Pr.cnt n) ▸ ho2 | exact made_ints' (Pr.cnt n) ▸ ho2
  have hB2 : Below w1.heap.size w1 w2 := (Below.refl _ _).grown hg2 (Nat.le_refl _) (fun k hk => by cases hk)
  have HM1 := Lib.hid hm1
  clear ho2 hg2 hm1
  go_wp2_with fail
  go_loopw [12] (fun v12 wr => ∃ k : Nat, k ≤ Pr.cnt n ∧ v12 = .int .i64 k ∧ wr.ownsRow w1.heap.size 3 1 (.slice (some ⟨w1.heap.size, 0, none⟩) (Pr.cnt n) (Pr.cnt n)) (Pr.cnt n) ((cpy L k).map (Value.int .i64)) ∧ Below w1.heap.size w1 wr) (fun v12 _ => Pr.cnt n - (intOf v12).toNat)
  case atStart => exact ⟨0, Nat.zero_le _, rfl, ho2', hB2⟩
  case round =>
    obtain ⟨k, hk, rfl, ho, hb⟩ := hrel
    by_cases hlt : k < Pr.cnt n
    · have hm : wr.cell? ⟨w.heap.size, 0, none⟩ = some (.int .i64 n) := (hb.cell hlt1).trans HM1.out
      have hk45 : k < 45 := by omega
      go_wp2_with fail
      refine (spotAt_any n k h1 (by omega) hk45 _).mono ?_
      rintro e w3 ⟨rfl, hb3⟩
      go_wp2_with fail
      refine (HC.out k hlt _).mono ?_
      rintro e w4 ⟨rfl, hb4⟩
      have hB4 := bnext hb3 hb4
      have ho4 := own_now ho hB4
      have hb4' := hb.trans (hB4.mono hb.size)
      have hf := ho4.frozenAt k
      have hcc := ho4.cellAt k (by omega)
      have hst := (ho4.stored k (.int .i64 (L.getD k 0))).1
      rw [cpy_set L k (by rw [HLL.out]; exact hlt)] at hst
      have HS := Lib.hid hst
      have hl' : k < ((cpy L k).map (Value.int .i64)).length := by rw [List.length_map, cpy_len _ _ (by rw [HLL.out]; omega), HLL.out]; exact hlt
      rw [List.getElem?_eq_getElem hl'] at hcc
      generalize ((cpy L k).map (Value.int .i64))[k] = old at hcc
      rw [← HLG.out k hlt]
      clear hst ho4 hl' ho hb hb3 hb4 hm
      generalize L.getD k 0 = x at *
      go_wp2_with fail
      go_roundw
      case rel => exact ⟨k + 1, by omega, by go_num, HS.out, hb4'.setCell (Nat.le_refl _) _⟩
      case measure => simp [intOf]; omega
    · have hk2 : k = Pr.cnt n := by omega
      have e : cpy L k = L := by rw [hk2, ← HLL.out]; exact cpy_all L
      rw [e] at ho
      clear e hk2
      go_wp2_with fail
      go_ret
      rw [HLL.out]
      exact ⟨_, rfl, own_base ho (Nat.le_of_lt hlt1), bnext hB1 hb⟩
set_option maxHeartbeats 800000 in
theorem labelsM_any (n : Nat) (h1 : 1 ≤ n) (h2 : n ≤ 5) (im : List (List Int)) (hy : imB n im = true) (w : World) :
    Calls Try.prog 52 #[.agg (mapA n im)] w fun e w' => ∃ v, e = .returned v ∧ OI w' w.heap.size w'.heap.size v (lbL im n) ∧ Below w.heap.size w w' := by
  have HB := Lib.hid (fun w => lbyMap_any n h1 h2 im hy w)
  have hmf : ∀ (fn : Fn) (first cap : Array Value) (w : World), (Instr.makeFunc fn first cap).run Try.prog w = .ok (.func fn first cap) w := fun _ _ _ _ => rfl
  have hg0 := heap_alloc_new w (.cells (mapA n im) 53)
  have hb0 := balloc (Below.refl w.heap.size w) (.cells (mapA n im) 53)
  have hz0 : (w.alloc (.cells (mapA n im) 53)).heap.size = w.heap.size + 1 := by simp
  have hc0 := blk_cell hg0 0 _ (mapF_zero n (mq im))
  clear hy
  go_enter Try.func52, Try.ntmps52
  go_wp2_with ((with_reducible refine load_blk blkM ?_ _ rfl (w.heap.size) ?_ (mapA n im) hg0 (mapA_size _ _) ?_); exact rfl; exact rfl; simp only [Act.put, List.setIfInBounds_toArray, List.set_cons_zero, List.set_cons_succ])
  refine (HB.out _).mono ?_
  rintro e w2 ⟨v, rfl, ho, hb2⟩
  have hB2 := bnext hb0 hb2
  go_wp2_with fail
  go_ret
  refine ⟨_, rfl, ⟨_, own_base ho (by rw [hz0]; omega), own_lt ho⟩, hB2⟩
end Go.Proofs.Ytelchpdlfedleaa
