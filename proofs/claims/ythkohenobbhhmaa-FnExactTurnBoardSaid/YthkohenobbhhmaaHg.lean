import Derived.Test.YthkohenobbhhmaaHf
import Derived.Test.YthkohenobbhhmaaZa
import Derived.Test.YthkohenobbhhmaaZc
namespace Go.Proofs.Ythkohenobbhhmaa
open Go.RowKit
set_option maxRecDepth 4000
def tv (x : Int) : Int := if x = 0 then 0 else 3 - x
def tix (n m k : Nat) : Nat := n * (k % m) + k / m
theorem tix_lt (n m s k : Nat) (hnm : n * m = s) (h2 : 1 ≤ m) (hk : k < s) : tix n m k < s := by
  have a : k % m < m := Nat.mod_lt _ (by omega)
  have b : k / m < n := Nat.div_lt_of_lt_mul (by rw [Nat.mul_comm]; omega)
  have c : n * (k % m) ≤ n * (m - 1) := Nat.mul_le_mul_left n (by omega)
  have d : n * (m - 1) + n = n * m := by
    obtain ⟨q, rfl⟩ : ∃ q, m = q + 1 := ⟨m - 1, by omega⟩
    rw [Nat.add_sub_cancel, Nat.mul_add, Nat.mul_one]
  unfold tix
  omega
/-- The board turned, as far as the first k places. -/
def tbl (n m s : Nat) (xs : List Int) : Nat → List Int
  | 0 => List.replicate s 0
  | k + 1 => (tbl n m s xs k).set (tix n m k) (tv (xs.getD k 0))
theorem tbl_len (n m s : Nat) (xs : List Int) : ∀ k, (tbl n m s xs k).length = s
  | 0 => by simp [tbl]
  | k + 1 => by rw [tbl, List.length_set, tbl_len n m s xs k]
def valTurnB (n m : Int) (xs : List Int) : List Int := if boardB n m xs then tbl n.toNat m.toNat xs.length xs xs.length else []
theorem valTurnB_len (n m : Int) (xs : List Int) : (valTurnB n m xs).length ≤ 1000 := by
  unfold valTurnB
  split
  · rename_i h
    obtain ⟨_, _, s, -, -, -, h30, -, -, -, hl, -⟩ := boardB_yes h
    rw [tbl_len]
    omega
  · simp
theorem tv_of (x : Int) (h0 : 0 ≤ x) (h2 : x ≤ 2) : (0 < x → tv x = 3 - x) ∧ (¬ 0 < x → tv x = x) := by
  unfold tv
  constructor <;> intro h <;> split <;> omega
section
variable {P : Program} {ops : Array Oper} {S : World → Prop} {Q : Exit → Act → World → Prop}
theorem mix_store_cell {sole rest : List Nat} {a : Act} {w : World} (i : Nat) (o : Oper) (hi : sole.contains i = true) (ho : ops[i]? = some o) (hgd : o.guard = none) (ty : TypeId) (x y : Operand) (hop : o.op = .store ty x y) (d : Option Tmp) (hd : o.dst = d) (hsz : (P.info? ty).map (·.size) = some 1)
    (g k : Nat) (v : Int) (hx : a.eval x = .pointer (some ⟨g, k, none⟩)) (hy : a.eval y = .int .i64 v) (old : Array Value) (t : TypeId) (hg : w.heap[g]? = some (.cells old t (0, 0))) (hfit : k < old.size)
    (h : S (w.setCell ⟨g, k, none⟩ (.int .i64 v)) ∧ wpMix P ops S Q sole rest (a.put d undef) (w.setCell ⟨g, k, none⟩ (.int .i64 v))) : wpMix P ops S Q sole (i :: rest) a w := by
  subst hd
  refine mix_sole i o hi ho (fun K' hK => ?_)
  rw [if_pos (by simp [Region.wanted, hgd])]
  have hst := run_storeCells_at (P := P) g k t [Value.int .i64 v] 0 old w hg (by simp; omega) (by simp [Value.oneCell'])
  rw [Nat.add_zero] at hst
  simp only [List.length_cons, List.length_nil, Nat.zero_add] at hst
  have hnew : (old.toList.take k ++ [Value.int .i64 v] ++ old.toList.drop (k + 1)).toArray = old.setIfInBounds k (Value.int .i64 v) := by
    apply Array.ext'
    rw [Array.toList_setIfInBounds, List.set_eq_take_append_cons_drop, if_pos (by simpa using hfit)]
    simp
  rw [hnew, ← setCell_eq_setRow w g k old t (0, 0) (Value.int .i64 v) hg] at hst
  have hrun : (storeVar ty ⟨g, k, none⟩ (.int .i64 v)).run P w = .ok () (w.setCell ⟨g, k, none⟩ (.int .i64 v)) := by
    cases hq : P.info? ty with
    | none => simp [hq] at hsz
    | some i =>
      have hs : i.size = 1 := by simpa [hq] using hsz
      simp [storeVar, sizeOf, typeInfo, hq, hs, Value.cells, hst]
  unfold Oper.wp execOp
  simp only [hop, hx, hy, Instr.storeAt, Instr.sureAddr, Sem.run_bind, Sem.run_pure, Result.andThen_ok, hrun]
  exact hK _ _ h
end
theorem own_obj {w : World} {base n g cap : Nat} {et : TypeId} {L : List Value} (h : w.ownsRow base et 1 (.slice (some ⟨g, 0, none⟩) n cap) n L) : ∃ cur : Array Value, w.heap[g]? = some (.cells cur et (0, 0)) ∧ n ≤ cur.size ∧ base ≤ g := by
  rcases h.2 with ⟨e, _⟩ | ⟨g', cap', cur, e, hb, hh, hc, hm, hs, ht⟩
  · cases e
  · injection e with e1 _ e3
    injection e1 with e1
    injection e1 with e1
    subst e1 e3
    exact ⟨cur, hh, by omega, hb⟩
theorem szInt : (Try.prog.info? 3).map (·.size) = some 1 := by kernel_rfl
set_option maxHeartbeats 1600000 in
theorem specTurnBoard (n m : Int) (xs : List Int) (a : Option Addr) (b len cap : Nat) (w : World) (hn : xs.length = len) (h : Rd w a b 0 xs) (hb0 : len = 0 ∨ b < w.heap.size) :
    Calls Try.prog 27 #[.int .i64 n, .int .i64 m, .slice a len cap] w (Gives w 3 (valTurnB n m xs) (boardB n m xs)) := by
  have HG := Lib.hid (hxGood_any n m xs a b 0 len cap w hn h)
  cases hB : boardB n m xs
  · have HV : Hid (valTurnB n m xs = []) := Lib.hid (by simp [valTurnB, hB])
    rw [HV.out]
    rw [hB] at HG
    clear h hb0 hB
    go_enter Try.func27, Try.ntmps27
    go_wp2_with fail
    refine HG.out.mono ?_
    rintro e w1 ⟨rfl, rfl⟩
    go_wp2_with fail
    go_ret2
    exact gives_none (Below.refl _ _)
  · have HV0 : Hid (valTurnB n m xs = tbl n.toNat m.toNat xs.length xs xs.length) := Lib.hid (by simp [valTurnB, hB])
    rw [HV0.out]
    rw [hB] at HG
    obtain ⟨n, m, s, rfl, rfl, hnm, h30, h1, h2, hp, hl, hA⟩ := boardB_yes hB
    rw [Int.toNat_natCast, Int.toNat_natCast, hl]
    obtain ⟨i0, hi, hz0, hz1, hz2⟩ := info_parts intInfo
    have hls : len = s := by omega
    subst hls
    have HRD := Lib.hid (fun w' (hb : Below w.heap.size w w') => h.later hn hb0 hb)
    have HN := Lib.hid hn
    have HA := Lib.hid hA
    have HNM := Lib.hid hnm
    have HTL := Lib.hid (tbl_len n m len xs)
    clear h hb0 hB hn hl hp hA hnm HV0
    go_enter Try.func27, Try.ntmps27
    go_wp2_with fail
    refine HG.out.mono ?_
    rintro e w1 ⟨rfl, rfl⟩
    go_wp2_with (at_make; refine wpList_make_full _ rfl _ _ 22 rfl w.heap.size 3 i0 (.int .i64 0) 1 Try.underlying22 hi hz0 hz1 _ _ _ _ len rfl rfl ?hC ?hL ?hb2 ?hb3 ?hb4 ?_)
    case hC => rfl
    case hL => rfl
    case hb2 => rw [hz2]; omega
    case hb3 => unfold maxLen; omega
    case hb4 => exact Nat.le_refl _
    intro w1 ho1 hg1
    have ho1' : w1.ownsRow w.heap.size 3 1 (.slice (some ⟨w.heap.size, 0, none⟩) len len) len ((tbl n m len xs 0).map (Value.int .i64)) := by
      rw [tbl, List.map_replicate]
      first | exact made_ints len ▸ ho1 | exact made_ints' len ▸ ho1
    have hB1 : Below w.heap.size w w1 := (Below.refl _ _).grown hg1 (Nat.le_refl _) (fun k hk => by cases hk)
    have hm0 : (m : Int) ≠ 0 := by omega
    clear ho1 hg1
    go_wp2_with fail
    go_loopw [21] (fun v21 wr => ∃ k : Nat, k ≤ len ∧ v21 = .int .i64 k ∧ wr.ownsRow w.heap.size 3 1 (.slice (some ⟨w.heap.size, 0, none⟩) len len) len ((tbl n m len xs k).map (Value.int .i64)) ∧ Below w.heap.size w wr) (fun v21 _ => len - (intOf v21).toNat)
    case atStart => exact ⟨0, Nat.zero_le _, rfl, ho1', hB1⟩
    case round =>
      clear ho1' hB1
      obtain ⟨k, hk, rfl, ho, hb⟩ := hrel
      by_cases hlt : k < len
      · obtain ⟨rfl, c⟩ := (HRD.out wr hb).2 k (by rw [HN.out]; exact hlt)
        obtain ⟨l0, l2⟩ := allB_at HA.out k (by rw [HN.out]; exact hlt)
        rw [Nat.zero_add] at c
        have htl := tix_lt n m len k HNM.out h2 hlt
        have HT : Hid (tbl n m len xs (k + 1) = (tbl n m len xs k).set (tix n m k) (tv (xs.getD k 0))) := Lib.hid rfl
        obtain ⟨r, hr⟩ : ∃ r : Nat, r = k % m := ⟨_, rfl⟩
        obtain ⟨d, hd⟩ : ∃ d : Nat, d = k / m := ⟨_, rfl⟩
        obtain ⟨p, hp⟩ : ∃ p : Nat, p = n * r := ⟨_, rfl⟩
        obtain ⟨j, hj⟩ : ∃ j : Nat, j = p + d := ⟨_, rfl⟩
        have hjt : tix n m k = j := by rw [hj, hp, hr, hd]; rfl
        rw [hjt] at htl HT
        have e1 : Int.tmod (k : Int) (m : Int) = (r : Int) := by rw [hr]; exact (Int.ofNat_tmod k m).symm
        have e2 : Int.tdiv (k : Int) (m : Int) = (d : Int) := by rw [hd]; exact (Int.ofNat_tdiv k m).symm
        have e3 : (n : Int) * (r : Int) = (p : Int) := by rw [hp]; exact (Int.natCast_mul n r).symm
        have e4 : IntKind.i64.wrap ((n : Int) * (r : Int)) = (p : Int) := by rw [e3, IntWalk.i64_in _ ⟨by omega, by omega⟩]
        have e5 : IntKind.i64.wrap ((p : Int) + (d : Int)) = (j : Int) := by rw [IntWalk.i64_in _ ⟨by omega, by omega⟩]; omega
        have e6 : IntKind.i64.wrap (d : Int) = (d : Int) := IntWalk.i64_in _ ⟨by omega, by omega⟩
        have hrk : r ≤ k := by rw [hr]; exact Nat.mod_le _ _
        have hm0n : ¬ m = 0 := by omega
        have e7 : IntKind.i64.wrap (r : Int) = (r : Int) := IntWalk.i64_in _ ⟨by omega, by omega⟩
        have hji : (j : Int) < (len : Int) := by omega
        have hki : (k : Int) < (len : Int) := by omega
        obtain ⟨tv1, tv2⟩ := tv_of (xs.getD k 0) l0 l2
        have HT1 := Lib.hid tv1
        have HT2 := Lib.hid tv2
        generalize xs.getD k 0 = x at c l0 l2 HT HT1 HT2
        have HO := Lib.hid ho
        clear hr hd hp hjt hj e3 ho tv1 tv2
        by_cases hx : 0 < x
        · have HX := HT1.out hx
          rw [HX] at HT
          have hsx : wrap64 (3 - x) = 3 - x := IntWalk.wrap64_in _ ⟨by omega, by omega⟩
          clear HT1 HT2 HX
          go_wp2_with fail
          refine wp_region_mix (fun _ => True) [12] [0, 1, 2, 3, 4, 5, 6, 7, 8, 9, 10, 11, 12] (by kernel_rfl) (by kernel_rfl) (fun _ _ d _ _ h => by cases d <;> exact h) (by kernel_rfl) rfl True.intro ?_
          refine mix_take 0 _ ?_ rfl rfl rfl (some 30) rfl (fun w' hw' => ?hv0) ?_
          case hv0 =>
            go_simp
            with_reducible rfl
          simp only [Act.put, List.setIfInBounds_toArray, List.set_cons_zero, List.set_cons_succ]
          refine mix_take 1 _ ?_ rfl rfl rfl (some 31) rfl (fun w' hw' => ?hv1) ?_
          case hv1 =>
            go_simp
            with_reducible rfl
          simp only [Act.put, List.setIfInBounds_toArray, List.set_cons_zero, List.set_cons_succ]
          refine mix_take 2 _ ?_ rfl rfl rfl (some 32) rfl (fun w' hw' => ?hv2) ?_
          case hv2 =>
            go_simp
            with_reducible rfl
          simp only [Act.put, List.setIfInBounds_toArray, List.set_cons_zero, List.set_cons_succ]
          refine mix_take 3 _ ?_ rfl rfl rfl (some 33) rfl (fun w' hw' => ?hv3) ?_
          case hv3 =>
            go_simp
            with_reducible rfl
          simp only [Act.put, List.setIfInBounds_toArray, List.set_cons_zero, List.set_cons_succ]
          refine mix_take 4 _ ?_ rfl rfl rfl (some 34) rfl (fun w' hw' => ?hv4) ?_
          case hv4 =>
            go_simp
            with_reducible rfl
          simp only [Act.put, List.setIfInBounds_toArray, List.set_cons_zero, List.set_cons_succ]
          refine mix_take 5 _ ?_ rfl rfl rfl (some 35) rfl (fun w' hw' => ?hv5) ?_
          case hv5 =>
            go_simp
            with_reducible rfl
          simp only [Act.put, List.setIfInBounds_toArray, List.set_cons_zero, List.set_cons_succ]
          refine mix_take 6 _ ?_ rfl rfl rfl (some 36) rfl (fun w' hw' => ?hv6) ?_
          case hv6 =>
            go_simp
            with_reducible rfl
          simp only [Act.put, List.setIfInBounds_toArray, List.set_cons_zero, List.set_cons_succ]
          refine mix_take 7 _ ?_ rfl rfl rfl (some 37) rfl (fun w' hw' => ?hv7) ?_
          case hv7 =>
            go_simp
            with_reducible rfl
          simp only [Act.put, List.setIfInBounds_toArray, List.set_cons_zero, List.set_cons_succ]
          refine mix_take 8 _ ?_ rfl rfl rfl (some 38) rfl (fun w' hw' => ?hv8) ?_
          case hv8 =>
            go_simp
            with_reducible rfl
          simp only [Act.put, List.setIfInBounds_toArray, List.set_cons_zero, List.set_cons_succ]
          refine mix_take 9 _ ?_ rfl rfl rfl (some 39) rfl (fun w' hw' => ?hv9) ?_
          case hv9 =>
            go_simp
            with_reducible rfl
          simp only [Act.put, List.setIfInBounds_toArray, List.set_cons_zero, List.set_cons_succ]
          refine mix_take 10 _ ?_ rfl rfl rfl (some 40) rfl (fun w' hw' => ?hv10) ?_
          case hv10 =>
            go_simp
            with_reducible rfl
          simp only [Act.put, List.setIfInBounds_toArray, List.set_cons_zero, List.set_cons_succ]
          refine mix_take 11 _ ?_ rfl rfl rfl (some 41) rfl (fun w' hw' => ?hv11) ?_
          case hv11 =>
            go_simp
            with_reducible rfl
          simp only [Act.put, List.setIfInBounds_toArray, List.set_cons_zero, List.set_cons_succ]
          obtain ⟨cur, hcur, hcs, -⟩ := own_obj HO.out
          refine mix_store_cell 12 _ rfl rfl rfl _ _ _ rfl none rfl szInt w.heap.size j (3 - x) rfl rfl cur _ hcur (by omega) ⟨True.intro, ?_⟩
          simp only [Act.put]
          refine mix_done ?_
          have hst := (World.ownsRow.stored (own_now HO.out (by exact (Below.refl wr.heap.size wr).drew)) j (.int .i64 (3 - x))).1
          rw [← List.map_set, ← HT.out] at hst
          have hb2 := hb.drew.setCell (p := ⟨w.heap.size, j, none⟩) (Nat.le_refl _) (.int .i64 (3 - x))
          go_wp2_with fail
          go_roundw
          case rel => exact ⟨k + 1, by omega, by go_num, hst, hb2⟩
          case measure => simp [intOf]; omega
        · have HX := HT2.out hx
          rw [HX] at HT
          clear HT1 HT2 HX
          go_wp2_with fail
          refine wp_region_mix (fun _ => True) [12] [0, 1, 2, 3, 4, 5, 6, 7, 8, 9, 10, 11, 12] (by kernel_rfl) (by kernel_rfl) (fun _ _ d _ _ h => by cases d <;> exact h) (by kernel_rfl) rfl True.intro ?_
          refine mix_take 0 _ ?_ rfl rfl rfl (some 30) rfl (fun w' hw' => ?hv0) ?_
          case hv0 =>
            go_simp
            with_reducible rfl
          simp only [Act.put, List.setIfInBounds_toArray, List.set_cons_zero, List.set_cons_succ]
          refine mix_take 1 _ ?_ rfl rfl rfl (some 31) rfl (fun w' hw' => ?hv1) ?_
          case hv1 =>
            go_simp
            with_reducible rfl
          simp only [Act.put, List.setIfInBounds_toArray, List.set_cons_zero, List.set_cons_succ]
          refine mix_take 2 _ ?_ rfl rfl rfl (some 32) rfl (fun w' hw' => ?hv2) ?_
          case hv2 =>
            go_simp
            with_reducible rfl
          simp only [Act.put, List.setIfInBounds_toArray, List.set_cons_zero, List.set_cons_succ]
          refine mix_take 3 _ ?_ rfl rfl rfl (some 33) rfl (fun w' hw' => ?hv3) ?_
          case hv3 =>
            go_simp
            with_reducible rfl
          simp only [Act.put, List.setIfInBounds_toArray, List.set_cons_zero, List.set_cons_succ]
          refine mix_take 4 _ ?_ rfl rfl rfl (some 34) rfl (fun w' hw' => ?hv4) ?_
          case hv4 =>
            go_simp
            with_reducible rfl
          simp only [Act.put, List.setIfInBounds_toArray, List.set_cons_zero, List.set_cons_succ]
          refine mix_take 5 _ ?_ rfl rfl rfl (some 35) rfl (fun w' hw' => ?hv5) ?_
          case hv5 =>
            go_simp
            with_reducible rfl
          simp only [Act.put, List.setIfInBounds_toArray, List.set_cons_zero, List.set_cons_succ]
          refine mix_take 6 _ ?_ rfl rfl rfl (some 36) rfl (fun w' hw' => ?hv6) ?_
          case hv6 =>
            go_simp
            with_reducible rfl
          simp only [Act.put, List.setIfInBounds_toArray, List.set_cons_zero, List.set_cons_succ]
          refine mix_take 7 _ ?_ rfl rfl rfl (some 37) rfl (fun w' hw' => ?hv7) ?_
          case hv7 =>
            go_simp
            with_reducible rfl
          simp only [Act.put, List.setIfInBounds_toArray, List.set_cons_zero, List.set_cons_succ]
          refine mix_take 8 _ ?_ rfl rfl rfl (some 38) rfl (fun w' hw' => ?hv8) ?_
          case hv8 =>
            go_simp
            with_reducible rfl
          simp only [Act.put, List.setIfInBounds_toArray, List.set_cons_zero, List.set_cons_succ]
          refine mix_take 9 _ ?_ rfl rfl rfl (some 39) rfl (fun w' hw' => ?hv9) ?_
          case hv9 =>
            go_simp
            with_reducible rfl
          simp only [Act.put, List.setIfInBounds_toArray, List.set_cons_zero, List.set_cons_succ]
          refine mix_take 10 _ ?_ rfl rfl rfl (some 40) rfl (fun w' hw' => ?hv10) ?_
          case hv10 =>
            go_simp
            with_reducible rfl
          simp only [Act.put, List.setIfInBounds_toArray, List.set_cons_zero, List.set_cons_succ]
          refine mix_take 11 _ ?_ rfl rfl rfl (some 41) rfl (fun w' hw' => ?hv11) ?_
          case hv11 =>
            go_simp
            with_reducible rfl
          simp only [Act.put, List.setIfInBounds_toArray, List.set_cons_zero, List.set_cons_succ]
          obtain ⟨cur, hcur, hcs, -⟩ := own_obj HO.out
          refine mix_store_cell 12 _ rfl rfl rfl _ _ _ rfl none rfl szInt w.heap.size j (x) rfl rfl cur _ hcur (by omega) ⟨True.intro, ?_⟩
          simp only [Act.put]
          refine mix_done ?_
          have hst := (World.ownsRow.stored (own_now HO.out (by exact (Below.refl wr.heap.size wr).drew)) j (.int .i64 (x))).1
          rw [← List.map_set, ← HT.out] at hst
          have hb2 := hb.drew.setCell (p := ⟨w.heap.size, j, none⟩) (Nat.le_refl _) (.int .i64 (x))
          go_wp2_with fail
          go_roundw
          case rel => exact ⟨k + 1, by omega, by go_num, hst, hb2⟩
          case measure => simp [intOf]; omega
      · have hk2 : k = len := by omega
        rw [hk2] at ho
        clear hk2
        go_wp2_with fail
        go_ret2
        exact gives_of rfl (HTL.out len).symm ho hb
end Go.Proofs.Ythkohenobbhhmaa
