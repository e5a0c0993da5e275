import Derived.RegionTactic
import Derived.Test.YtncpnkcdjfohgaaDoorMd7
namespace Go.Proofs.YtncpnkcdjfohgaaDoor
open Go.RowKit
set_option maxRecDepth 4000
theorem alloc_at (w : World) (o : Obj) (k : Nat) (hk : k = w.heap.size) : (w.alloc o).heap[k]? = some o := by subst hk; exact heap_alloc_new w o
theorem alloc_keep {w : World} {k : Nat} {x : Obj} (o : Obj) (h : w.heap[k]? = some x) : (w.alloc o).heap[k]? = some x := by
  have hk : k < w.heap.size := (Array.getElem?_eq_some_iff.1 h).1
  exact (Below.heap_alloc w _ _ hk).trans h
/-- The model's list of all shares. -/
def AlV (w : World) (B : Nat) : Prop := ∀ k, k < 6 → w.cell? ⟨B + 6, k, none⟩ = some (.slice (some ⟨B + k, 0, none⟩) 3 3) ∧ w.heap[B + k]? = some (.cells ((shL k).map (Value.int .i64)).toArray 3 (0, 0))
theorem alv_lit (w0 : World) : AlV (((((((w0.alloc (.cells #[.int .i64 0, .int .i64 1, .int .i64 2] 3)).alloc (.cells #[.int .i64 0, .int .i64 2, .int .i64 1] 3)).alloc (.cells #[.int .i64 1, .int .i64 0, .int .i64 2] 3)).alloc (.cells #[.int .i64 1, .int .i64 2, .int .i64 0] 3)).alloc (.cells #[.int .i64 2, .int .i64 0, .int .i64 1] 3)).alloc (.cells #[.int .i64 2, .int .i64 1, .int .i64 0] 3)).alloc (.cells #[.slice (some ⟨w0.heap.size, 0, none⟩) 3 3, .slice (some ⟨w0.heap.size + 1, 0, none⟩) 3 3, .slice (some ⟨w0.heap.size + 2, 0, none⟩) 3 3, .slice (some ⟨w0.heap.size + 3, 0, none⟩) 3 3, .slice (some ⟨w0.heap.size + 4, 0, none⟩) 3 3, .slice (some ⟨w0.heap.size + 5, 0, none⟩) 3 3] 29)) w0.heap.size := by
  intro k hk
  have h6 := blk_cell (alloc_at ((((((w0.alloc (.cells #[.int .i64 0, .int .i64 1, .int .i64 2] 3)).alloc (.cells #[.int .i64 0, .int .i64 2, .int .i64 1] 3)).alloc (.cells #[.int .i64 1, .int .i64 0, .int .i64 2] 3)).alloc (.cells #[.int .i64 1, .int .i64 2, .int .i64 0] 3)).alloc (.cells #[.int .i64 2, .int .i64 0, .int .i64 1] 3)).alloc (.cells #[.int .i64 2, .int .i64 1, .int .i64 0] 3)) (.cells #[.slice (some ⟨w0.heap.size, 0, none⟩) 3 3, .slice (some ⟨w0.heap.size + 1, 0, none⟩) 3 3, .slice (some ⟨w0.heap.size + 2, 0, none⟩) 3 3, .slice (some ⟨w0.heap.size + 3, 0, none⟩) 3 3, .slice (some ⟨w0.heap.size + 4, 0, none⟩) 3 3, .slice (some ⟨w0.heap.size + 5, 0, none⟩) 3 3] 29) (w0.heap.size + 6) (by simp))
  have h0 := alloc_keep (.cells #[.slice (some ⟨w0.heap.size, 0, none⟩) 3 3, .slice (some ⟨w0.heap.size + 1, 0, none⟩) 3 3, .slice (some ⟨w0.heap.size + 2, 0, none⟩) 3 3, .slice (some ⟨w0.heap.size + 3, 0, none⟩) 3 3, .slice (some ⟨w0.heap.size + 4, 0, none⟩) 3 3, .slice (some ⟨w0.heap.size + 5, 0, none⟩) 3 3] 29) (alloc_keep (.cells #[.int .i64 2, .int .i64 1, .int .i64 0] 3) (alloc_keep (.cells #[.int .i64 2, .int .i64 0, .int .i64 1] 3) (alloc_keep (.cells #[.int .i64 1, .int .i64 2, .int .i64 0] 3) (alloc_keep (.cells #[.int .i64 1, .int .i64 0, .int .i64 2] 3) (alloc_keep (.cells #[.int .i64 0, .int .i64 2, .int .i64 1] 3) (alloc_at w0 (.cells #[.int .i64 0, .int .i64 1, .int .i64 2] 3) (w0.heap.size + 0) (by simp)))))))
  have h1 := alloc_keep (.cells #[.slice (some ⟨w0.heap.size, 0, none⟩) 3 3, .slice (some ⟨w0.heap.size + 1, 0, none⟩) 3 3, .slice (some ⟨w0.heap.size + 2, 0, none⟩) 3 3, .slice (some ⟨w0.heap.size + 3, 0, none⟩) 3 3, .slice (some ⟨w0.heap.size + 4, 0, none⟩) 3 3, .slice (some ⟨w0.heap.size + 5, 0, none⟩) 3 3] 29) (alloc_keep (.cells #[.int .i64 2, .int .i64 1, .int .i64 0] 3) (alloc_keep (.cells #[.int .i64 2, .int .i64 0, .int .i64 1] 3) (alloc_keep (.cells #[.int .i64 1, .int .i64 2, .int .i64 0] 3) (alloc_keep (.cells #[.int .i64 1, .int .i64 0, .int .i64 2] 3) (alloc_at (w0.alloc (.cells #[.int .i64 0, .int .i64 1, .int .i64 2] 3)) (.cells #[.int .i64 0, .int .i64 2, .int .i64 1] 3) (w0.heap.size + 1) (by simp))))))
  have h2 := alloc_keep (.cells #[.slice (some ⟨w0.heap.size, 0, none⟩) 3 3, .slice (some ⟨w0.heap.size + 1, 0, none⟩) 3 3, .slice (some ⟨w0.heap.size + 2, 0, none⟩) 3 3, .slice (some ⟨w0.heap.size + 3, 0, none⟩) 3 3, .slice (some ⟨w0.heap.size + 4, 0, none⟩) 3 3, .slice (some ⟨w0.heap.size + 5, 0, none⟩) 3 3] 29) (alloc_keep (.cells #[.int .i64 2, .int .i64 1, .int .i64 0] 3) (alloc_keep (.cells #[.int .i64 2, .int .i64 0, .int .i64 1] 3) (alloc_keep (.cells #[.int .i64 1, .int .i64 2, .int .i64 0] 3) (alloc_at ((w0.alloc (.cells #[.int .i64 0, .int .i64 1, .int .i64 2] 3)).alloc (.cells #[.int .i64 0, .int .i64 2, .int .i64 1] 3)) (.cells #[.int .i64 1, .int .i64 0, .int .i64 2] 3) (w0.heap.size + 2) (by simp)))))
  have h3 := alloc_keep (.cells #[.slice (some ⟨w0.heap.size, 0, none⟩) 3 3, .slice (some ⟨w0.heap.size + 1, 0, none⟩) 3 3, .slice (some ⟨w0.heap.size + 2, 0, none⟩) 3 3, .slice (some ⟨w0.heap.size + 3, 0, none⟩) 3 3, .slice (some ⟨w0.heap.size + 4, 0, none⟩) 3 3, .slice (some ⟨w0.heap.size + 5, 0, none⟩) 3 3] 29) (alloc_keep (.cells #[.int .i64 2, .int .i64 1, .int .i64 0] 3) (alloc_keep (.cells #[.int .i64 2, .int .i64 0, .int .i64 1] 3) (alloc_at (((w0.alloc (.cells #[.int .i64 0, .int .i64 1, .int .i64 2] 3)).alloc (.cells #[.int .i64 0, .int .i64 2, .int .i64 1] 3)).alloc (.cells #[.int .i64 1, .int .i64 0, .int .i64 2] 3)) (.cells #[.int .i64 1, .int .i64 2, .int .i64 0] 3) (w0.heap.size + 3) (by simp))))
  have h4 := alloc_keep (.cells #[.slice (some ⟨w0.heap.size, 0, none⟩) 3 3, .slice (some ⟨w0.heap.size + 1, 0, none⟩) 3 3, .slice (some ⟨w0.heap.size + 2, 0, none⟩) 3 3, .slice (some ⟨w0.heap.size + 3, 0, none⟩) 3 3, .slice (some ⟨w0.heap.size + 4, 0, none⟩) 3 3, .slice (some ⟨w0.heap.size + 5, 0, none⟩) 3 3] 29) (alloc_keep (.cells #[.int .i64 2, .int .i64 1, .int .i64 0] 3) (alloc_at ((((w0.alloc (.cells #[.int .i64 0, .int .i64 1, .int .i64 2] 3)).alloc (.cells #[.int .i64 0, .int .i64 2, .int .i64 1] 3)).alloc (.cells #[.int .i64 1, .int .i64 0, .int .i64 2] 3)).alloc (.cells #[.int .i64 1, .int .i64 2, .int .i64 0] 3)) (.cells #[.int .i64 2, .int .i64 0, .int .i64 1] 3) (w0.heap.size + 4) (by simp)))
  have h5 := alloc_keep (.cells #[.slice (some ⟨w0.heap.size, 0, none⟩) 3 3, .slice (some ⟨w0.heap.size + 1, 0, none⟩) 3 3, .slice (some ⟨w0.heap.size + 2, 0, none⟩) 3 3, .slice (some ⟨w0.heap.size + 3, 0, none⟩) 3 3, .slice (some ⟨w0.heap.size + 4, 0, none⟩) 3 3, .slice (some ⟨w0.heap.size + 5, 0, none⟩) 3 3] 29) (alloc_at (((((w0.alloc (.cells #[.int .i64 0, .int .i64 1, .int .i64 2] 3)).alloc (.cells #[.int .i64 0, .int .i64 2, .int .i64 1] 3)).alloc (.cells #[.int .i64 1, .int .i64 0, .int .i64 2] 3)).alloc (.cells #[.int .i64 1, .int .i64 2, .int .i64 0] 3)).alloc (.cells #[.int .i64 2, .int .i64 0, .int .i64 1] 3)) (.cells #[.int .i64 2, .int .i64 1, .int .i64 0] 3) (w0.heap.size + 5) (by simp))
  match k, hk with
  | 0, _ => exact ⟨h6 0 _ rfl, h0⟩
  | 1, _ => exact ⟨h6 1 _ rfl, h1⟩
  | 2, _ => exact ⟨h6 2 _ rfl, h2⟩
  | 3, _ => exact ⟨h6 3 _ rfl, h3⟩
  | 4, _ => exact ⟨h6 4 _ rfl, h4⟩
  | 5, _ => exact ⟨h6 5 _ rfl, h5⟩
set_option maxHeartbeats 1600000 in
theorem ckAll_any (w : World) :
    Calls Tryd.prog 48 #[] w fun e w' => e = .returned (.slice (some ⟨w.heap.size + 6, 0, none⟩) 6 6) ∧ AlV w' w.heap.size ∧ Below w.heap.size w w' ∧ w'.heap.size = w.heap.size + 7 := by
  go_enter Tryd.func48, Tryd.ntmps48
  go_wp2_with fail
  go_ret
  exact ⟨rfl, alv_lit w, balloc (balloc (balloc (balloc (balloc (balloc (balloc (Below.refl _ _) _) _) _) _) _) _) _, by simp⟩
theorem alv_rd {w : World} {B : Nat} (h : AlV w B) (k : Nat) (hk : k < 6) : Rd w (some ⟨B + k, 0, none⟩) (B + k) 0 (shL k) := ⟨by simp [shL, maxLen], fun j hj => ⟨rfl, by
  have hj3 : j < 3 := hj
  rw [Nat.zero_add]
  refine blk_cell (h k hk).2 j _ ?_
  rw [List.getElem?_toArray, List.getElem?_map, List.getD_eq_getElem?_getD, List.getElem?_eq_getElem hj]
  rfl⟩⟩
theorem alv_oi {w : World} {B base : Nat} (h : AlV w B) (hB : base ≤ B) (k : Nat) (hk : k < 6) : OI w base w.heap.size (.slice (some ⟨B + k, 0, none⟩) 3 3) (shL k) :=
  ⟨_, own_block (cap := 3) (xs := shL k) (by omega) (h k hk).2 (by simp) rfl (by simp [maxLen]), fun q hq => by
    simp [Value.ownBlock] at hq
    subst hq
    exact (Array.getElem?_eq_some_iff.1 (h k hk).2).1⟩
/-- The first of the greatest. -/
def IsB (f : Nat → Int) (m j : Nat) : Prop := j < m ∧ (∀ i, i < m → f i ≤ f j) ∧ ∀ i, i < j → f i < f j
theorem IsB.uniq {f : Nat → Int} {m j k : Nat} (h : IsB f m j) (h' : IsB f m k) : j = k := by
  obtain ⟨h1, h2, h3⟩ := h
  obtain ⟨k1, k2, k3⟩ := h'
  rcases Nat.lt_trichotomy j k with e | e | e
  · have := k3 j e; have := h2 k k1; omega
  · exact e
  · have := h3 k e; have := k2 j h1; omega
theorem IsB.step {f : Nat → Int} {m j : Nat} (h : IsB f m j) : IsB f (m + 1) (if f j < f m then m else j) := by
  obtain ⟨h1, h2, h3⟩ := h
  by_cases e : f j < f m
  · rw [if_pos e]
    refine ⟨by omega, fun i hi => ?_, fun i hi => ?_⟩
    · by_cases hm : i = m
      · rw [hm]; exact Int.le_refl _
      · have := h2 i (by omega); omega
    · have := h2 i hi; omega
  · rw [if_neg e]
    refine ⟨by omega, fun i hi => ?_, h3⟩
    by_cases hm : i = m
    · rw [hm]; omega
    · exact h2 i (by omega)
theorem IsB.one (f : Nat → Int) : IsB f 1 0 := ⟨by omega, fun i hi => by rw [show i = 0 by omega]; exact Int.le_refl _, fun i hi => by omega⟩
theorem isB_exists (f : Nat → Int) : ∀ m : Nat, ∃ j, IsB f (m + 1) j
  | 0 => ⟨0, IsB.one f⟩
  | m + 1 => by
    obtain ⟨j, h⟩ := isB_exists f m
    exact ⟨_, h.step⟩
set_option maxHeartbeats 800000 in
theorem ckRooms_any (ts : List (List Int)) (a : Option Addr) (cap B : Nat) (w : World) (h : RdSS w B a ts) :
    Calls Tryd.prog 46 #[.slice a ts.length cap] w fun e w' => e = .returned (.bool (rowsB 3 20 ts)) ∧ w = w' := by
  obtain ⟨hm, b, off, hc⟩ := h
  unfold maxLen at hm
  have HC := Lib.hid hc
  clear hc
  by_cases h3 : ts.length = 3
  · have hne : ((ts.length : Int) != 3) = false := by rw [h3]; rfl
    have HL := Lib.hid h3
    have hl3 : ts.length ≤ 3 := by omega
    clear h3
    go_enter Tryd.func46, Tryd.ntmps46
    go_wp2_with fail
    go_loop [10] (fun vk => ∃ k : Nat, k ≤ ts.length ∧ vk = .int .i64 k ∧ ∀ j, j < k → okT 3 20 (ts.getD j []) = true) (fun vk => ts.length - (intOf vk).toNat)
    case atStart => exact ⟨0, Nat.zero_le _, rfl, by omega⟩
    case round =>
      obtain ⟨k, hk, rfl, hall⟩ := hrel
      have HA := Lib.hid hall
      clear hall
      by_cases hlt : k < ts.length
      · obtain ⟨ha, hbl, ra, rc, c1, hr⟩ := HC.out k hlt
        subst ha
        have hi : (k : Int) < (ts.length : Int) := by omega
        have HR := Lib.hid hr
        have HNO := Lib.hid (rowsB_no 3 20 ts k hlt)
        have HX : Hid (okT 3 20 (ts.getD k []) = true → ∀ j, j < k + 1 → okT 3 20 (ts.getD j []) = true) := Lib.hid (fun hx j hj => by
          by_cases e : j = k
          · rw [e]; exact hx
          · exact HA.out j (by omega))
        clear hr HA
        generalize ts.getD k [] = t at *
        by_cases hln : t.length = 3
        · have hne2 : ((t.length : Int) != 3) = false := by rw [hln]; rfl
          have HLN := Lib.hid hln
          clear hln
          go_wp2_with fail
          refine (l1All_rd t ra rc B 0 20 w HR.out).mono ?_
          rintro e w' ⟨rfl, rfl⟩
          cases hA : allB 0 20 t
          · go_wp2_with fail
            go_ret
            exact ⟨ret_bool (HNO.out (by simp [okT, hA])).symm, rfl⟩
          · have HAl := Lib.hid hA
            clear hA
            go_wp2_with fail
            go_round
            case rel => exact ⟨k + 1, by omega, by go_num, HX.out (by simp [okT, HAl.out, HLN.out])⟩
            case measure => simp [intOf]; omega
        · have hne2 : ((t.length : Int) != 3) = true := by simp; omega
          have hF := Lib.hid (HNO.out (by simp [okT, hln]))
          clear hln HNO
          go_wp2_with fail
          go_ret
          exact ⟨ret_bool hF.out.symm, rfl⟩
      · have hk2 : ts.length = k := by omega
        have hT := Lib.hid (rowsB_yes 3 20 ts HL.out (fun j hj => HA.out j (by omega)))
        clear hk2
        go_wp2_with fail
        go_ret
        exact ⟨ret_bool hT.out.symm, rfl⟩
  · have hne : ((ts.length : Int) != 3) = true := by simp; omega
    have hF := Lib.hid (rowsB_len 3 20 ts h3)
    clear h3
    go_enter Tryd.func46, Tryd.ntmps46
    go_wp2_with fail
    go_ret
    exact ⟨ret_bool hF.out.symm, rfl⟩
/-- What the rooms are worth. -/
def rmW (ts : List (List Int)) (p q : Nat) : Int := (ts.getD p []).getD q 0
theorem rooms_rows {ts : List (List Int)} (hy : rowsB 3 20 ts = true) : Rows3 ts (rmW ts) := by
  obtain ⟨h3, hr⟩ := rowsB_at hy
  refine ⟨h3, fun p hp => (hr p (by omega)).1, fun p hp q hq => rfl, fun p hp q hq => ?_⟩
  have := getD_bd (by omega) (by omega) (hr p (by omega)).2 q
  show -1000 ≤ (ts.getD p []).getD q 0 ∧ (ts.getD p []).getD q 0 ≤ 1000
  omega
theorem rmW_bd {ts : List (List Int)} (hy : rowsB 3 20 ts = true) (p q : Nat) (hp : p < 3) : 0 ≤ rmW ts p q ∧ rmW ts p q ≤ 20 := by
  obtain ⟨h3, hr⟩ := rowsB_at hy
  exact getD_bd (by omega) (by omega) (hr p (by omega)).2 q
/-- The same by the cell where they lie. -/
def rw9 (ts : List (List Int)) (q : Nat) : Int := rmW ts (q / 3) (q % 3)
theorem rw9_at (ts : List (List Int)) (p q : Nat) (hq : q < 3) : rw9 ts (3 * p + q) = rmW ts p q := by
  rw [rw9, show (3 * p + q) / 3 = p by omega, show (3 * p + q) % 3 = q by omega]
theorem rw9_bd {ts : List (List Int)} (hy : rowsB 3 20 ts = true) : ∀ q, q < 9 → -1000 ≤ rw9 ts q ∧ rw9 ts q ≤ 1000 := fun q hq => by
  have := rmW_bd hy (q / 3) (q % 3) (by omega)
  unfold rw9; omega
theorem run_build0_off (w : World) : (Instr.build 70 #[]).run Tryd.prog w = .ok (.agg zeroO) w := by kernel_rfl
section
variable {ops : Array Oper} {rest : List Oper} {o : Oper} {a : Act} {w : World} {Q : Exit → Act → World → Prop}
theorem build0_off (hgd : o.guard = none) (ho : o.op = .build 70 #[])
    (h : wpList Tryd.prog ops Q rest (a.put o.dst (.agg zeroO)) w) : wpList Tryd.prog ops Q (o :: rest) a w := by
  refine wpList_plain hgd fun K hK => ?_
  unfold Oper.wp
  simp [execOp, ho, run_build0_off, Result.andThen]
  exact hK _ _ h
end
set_option maxHeartbeats 1600000 in
theorem offersOf_no (ts : List (List Int)) (hy : rowsB 3 20 ts = false) (a : Option Addr) (cap : Nat) (w : World) (h : RdSS w w.heap.size a ts) :
    Calls Tryd.prog 73 #[.slice a ts.length cap] w fun e w' => e = .returned (.tuple #[.agg zeroO, .bool false]) ∧ Below w.heap.size w w' := by
  have HY := Lib.hid hy
  have hb0 := balloc (Below.refl w.heap.size w) (.cells zeroO 70)
  have hg0 := heap_alloc_new w (.cells zeroO 70)
  have HRD := Lib.hid (rdss_mono (rdss_later h hb0) hb0.size)
  clear h hy
  go_enter Tryd.func73, Tryd.ntmps73
  go_wp2_with (with_reducible refine alloc_blk zeroO run_alloc_off rfl rfl ?_)
  refine (areForPeople_any 3 20 ts a cap _ HRD.out).mono ?_
  rintro e w1 ⟨rfl, hb1⟩
  rw [HY.out]
  have hg1 := (hb1.block w.heap.size (by simp)).trans hg0
  have hB1 := bnext hb0 hb1
  go_wp2_with (first | (with_reducible refine build0_off rfl rfl ?_) | ((with_reducible refine store_blk blkOff rfl _ _ rfl w.heap.size zeroO zeroO ?_ ?_ hg1 zeroO_size zeroO_size zeroO_one w.heap.size (Nat.le_refl _) ?_); exact rfl; exact rfl; intro w4 hg4 hb4 _ _; have hB4 := hB1.trans hb4))
  exact bodyPost_ret (results_blk blkOff rfl _ _ w.heap.size _ _ rfl rfl hg4 zeroO_size) rfl ⟨rfl, hB4⟩
end Go.Proofs.YtncpnkcdjfohgaaDoor
