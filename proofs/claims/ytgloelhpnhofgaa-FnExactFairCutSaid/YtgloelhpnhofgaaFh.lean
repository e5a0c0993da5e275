import Derived.Test.YtgloelhpnhofgaaZm
import Derived.Test.YtgloelhpnhofgaaMu
namespace Go.Proofs.Ytgloelhpnhofgaa
open Go.RowKit
set_option maxRecDepth 4000
/-- Which piece each person gets: the labels of the first k points of a cell, at their owners. -/
def shp (ts : List (List Int)) (n : Nat) (c : Nat → Nat) : Nat → List Int
  | 0 => [0, 0, 0]
  | k + 1 => (shp ts n c k).set (ownr (c k)).toNat (lbV ts n (c k))
theorem shp_len (ts : List (List Int)) (n : Nat) (c : Nat → Nat) : ∀ k, (shp ts n c k).length = 3
  | 0 => rfl
  | k + 1 => by rw [shp, List.length_set, shp_len ts n c k]
def shC (L : List Int) : Array Value := (L.map (Value.int .i64)).toArray
theorem shC_size {L : List Int} (h : L.length = 3) : (shC L).size = 3 := by simp [shC, h]
theorem shC_one (L : List Int) : (shC L).all (·.oneCell') = true := by
  simp [shC, Value.oneCell']
theorem shC_set (L : List Int) (p : Nat) (x : Int) : (shC L).setIfInBounds p (.int .i64 x) = shC (L.set p x) := by
  simp [shC, List.map_set]
theorem blkShr : Blk 95 3 := ⟨.inr ⟨_, _, Try.underlying95⟩, by kernel_rfl⟩
theorem blkTrio : Blk 93 3 := ⟨.inr ⟨_, _, Try.underlying93⟩, by kernel_rfl⟩
theorem run_alloc_shr (w : World) : (Instr.alloc 95 true (.tuple #[])).run Try.prog w = .ok (.pointer (some ⟨w.heap.size, 0, none⟩)) (w.alloc (.cells (shC [0, 0, 0]) 95)) := by kernel_rfl
theorem run_alloc_trio (w : World) : (Instr.alloc 93 true (.tuple #[])).run Try.prog w = .ok (.pointer (some ⟨w.heap.size, 0, none⟩)) (w.alloc (.cells (shC [0, 0, 0]) 93)) := by kernel_rfl
def trA (c : Nat → Nat) : Array Value := #[.int .i64 (c 0 : Nat), .int .i64 (c 1 : Nat), .int .i64 (c 2 : Nat)]
theorem trA_size (c : Nat → Nat) : (trA c).size = 3 := rfl
theorem trA_one (c : Nat → Nat) : (trA c).all (·.oneCell') = true := by simp [trA, Value.oneCell']
theorem idxT (c : Nat → Nat) (k : Nat) (hk : k < 3) (w : World) : (Instr.index 93 (.agg (trA c)) (.int .i64 k)).run Try.prog w = .ok (.int .i64 (c k : Nat)) w := by
  rcases (show k = 0 ∨ k = 1 ∨ k = 2 by omega) with rfl | rfl | rfl
  · exact (show (Instr.index 93 (.agg #[.int .i64 (c 0 : Nat), .int .i64 (c 1 : Nat), .int .i64 (c 2 : Nat)]) (.int .i64 0)).run Try.prog w = .ok (.int .i64 (c 0 : Nat)) w by kernel_rfl)
  · exact (show (Instr.index 93 (.agg #[.int .i64 (c 0 : Nat), .int .i64 (c 1 : Nat), .int .i64 (c 2 : Nat)]) (.int .i64 1)).run Try.prog w = .ok (.int .i64 (c 1 : Nat)) w by kernel_rfl)
  · exact (show (Instr.index 93 (.agg #[.int .i64 (c 0 : Nat), .int .i64 (c 1 : Nat), .int .i64 (c 2 : Nat)]) (.int .i64 2)).run Try.prog w = .ok (.int .i64 (c 2 : Nat)) w by kernel_rfl)
/-- What stays while pieces are given: the cake, the cell, the result, and the pieces. -/
structure FhK (w0 : World) (cs tr : Array Value) (L : List Int) (w : World) : Prop where
  cake : w.heap[w0.heap.size]? = some (.cells cs 88 (0, 0))
  cell : w.heap[w0.heap.size + 1]? = some (.cells tr 93 (0, 0))
  res : w.heap[w0.heap.size + 2]? = some (.cells (shC [0, 0, 0]) 95 (0, 0))
  got : w.heap[w0.heap.size + 3]? = some (.cells (shC L) 95 (0, 0))
  old : Below w0.heap.size w0 w
theorem FhK.lt {w0 : World} {cs tr : Array Value} {L : List Int} {w : World} (h : FhK w0 cs tr L w) : w0.heap.size + 4 ≤ w.heap.size := (Array.getElem?_eq_some_iff.1 h.got).1
theorem FhK.below {w0 : World} {cs tr : Array Value} {L : List Int} {w w' : World} (h : FhK w0 cs tr L w) (hb : Below w.heap.size w w') : FhK w0 cs tr L w' := by
  have := h.lt
  exact ⟨(hb.block _ (by omega)).trans h.cake, (hb.block _ (by omega)).trans h.cell, (hb.block _ (by omega)).trans h.res, (hb.block _ (by omega)).trans h.got, bnext h.old hb⟩
theorem FhK.keep {w0 : World} {cs tr : Array Value} {L : List Int} {g : Nat} {w w' : World} (h : FhK w0 cs tr L w) (hk : ∀ k, k ≠ g → w'.heap[k]? = w.heap[k]?) (hb : Below g w w') (hg : w0.heap.size + 4 ≤ g) : FhK w0 cs tr L w' :=
  ⟨(hk _ (by omega)).trans h.cake, (hk _ (by omega)).trans h.cell, (hk _ (by omega)).trans h.res, (hk _ (by omega)).trans h.got, h.old.trans (hb.mono (by omega))⟩
theorem FhK.set {w0 : World} {cs tr : Array Value} {L : List Int} {w : World} (h : FhK w0 cs tr L w) (p : Nat) (x : Int) : FhK w0 cs tr (L.set p x) (w.setCell ⟨w0.heap.size + 3, p, none⟩ (.int .i64 x)) := by
  have e := setCell_eq_setRow w (w0.heap.size + 3) p (shC L) 95 (0, 0) (.int .i64 x) h.got
  have hk : ∀ k, k ≠ w0.heap.size + 3 → (w.setCell ⟨w0.heap.size + 3, p, none⟩ (.int .i64 x)).heap[k]? = w.heap[k]? := fun k hk => by
    rw [e]
    simp only [World.setRow, Array.getElem?_modify]
    rw [if_neg (fun e => hk e.symm)]
  refine ⟨(hk _ (by omega)).trans h.cake, (hk _ (by omega)).trans h.cell, (hk _ (by omega)).trans h.res, ?_, h.old.setCell (by show w0.heap.size ≤ w0.heap.size + 3; omega) _⟩
  rw [e, setRow_heap w _ _ _ _ _ h.got, shC_set]
theorem four_heapF (w : World) (a b c d : Obj) : ((((w.alloc a).alloc b).alloc c).alloc d).heap[w.heap.size]? = some a ∧ ((((w.alloc a).alloc b).alloc c).alloc d).heap[w.heap.size + 1]? = some b ∧ ((((w.alloc a).alloc b).alloc c).alloc d).heap[w.heap.size + 2]? = some c ∧ ((((w.alloc a).alloc b).alloc c).alloc d).heap[w.heap.size + 3]? = some d := by
  refine ⟨?_, ?_, ?_, ?_⟩
  · rw [Below.heap_alloc _ _ _ (by simp <;> omega), Below.heap_alloc _ _ _ (by simp <;> omega), Below.heap_alloc _ _ _ (by simp)]
    exact heap_alloc_new w _
  · rw [Below.heap_alloc _ _ _ (by simp <;> omega), Below.heap_alloc _ _ _ (by simp)]
    have e := heap_alloc_new (w.alloc a) b
    rwa [World.size_alloc] at e
  · rw [Below.heap_alloc _ _ _ (by simp)]
    have e := heap_alloc_new ((w.alloc a).alloc b) c
    rwa [World.size_alloc, World.size_alloc] at e
  · have e := heap_alloc_new (((w.alloc a).alloc b).alloc c) d
    rwa [World.size_alloc, World.size_alloc, World.size_alloc] at e
set_option maxHeartbeats 3200000 in
theorem fairSharing_any (n : Nat) (h1 : 1 ≤ n) (h2 : n ≤ 8) (ts : List (List Int)) (hy : rowsB n 9 ts = true) (c : Nat → Nat) (hc : ∀ k, k < 3 → c k < Pr.cnt n) (w : World) :
    Calls Try.prog 73 #[.agg (cakeA n ts), .agg (trA c)] w fun e w' => e = .returned (.agg (shC (shp ts n c 3))) ∧ Below w.heap.size w w' := by
  have hcn := (Pr.cnt_le n (by omega)).1
  have HIX := Lib.hid (fun k hk w => idxT c k hk w)
  have HC := Lib.hid hc
  have HSP := Lib.hid (fun i (hi : i < 45) w => spotAt_any n i h1 h2 hi w)
  have HOW := Lib.hid (fun i (hi : i < 45) w => owner_any n i hi w)
  have HLB := Lib.hid (fun i hi w => labelAt_any n i h1 h2 hi ts hy w)
  have HSH : Hid (∀ k p : Nat, ownr (c k) = p → shp ts n c (k + 1) = (shp ts n c k).set p (lbV ts n (c k))) := Lib.hid (fun k p h => by rw [shp, h]; rfl)
  have HSL := Lib.hid (shp_len ts n c)
  have HS0 : Hid (shp ts n c 0 = [0, 0, 0]) := Lib.hid rfl
  obtain ⟨hh0, hh1, hh2, hh3⟩ := four_heapF w (.cells (cakeA n ts) 88) (.cells (trA c) 93) (.cells (shC [0, 0, 0]) 95) (.cells (shC [0, 0, 0]) 95)
  have hK0 : FhK w (cakeA n ts) (trA c) [0, 0, 0] _ := ⟨hh0, hh1, hh2, hh3, balloc (balloc (balloc (balloc (Below.refl w.heap.size w) _) _) _) _⟩
  clear hc hy hh0 hh2 hh3
  go_enter Try.func73, Try.ntmps73
  go_wp2_with (first
    | ((with_reducible refine alloc_blk (shC [0, 0, 0]) run_alloc_shr rfl rfl ?_); simp only [World.size_alloc, Act.put, List.setIfInBounds_toArray, List.set_cons_zero, List.set_cons_succ])
    | ((with_reducible refine load_blk blkTrio ?_ _ rfl (w.heap.size + 1) ?_ (trA c) hh1 (trA_size _) ?_); exact rfl; exact rfl; simp only [Act.put, List.setIfInBounds_toArray, List.set_cons_zero, List.set_cons_succ]))
  generalize ((((w.alloc (.cells (cakeA n ts) 88)).alloc (.cells (trA c) 93)).alloc (.cells (shC [0, 0, 0]) 95)).alloc (.cells (shC [0, 0, 0]) 95)) = w4 at hK0 hh1 ⊢
  clear hh1
  go_loopw [10] (fun v10 wr => ∃ k : Nat, k ≤ 3 ∧ v10 = .int .i64 k ∧ FhK w (cakeA n ts) (trA c) (shp ts n c k) wr) (fun v10 _ => 3 - (intOf v10).toNat)
  case atStart => exact ⟨0, by omega, rfl, by rw [HS0.out]; exact hK0⟩
  case round =>
    obtain ⟨k, hk, rfl, hK⟩ := hrel
    clear hK0
    by_cases hlt : k < 3
    · have hix := HIX.out k hlt
      have hck := HC.out k hlt
      obtain ⟨p, hp, hop⟩ := ownr_nat (c k) (by omega)
      have HSK := Lib.hid (HSH.out k p hop)
      have hsl := HSL.out k
      have hsp := Lib.hid (fun w => HSP.out (c k) (by omega) w)
      have how := Lib.hid (fun w => HOW.out (c k) (by omega) w)
      rw [hop] at how
      have hlb := Lib.hid (fun w => HLB.out (c k) hck w)
      have hpi : (p : Int) < 3 := by omega
      have hki : (k : Int) < 3 := by omega
      clear hop
      obtain ⟨wi, rfl⟩ : ∃ wi : World, wi = wr := ⟨_, rfl⟩
      have c0 := blk_cell hK.cake 0 _ (cakeF_zero n (tv ts))
      generalize c k = i at *
      go_wp2_with fail
      refine (hsp.out _).mono ?_
      rintro e w5 ⟨rfl, hb5⟩
      have hK5 := hK.below hb5
      have hlt5 := hK5.lt
      have hE : (#[.int .i64 ((n : Int) - (Pr.R i : Nat)), .int .i64 ((Pr.R i : Int) - (Pr.C i : Nat)), .int .i64 (Pr.C i : Nat)] : Array Value) = spA n i := rfl
      rw [hE]
      clear hb5 c0 hK
      go_wp2_with (first
        | ((with_reducible refine alloc_blk zeroS run_alloc_spot rfl rfl ?_))
        | ((with_reducible refine store_blk blkSpot rfl _ _ rfl w5.heap.size (spA n i) zeroS ?_ ?_ (heap_alloc_new _ _) zeroS_size (spA_size _ _) (spA_one _ _) w5.heap.size (Nat.le_refl _) ?_); exact rfl; exact rfl; intro w6 hg6 hb6 hk6 hz6))
      have hK6 := hK5.below ((balloc (Below.refl w5.heap.size w5) (.cells zeroS 121)).trans hb6)
      have hz65 := (Array.getElem?_eq_some_iff.1 hg6).1
      clear hk6 hb6 hz6 hK5
      refine wp_region_mix (fun w' => w'.heap[w5.heap.size]? = some (.cells (spA n i) 121 (0, 0)) ∧ ∃ L, FhK w (cakeA n ts) (trA c) L w') [1, 4, 6] [0, 2, 3, 1, 4, 5, 6] (by kernel_rfl) (by kernel_rfl) (fun _ _ d _ _ h => by cases d <;> exact h) (by kernel_rfl) rfl ⟨hg6, _, hK6.below (Below.refl _ _).drew⟩ ?_
      refine mix_take 0 _ (.agg (spA n i)) rfl rfl rfl (some 17) rfl (fun w' hw' => exec_row _ _ rfl w5.heap.size rfl (spA n i) (load_ok blkSpot w' _ _ hw'.1 (spA_size _ _))) ?_
      simp only [Act.put, List.setIfInBounds_toArray, List.set_cons_zero, List.set_cons_succ]
      refine mix_take 2 _ (.agg (cakeA n ts)) rfl rfl rfl (some 19) rfl (fun w' hw' => exec_row _ _ rfl w.heap.size rfl (cakeA n ts) (load_ok blkCake w' _ _ hw'.2.choose_spec.cake (cakeA_size _ _))) ?_
      simp only [Act.put, List.setIfInBounds_toArray, List.set_cons_zero, List.set_cons_succ]
      refine mix_take 3 _ (.agg (spA n i)) rfl rfl rfl (some 20) rfl (fun w' hw' => exec_row _ _ rfl w5.heap.size rfl (spA n i) (load_ok blkSpot w' _ _ hw'.1 (spA_size _ _))) ?_
      simp only [Act.put, List.setIfInBounds_toArray, List.set_cons_zero, List.set_cons_succ]
      refine mix_call 1 _ rfl rfl rfl 108 #[.agg (spA n i)] (some 18) rfl ?hr1 ?_
      case hr1 => go_simp
      refine (how.out _).mono ?_
      rintro e w7 ⟨rfl, hb7⟩
      have hb7' : Below w6.heap.size w6 w7 := ((Same.refl w6).drew w6.heap.size).trans hb7
      have hK7 := hK6.below hb7'
      have hg7 := (hb7'.block w5.heap.size hz65).trans hg6
      refine ⟨_, rfl, ⟨hg7, _, hK7⟩, ?_⟩
      simp only [Act.put, List.setIfInBounds_toArray, List.set_cons_zero, List.set_cons_succ]
      refine mix_call 4 _ rfl rfl rfl 105 #[.agg (cakeA n ts), .agg (spA n i)] (some 21) rfl ?hr4 ?_
      case hr4 => go_simp
      refine (hlb.out _).mono ?_
      rintro e w8 ⟨rfl, hb8⟩
      have hb8' := bnext hb7' hb8
      have hK8 := hK7.below hb8
      have hg8 := (hb8'.block w5.heap.size hz65).trans hg6
      refine ⟨_, rfl, ⟨hg8, _, hK8⟩, ?_⟩
      simp only [Act.put, List.setIfInBounds_toArray, List.set_cons_zero, List.set_cons_succ]
      refine mix_take 5 _ (.pointer (some ⟨w.heap.size + 3, p, none⟩)) rfl rfl rfl (some 22) rfl (fun w' hw' => ?hv5) ?_
      case hv5 =>
        go_simp
        try with_reducible rfl
      simp only [Act.put, List.setIfInBounds_toArray, List.set_cons_zero, List.set_cons_succ]
      refine mix_store_cell 6 _ rfl rfl rfl _ _ _ rfl none rfl szInt (w.heap.size + 3) p (lbV ts n i) rfl rfl (shC (shp ts n c k)) 95 hK8.got (by rw [shC_size hsl]; exact hp) ?_
      have hK9 := hK8.set p (lbV ts n i)
      rw [← HSK.out] at hK9
      have hne : (w8.setCell ⟨w.heap.size + 3, p, none⟩ (.int .i64 (lbV ts n i))).heap[w5.heap.size]? = some (.cells (spA n i) 121 (0, 0)) := by
        rw [setCell_eq_setRow w8 (w.heap.size + 3) p (shC (shp ts n c k)) 95 (0, 0) _ hK8.got]
        simp only [World.setRow, Array.getElem?_modify]
        rw [if_neg (by omega)]
        exact hg8
      refine ⟨⟨hne, _, hK9⟩, ?_⟩
      simp only [Act.put]
      refine mix_done ?_
      clear hne hK8 hK7 hg7 hg8 hb8' hb7' hb8 hb7 hg6 hK6
      generalize w8.setCell ⟨w.heap.size + 3, p, none⟩ (.int .i64 (lbV ts n i)) = w9 at hK9 ⊢
      go_wp2_with fail
      go_roundw
      case rel => exact ⟨k + 1, by omega, by go_num, hK9⟩
      case measure => (simp [intOf] <;> omega)
    · have hk3 : k = 3 := by omega
      subst hk3
      have hgot := hK.got
      have hres := hK.res
      go_wp2_with (first
        | ((with_reducible refine load_blk blkShr ?_ _ rfl (w.heap.size + 3) ?_ (shC (shp ts n c 3)) hgot (shC_size (HSL.out 3)) ?_); exact rfl; exact rfl; simp only [Act.put, List.setIfInBounds_toArray, List.set_cons_zero, List.set_cons_succ])
        | ((with_reducible refine store_blk blkShr rfl _ _ rfl (w.heap.size + 2) (shC (shp ts n c 3)) (shC [0, 0, 0]) ?_ ?_ hres (shC_size rfl) (shC_size (HSL.out 3)) (shC_one _) w.heap.size (by omega) ?_); exact rfl; exact rfl; intro w9 hg9 hb9 hk9 hz9))
      exact bodyPost_ret (results_blk1 blkShr rfl _ _ (w.heap.size + 2) _ rfl hg9 (shC_size (HSL.out 3))) rfl ⟨rfl, hK.old.trans hb9⟩
end Go.Proofs.Ytgloelhpnhofgaa
