import Derived.Test.YtcahecohjmahaaaDoorYc
import Derived.Test.YtcahecohjmahaaaDoorYg
import Derived.Test.YtcahecohjmahaaaDoorYh
import Derived.Test.YtcahecohjmahaaaDoorMb
namespace Go.Proofs.YtcahecohjmahaaaDoor
open Go.RowKit
set_option maxRecDepth 4000
/-- Rooms as the program keeps them: the cells, the pairs along the border, and the function that is asked for doors. -/
def RmsV (w : World) (base : Nat) (cs : List (List Int)) (ps : List (Int × Int)) (fv : Value) (r : Array Value) : Prop :=
  ∃ ca cc ba bc, r = #[.slice ca cs.length cc, .slice ba ps.length bc, fv] ∧ TrioV w base (.slice ca cs.length cc) cs ∧ PairV w base (.slice ba ps.length bc) ps
theorem rms_now {w w' : World} {base : Nat} {cs : List (List Int)} {ps : List (Int × Int)} {fv : Value} {r : Array Value} (h : RmsV w base cs ps fv r) (hb : Below w.heap.size w w') : RmsV w' base cs ps fv r := by
  obtain ⟨ca, cc, ba, bc, h1, h2, h3⟩ := h
  exact ⟨ca, cc, ba, bc, h1, trio_now h2 hb, pairs_now h3 hb⟩
theorem asks_later {F : FuncId} {first caps : Array Value} {d : Int × Int → Bool} {w w' : World} {ps : List (Int × Int)} (h : Asks F first caps d w ps) (hb : Below w.heap.size w w') : Asks F first caps d w' ps :=
  fun W hW k hk => h W (hb.trans (hW.mono hb.size)) k hk
set_option maxHeartbeats 1600000 in
theorem borderDoors_any (F : FuncId) (first caps : Array Value) (d : Int × Int → Bool) (base : Nat) (cs : List (List Int)) (ps : List (Int × Int)) (r : Array Value) (w : World) (hcf : ∀ (args : Array Value) (w : World), (callFunc F args).run Tryd.prog w = .ok (.enter F args) w)
    (hf : Asks F first caps d w ps) (hr : RmsV w base cs ps (.func (.func F) first caps) r) (hlen : ps.length ≤ 100000) :
    Calls Tryd.prog 99 #[.agg r] w fun e w' => ∃ v, e = .returned v ∧ PairV w' w.heap.size v (ps.filter d) ∧ Below w.heap.size w w' := by
  obtain ⟨ca, cc, ba, bc, rfl, -, hp⟩ := hr
  obtain ⟨a', cap', b', hv, hrd⟩ := pair_shape hp
  simp only [Value.slice.injEq, true_and] at hv
  obtain ⟨rfl, rfl⟩ := hv
  have HF := Lib.hid hf
  have HR := Lib.hid hrd
  have HC := Lib.hid hcf
  have hb0 := balloc (Below.refl w.heap.size w) (.cells #[.slice ca cs.length cc, .slice ba ps.length bc, .func (.func F) first caps] 121)
  clear hf hrd hcf hp
  go_enter Tryd.func99, Tryd.ntmps99
  go_wp2_with fail
  refine (among_any F first caps d ps _ _ _ _ HC.out (asks_later HF.out hb0) (HR.out.later hb0) hlen).mono ?_
  rintro e w2 ⟨v, rfl, hp2, hb2⟩
  obtain ⟨sa, sc, sb, rfl, -⟩ := pair_shape hp2
  go_wp2_with fail
  go_ret
  exact ⟨_, rfl, own_lo hp2 hb0.size, bnext hb0 hb2⟩
theorem blkRms : Blk 121 3 := ⟨.inl ⟨_, Tryd.underlying121⟩, by kernel_rfl⟩
def rms0 : Array Value := #[.slice none 0 0, .slice none 0 0, .nilFunc]
theorem rms0_one : rms0.all (·.oneCell') = true := by decide +kernel
theorem run_alloc_rms (w : World) : (Instr.alloc 121 true (.tuple #[])).run Tryd.prog w = .ok (.pointer (some ⟨w.heap.size, 0, none⟩)) (w.alloc (.cells rms0 121)) := by kernel_rfl
/-- The function value: a door of a square with labels. -/
def doorV (n : Int) (a : Option Addr) (len cap : Nat) : Value := .func (.func 149) #[.agg (lqA n a len cap)] #[]
def sqPs (n : Nat) : List (Int × Int) := als (bol n (8 * n)) (bol n (8 * n)).length
set_option maxHeartbeats 1600000 in
theorem sqRooms_any (n : Nat) (a : Option Addr) (len cap : Nat) (h1 : 1 ≤ n) (h2 : n ≤ 4) (w : World) :
    Calls Tryd.prog 95 #[.agg (lqA n a len cap)] w fun e w' => ∃ r, e = .returned (.agg r) ∧ RmsV w' w.heap.size (sci n (sqn n)) (sqPs n) (doorV n a len cap) r ∧ Below w.heap.size w w' := by
  have hg1 : ((w.alloc (.cells (lqA n a len cap) 61)).alloc (.cells rms0 121)).heap[w.heap.size]? = some (.cells (lqA n a len cap) 61 (0, 0)) := (Below.heap_alloc _ _ _ (by simp)).trans (heap_alloc_new w _)
  have hr1 : ((w.alloc (.cells (lqA n a len cap) 61)).alloc (.cells rms0 121)).heap[w.heap.size + 1]? = some (.cells rms0 121 (0, 0)) := by
    have e := heap_alloc_new (w.alloc (.cells (lqA n a len cap) 61)) (.cells rms0 121)
    rwa [World.size_alloc] at e
  have hs1 : ((w.alloc (.cells (lqA n a len cap) 61)).alloc (.cells rms0 121)).heap.size = w.heap.size + 2 := by simp
  have hB1 := balloc (balloc (Below.refl w.heap.size w) (.cells (lqA n a len cap) 61)) (.cells rms0 121)
  have hbl := bol_len n (8 * n)
  have HPS : Hid (als (bol n (8 * n)) (bol n (8 * n)).length = sqPs n) := Lib.hid rfl
  go_enter Tryd.func95, Tryd.ntmps95
  go_wp2_with ((with_reducible refine alloc_blk rms0 run_alloc_rms rfl rfl ?_); (try simp only [World.size_alloc, Act.put, List.setIfInBounds_toArray, List.set_cons_zero, List.set_cons_succ]))
  generalize (w.alloc (.cells (lqA n a len cap) 61)).alloc (.cells rms0 121) = w1 at hg1 hr1 hs1 hB1 ⊢
  refine wp_region_mix (fun w' => w'.heap[w.heap.size]? = some (.cells (lqA n a len cap) 61 (0, 0))) [2, 5, 6, 10] [0, 1, 3, 4, 7, 8, 2, 5, 6, 9, 10] (by kernel_rfl) (by kernel_rfl) (fun _ _ d _ _ h => by cases d <;> exact h) (by kernel_rfl) rfl hg1 ?_
  refine mix_take 0 _ ?_ rfl rfl rfl (some 3) rfl (fun w' hw' => ?hv0) ?_
  case hv0 =>
    go_simp
    with_reducible rfl
  simp only [Act.put, List.setIfInBounds_toArray, List.set_cons_zero, List.set_cons_succ]
  refine mix_take 1 _ ?_ rfl rfl rfl (some 4) rfl (fun w' hw' => ?hv1) ?_
  case hv1 =>
    have q0 : w'.cell? ⟨w.heap.size, 0, none⟩ = some (.int .i64 n) := cell_of_row _ _ _ _ _ (0, 0) hw'
    go_simp
    with_reducible rfl
  simp only [Act.put, List.setIfInBounds_toArray, List.set_cons_zero, List.set_cons_succ]
  refine mix_take 3 _ ?_ rfl rfl rfl (some 6) rfl (fun w' hw' => ?hv3) ?_
  case hv3 =>
    go_simp
    with_reducible rfl
  simp only [Act.put, List.setIfInBounds_toArray, List.set_cons_zero, List.set_cons_succ]
  refine mix_take 4 _ ?_ rfl rfl rfl (some 7) rfl (fun w' hw' => ?hv4) ?_
  case hv4 =>
    have q0 : w'.cell? ⟨w.heap.size, 0, none⟩ = some (.int .i64 n) := cell_of_row _ _ _ _ _ (0, 0) hw'
    go_simp
    with_reducible rfl
  simp only [Act.put, List.setIfInBounds_toArray, List.set_cons_zero, List.set_cons_succ]
  refine mix_take 7 _ (.agg (lqA n a len cap)) rfl rfl rfl (some 10) rfl (fun w' hw' => exec_row _ _ rfl w.heap.size rfl (lqA n a len cap) (run_loadVar_row w' _ _ _ (lqA n a len cap) (0, 0) _ hw' Tryd.underlying61 rfl (by rw [blkSq.size, lq_size]))) ?_
  simp only [Act.put, List.setIfInBounds_toArray, List.set_cons_zero, List.set_cons_succ]
  refine mix_take 8 _ ?_ rfl rfl rfl (some 11) rfl (fun w' hw' => ?hv8) ?_
  case hv8 =>
    go_simp
    with_reducible rfl
  simp only [Act.put, List.setIfInBounds_toArray, List.set_cons_zero, List.set_cons_succ]
  refine mix_call 2 _ rfl rfl rfl 101 #[.agg #[.int .i64 n]] (some 5) rfl ?hr2 ?_
  case hr2 => go_simp
  refine (sqCells_any n h1 h2 _).mono ?_
  rintro e w3 ⟨v, rfl, hc3, hb3⟩
  obtain ⟨-, ca, cc, cb, rfl, -⟩ := trio_shape hc3
  have hb3' : Below w1.heap.size w1 w3 := (Below.drew (Below.refl _ _)).trans hb3
  have hc3' : TrioV w3 w1.heap.size _ _ := hc3
  have hg3 := (hb3'.block w.heap.size (by omega)).trans hg1
  have hr3 := (hb3'.block (w.heap.size + 1) (by omega)).trans hr1
  have hz3 := hb3'.size
  clear hc3 hb3
  refine ⟨_, rfl, hg3, ?_⟩
  simp only [Act.put, List.setIfInBounds_toArray, List.set_cons_zero, List.set_cons_succ]
  refine mix_call 5 _ rfl rfl rfl 135 #[.agg #[.int .i64 n]] (some 8) rfl ?hr5 ?_
  case hr5 => go_simp
  refine (sqBorder_any n h1 h2 _).mono ?_
  rintro e w4 ⟨v, rfl, ho4, hb4⟩
  obtain ⟨-, ba, bc, bb, rfl, hx4, hr4⟩ := own_shape ho4
  have hxx : ba = none ∨ bb < w4.heap.size := hx4.imp_right fun h => own_lt ho4 bb (by rw [h]; rfl)
  have hc4 := trio_now hc3' hb4
  have hg4 := (hb4.block w.heap.size (by omega)).trans hg3
  have hr4' := (hb4.block (w.heap.size + 1) (by omega)).trans hr3
  have hB4 := hb3'.trans (hb4.mono hz3)
  have hz4 := hB4.size
  clear hc3' hb3' hb4 hg3 hr3 ho4
  refine ⟨_, rfl, hg4, ?_⟩
  simp only [Act.put, List.setIfInBounds_toArray, List.set_cons_zero, List.set_cons_succ]
  refine mix_call 6 _ rfl rfl rfl 148 #[.slice ba (bol n (8 * n)).length bc] (some 9) rfl ?hr6 ?_
  case hr6 => go_simp
  refine (pairsAlong_any (bol n (8 * n)) ba bb _ bc _ rfl hr4 hxx (by omega)).mono ?_
  rintro e w5 ⟨v, rfl, hp5, hb5⟩
  rw [HPS.out] at hp5
  obtain ⟨pa, pc, pb, rfl, -⟩ := pair_shape hp5
  have hc5 := trio_now hc4 hb5
  have hg5 := (hb5.block w.heap.size (by omega)).trans hg4
  have hr5 := (hb5.block (w.heap.size + 1) (by omega)).trans hr4'
  have hB5 := hB4.trans (hb5.mono hz4)
  have hp5' := own_lo hp5 (show w1.heap.size ≤ w4.heap.size by omega)
  clear hc4 hb5 hg4 hr4' hB4 hp5 hr4 hxx
  refine ⟨_, rfl, hg5, ?_⟩
  simp only [Act.put, List.setIfInBounds_toArray, List.set_cons_zero, List.set_cons_succ]
  refine mix_take 9 _ ?_ rfl rfl rfl (some 12) rfl (fun w' hw' => ?hv9) ?_
  case hv9 =>
    go_simp
    with_reducible rfl
  simp only [Act.put, List.setIfInBounds_toArray, List.set_cons_zero, List.set_cons_succ]
  refine mix_store_blk blkRms 10 _ rfl rfl rfl _ _ rfl none rfl (w.heap.size + 1) _ rms0 rfl rfl hr5 rfl rfl (by simp [Value.oneCell']) (w.heap.size + 1) (Nat.le_refl _) ?_
  intro w6 hg6 hb6 hk6 hs6
  refine ⟨(hk6 _ (by omega)).trans hg5, ?_⟩
  refine mix_done ?_
  have hT := own_keep hc5 (fun k hk => hk6 k (by have := (hc5.lt k hk).1; omega))
  have hP := own_keep hp5' (fun k hk => hk6 k (by have := (hp5'.lt k hk).1; omega))
  have hB6 := (hB1.trans (hB5.mono (by omega))).trans (hb6.mono (Nat.le_succ _))
  simp only [Act.put]
  go_wp2_with fail
  exact bodyPost_ret (results_blk1 blkRms rfl _ _ (w.heap.size + 1) _ rfl hg6 rfl) rfl ⟨_, rfl, ⟨_, _, _, _, rfl, own_lo hT (by omega), own_lo hP (by omega)⟩, hB6⟩
end Go.Proofs.YtcahecohjmahaaaDoor
