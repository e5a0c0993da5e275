import Derived.Test.YtjbdhgomcchoaaaRo
import Derived.Test.YtjbdhgomcchoaaaQm
namespace Go.Proofs.Ytjbdhgomcchoaaa
open Go.RowKit
theorem ite_guard {c : Prop} [Decidable c] {a b : Prop} (h : if c then a else b) : if c then a else b := h
theorem Rd.later {w w' : World} {a : Option Addr} {b off len : Nat} {xs : List Int} (h : Rd w a b off xs) (hn : xs.length = len) (hb0 : len = 0 ∨ b < w.heap.size) (hb : Below w.heap.size w w') : Rd w' a b off xs :=
  ⟨h.1, fun j hj => ⟨(h.2 j hj).1, by
    rcases hb0 with h' | h'
    · rw [hn, h'] at hj; exact absurd hj (Nat.not_lt_zero _)
    · exact (hb.cell h').trans (h.2 j hj).2⟩⟩
theorem lt_later {w w' : World} {b len : Nat} (hb0 : len = 0 ∨ b < w.heap.size) (hb : Below w.heap.size w w') : len = 0 ∨ b < w'.heap.size := hb0.imp_right fun h => Nat.lt_of_lt_of_le h hb.size
set_option maxHeartbeats 1600000 in
theorem roomsOf_yes (n : Nat) (xs : List Int) (a : Option Addr) (b len cap : Nat) (w : World) (hn : xs.length = len) (hsm : len ≤ 1048576) (h : Rd w a b 0 xs) (hb0 : len = 0 ∨ b < w.heap.size) (hL : labB n xs = true) :
    Calls Try.prog 61 #[.int .i64 n, .slice a len cap] w fun e w' => ∃ r, e = .returned (.tuple #[.agg r, .bool true]) ∧ RoomsV w' w.heap.size n xs r ∧ Below w.heap.size w w' := by
  obtain ⟨h1, h2, hl, -⟩ := labB_yes hL
  have hcn := (Pr.cnt_le n (by omega)).1
  have hB0 := balloc (Below.refl w.heap.size w) (.cells zeroR 66)
  have hlab := labelledOf_any n xs a b len cap (w.alloc (.cells zeroR 66)) hn hsm (h.later hn hb0 hB0) (lt_later hb0 hB0)
  rw [hL] at hlab
  simp only [if_true, Int.toNat_natCast] at hlab
  have hsz := labL_size n xs (by omega)
  have hone := labL_one n xs
  have hat : (labL n xs).toArray[0]? = some (.int .i64 n) := by simp [labL]
  have hmf : ∀ (fn : Fn) (first cap : Array Value) (w : World), (Instr.makeFunc fn first cap).run Try.prog w = .ok (.func fn first cap) w := fun _ _ _ _ => rfl
  have HL := Lib.hid hlab
  clear hL hl hn h hb0 hlab
  generalize hcs : (labL n xs).toArray = cs at hsz hone hat HL
  have HCS := Lib.hid hcs
  clear hcs
  obtain ⟨g4, hg4⟩ : ∃ g, g = w.heap.size := ⟨_, rfl⟩
  go_enter Try.func61, Try.ntmps61
  go_wp2_with (with_reducible refine alloc_rm rfl rfl ?_)
  refine HL.out.mono ?_
  rintro e w1 ⟨rfl, hb1⟩
  have hr1 : Hid (w1.heap[w.heap.size]? = some (.cells zeroR 66 (0, 0))) := Lib.hid ((hb1.block _ (by simp)).trans (heap_alloc_new _ _))
  have hB1 := bnext hB0 hb1
  have hlt1 : w.heap.size < w1.heap.size := by have := hb1.size; simp at this; omega
  clear hb1 hB0
  go_wp2_with (first | (with_reducible refine alloc_lab rfl rfl ?_; have hg2 : Hid ((w1.alloc (.cells zeroA 63)).heap[w1.heap.size]? = some (.cells zeroA 63 (0, 0))) := Lib.hid (heap_alloc_new _ _)) | ((with_reducible refine store_lab rfl _ _ rfl w1.heap.size cs zeroA ?_ ?_ hg2.out zeroA_size hsz hone w1.heap.size (Nat.le_refl _) ?_); exact rfl; exact rfl; intro w3 hg3 hb3))
  have hB3 : Below w1.heap.size w1 w3 := (balloc (Below.refl w1.heap.size w1) (.cells zeroA 63)).trans hb3
  have hr3 : w3.heap[w.heap.size]? = some (.cells zeroR 66 (0, 0)) := (hB3.block _ hlt1).trans hr1.out
  have hm3 : w3.cell? ⟨w1.heap.size, 0, none⟩ = some (.int .i64 n) := by rw [cell_of_row _ _ _ _ _ (0, 0) hg3]; exact hat
  have hlt3 : w1.heap.size < w3.heap.size := by have := hb3.size; simp at this; omega
  have hlt4 : w.heap.size < w3.heap.size := by omega
  have hBW := bnext hB1 hB3
  clear hb3 hg2 hr1 hB1
  refine wp_region_mix (fun w' => w'.heap[w1.heap.size]? = some (.cells cs 63 (0, 0))) [3, 6] [0, 1, 2, 4, 3, 5, 6, 7] (by kernel_rfl) (by kernel_rfl) (fun _ _ d _ _ h => by cases d <;> exact h) (by kernel_rfl) rfl hg3 ?_
  refine mix_take 0 _ (.agg cs) rfl rfl rfl (some 19) rfl (fun w' hw' => exec_row _ _ rfl w1.heap.size rfl cs (run_loadVar_row w' _ _ _ cs (0, 0) _ hw' Try.underlying63 rfl (by rw [labSize, hsz]))) ?_
  simp only [Act.put, List.setIfInBounds_toArray, List.set_cons_zero, List.set_cons_succ]
  refine mix_take 1 _ ?_ rfl rfl rfl (some 20) rfl (fun w' hw' => ?hv1) ?_
  case hv1 => (go_simp; with_reducible rfl)
  simp only [Act.put, List.setIfInBounds_toArray, List.set_cons_zero, List.set_cons_succ]
  refine mix_take 2 _ ?_ rfl rfl rfl (some 21) rfl (fun w' hw' => ?hv2) ?_
  case hv2 =>
    have q2 : w'.cell? ⟨w1.heap.size, 0, none⟩ = some (.int .i64 n) := by rw [cell_of_row _ _ _ _ _ (0, 0) hw']; exact hat
    go_simp
    with_reducible rfl
  simp only [Act.put, List.setIfInBounds_toArray, List.set_cons_zero, List.set_cons_succ]
  refine mix_take 4 _ ?_ rfl rfl rfl (some 23) rfl (fun w' hw' => ?hv4) ?_
  case hv4 => (go_simp; with_reducible rfl)
  simp only [Act.put, List.setIfInBounds_toArray, List.set_cons_zero, List.set_cons_succ]
  refine mix_call 3 _ rfl rfl rfl 49 #[.agg #[.int .i64 n]] (some 22) rfl ?hr3 ?_
  case hr3 => go_simp
  refine (cells_any n h1 h2 _).mono ?_
  rintro e w5 ⟨v, rfl, hc5, hb5⟩
  obtain ⟨-, ca, cc, cb, rfl, -⟩ := trio_shape hc5
  refine ⟨_, rfl, ?_, ?_⟩
  · exact (hb5.block w1.heap.size hlt3).trans hg3
  simp only [Act.put, List.setIfInBounds_toArray, List.set_cons_zero, List.set_cons_succ]
  refine mix_take 5 _ (.agg (rmA cs (.slice ca (ci n).length cc) (doorF w1.heap.size))) rfl rfl rfl (some 24) rfl (fun w' hw' => exec_build_rm _ _ _ rfl cs hsz _ _ _ _ _ _ rfl rfl rfl) ?_
  simp only [Act.put, List.setIfInBounds_toArray, List.set_cons_zero, List.set_cons_succ]
  have q0 := (hb5.block w.heap.size hlt4).trans hr3
  have q1 := (hb5.block w1.heap.size hlt3).trans hg3
  refine mix_store_rm 6 _ rfl rfl rfl _ _ rfl none rfl w.heap.size _ zeroR rfl rfl q0 zeroR_size (rmA_size _ _ _ hsz) (rmA_one _ _ _ hone rfl rfl) w.heap.size (Nat.le_refl _) ?_
  intro w6 hg6 hb6 hk6 hs6
  refine ⟨(hk6 _ (by omega)).trans q1, ?_⟩
  simp only [Act.put]
  refine mix_take 7 _ ?_ rfl rfl rfl (some 5) rfl (fun w' hw' => ?hv7) ?_
  case hv7 => (go_simp; with_reducible rfl)
  simp only [Act.put, List.setIfInBounds_toArray, List.set_cons_zero, List.set_cons_succ]
  refine mix_done ?_
  have hc5' : TrioV w5 w3.heap.size (.slice ca (ci n).length cc) (ci n) := hc5
  have hb5' : Below w3.heap.size w3 w5 := (Below.drew (Below.refl _ _)).trans hb5
  have hz5 := hb5'.size
  have hT6 : TrioV w6 w.heap.size (.slice ca (ci n).length cc) (ci n) := by
    refine own_keep (World.ownsRow.mono hc5' (by omega)) (fun k hk => hk6 k ?_)
    have := (hc5'.lt k hk).1
    omega
  have hRV : RoomsV w6 w.heap.size n xs (rmA cs (.slice ca (ci n).length cc) (doorF w1.heap.size)) := by
    refine ⟨w1.heap.size, ca, cc, ?_, hT6, ?_, by omega, ?_⟩
    · rw [HCS.out]
    · rw [HCS.out]; exact (hk6 _ (by omega)).trans q1
    · omega
  have hB6 : Below w.heap.size w w6 := (bnext hBW hb5').trans hb6
  clear hc5 hc5' hb5 hb5' q0 q1 hr3 hg3 hm3 hT6
  go_wp2_with fail
  exact bodyPost_ret (results_rm rfl _ _ w.heap.size _ _ rfl rfl hg6 (rmA_size _ _ _ hsz)) rfl ⟨_, rfl, hRV, hB6⟩
end Go.Proofs.Ytjbdhgomcchoaaa
