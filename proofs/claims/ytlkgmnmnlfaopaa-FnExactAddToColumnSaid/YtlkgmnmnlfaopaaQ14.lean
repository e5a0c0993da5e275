import Derived.LoopN
import Derived.BigRegion
import Derived.BigQuiet
import Derived.RegionTactic
import Derived.Test.YtlkgmnmnlfaopaaQ13
import Derived.Test.YtlkgmnmnlfaopaaQ6
namespace Go.Proofs.Ytlkgmnmnlfaopaa
open Go.RowKit
set_option maxRecDepth 4000
/-- Rows as columns. -/
def trL (rs : List (List Int)) (m n : Nat) : List (List Int) := gridL n m (fun j i => (rs.getD i []).getD j 0)
theorem trL_ok {rs : List (List Int)} {m n : Nat} (h : GOk rs m n) : GOk (trL rs m n) n m := by
  refine ⟨gridL_len _ _ _, h.n1, h.n3, h.m1, h.m3, fun k hk => ?_, fun k hk j hj => ?_⟩
  · unfold trL; rw [gridL_at _ _ _ _ hk, rowL_len]
  · unfold trL; rw [gridL_at _ _ _ _ hk, rowL_at _ _ _ hj]; exact h.bd j hj k hk
set_option maxHeartbeats 800000 in
theorem turned1_any (rs : List (List Int)) (m n : Nat) (ok : GOk rs m n) (i j : Nat) (hi : i < n) (hj : j < m) (g : Nat) (ar : Option Addr) (cr B : Nat) (w : World) (hg : w.cell? ⟨g, 0, none⟩ = some (.slice ar rs.length cr)) (h : RdSS w B ar rs) :
    Calls Try.prog 117 #[.int .i64 i, .int .i64 j, .pointer (some ⟨g, 0, none⟩)] w fun e w' => e = .returned (.int .i64 ((rs.getD j []).getD i 0)) ∧ w = w' := by
  have hmr := ok.rows
  have hl := ok.len j hj
  obtain ⟨-, b, off, hx⟩ := h
  obtain ⟨rfl, -, ra, rc, k0, rb, ro, hr, -⟩ := hx j (by omega)
  obtain ⟨ha, c1⟩ := hr.2 i (by omega)
  subst ha
  have hji : (j : Int) < (rs.length : Int) := by omega
  have hli : (i : Int) < ((rs.getD j []).length : Int) := by omega
  clear hx hr hmr hl ok
  generalize rs.getD j [] = r at *
  generalize r.getD i 0 = x at *
  go_enter Try.func117, Try.ntmps117
  go_wp2_with fail
  go_ret
  exact ⟨rfl, rfl⟩
set_option maxHeartbeats 1600000 in
theorem transposed_any (rs : List (List Int)) (m n : Nat) (ok : GOk rs m n) (ar : Option Addr) (cr B : Nat) (w : World) (h : RdSS w B ar rs) (hB : B ≤ w.heap.size) :
    Calls Try.prog 102 #[.slice ar rs.length cr] w fun e w' => ∃ v, e = .returned v ∧ CellsV w' w.heap.size v (trL rs m n) ∧ Below w.heap.size w w' := by
  have hmr := ok.rows
  subst hmr
  have hm1 := ok.m1
  have hm3 := ok.m3
  have hn3 := ok.n3
  have hl0 := ok.len 0 (by omega)
  obtain ⟨w1, hw1⟩ : ∃ w1, w1 = (w.alloc (.cells #[.slice ar rs.length cr] 22)) := ⟨_, rfl⟩
  have hb1 : Below w.heap.size w w1 := by rw [hw1]; exact balloc (Below.refl w.heap.size w) _
  have g1 : w1.heap[w.heap.size]? = some (.cells #[.slice ar rs.length cr] 22 (0, 0)) := by rw [hw1]; exact heap_alloc_new w _
  have hz1 : w1.heap.size = w.heap.size + 1 := by rw [hw1]; simp
  have h1 := rdss_chg h (chg_below hb1) hB (.inr rfl)
  have c0 := blk_cell g1 0 _ rfl
  have hx := h1
  obtain ⟨-, b, off, hx⟩ := hx
  obtain ⟨hae, hbB, ra, rc, k0, -⟩ := hx 0 (by omega)
  rw [Nat.add_zero, hl0] at k0
  have HR := Lib.hid (rowsBy1_any n rs.length (by omega) (by omega) (fun j i => (rs.getD i []).getD j 0) 117 (.pointer (some ⟨w.heap.size, 0, none⟩)) (fun _ _ => rfl))
  have HT := Lib.hid (fun i j (hi : i < n) (hj : j < rs.length) w' (hb : Below w1.heap.size w1 w') => turned1_any rs rs.length n ok i j hi hj w.heap.size ar cr B w' (blk_cell (hp_later g1 hb) 0 _ rfl) (rdss_chg h1 (chg_below hb) (by omega) (.inr rfl)))
  have HAE := Lib.hid hae
  have HK := Lib.hid (fun w' (hb : Below w1.heap.size w1 w') => (hb.cell (p := ⟨b, off, none⟩) (by show b < _; omega)).trans k0)
  have HC := Lib.hid (fun w' (hb : Below w1.heap.size w1 w') => show w'.cell? ⟨w.heap.size, 0, none⟩ = some (.slice ar rs.length cr) from blk_cell (hp_later g1 hb) 0 _ rfl)
  have hmf : ∀ (fn : Fn) (first cap : Array Value) (w : World), (Instr.makeFunc fn first cap).run Try.prog w = .ok (.func fn first cap) w := fun _ _ _ _ => rfl
  have HW := Lib.hid hw1
  clear hw1 h h1 hx hae k0 c0 hl0
  have hri : (0 : Int) < (rs.length : Int) := by omega
  have hrn : 0 < rs.length := by omega
  go_enter Try.func102, Try.ntmps102
  go_wp2_with fail
  rw [← HW.out]
  refine wp_region_mix (fun w' => Below w1.heap.size w1 w') [7] [0, 1, 2, 3, 4, 5, 6, 7, 8] (by kernel_rfl) (by kernel_rfl) (fun _ _ d _ _ h => by cases d <;> exact h) (by kernel_rfl) rfl ((Same.refl w1).drew _) ?_
  refine mix_take 0 _ ?_ rfl rfl rfl (some 3) rfl (fun w' hw' => ?hv0) ?_
  case hv0 =>
    have s0 := HC.out w' hw'
    go_simp
    with_reducible rfl
  simp only [Act.put, List.setIfInBounds_toArray, List.set_cons_zero, List.set_cons_succ]
  rw [HAE.out]
  refine mix_take 1 _ ?_ rfl rfl rfl (some 4) rfl (fun w' hw' => ?hv1) ?_
  case hv1 =>
    go_simp
    with_reducible rfl
  simp only [Act.put, List.setIfInBounds_toArray, List.set_cons_zero, List.set_cons_succ]
  refine mix_take 2 _ ?_ rfl rfl rfl (some 5) rfl (fun w' hw' => ?hv2) ?_
  case hv2 =>
    have s0 := HK.out w' hw'
    go_simp
    with_reducible rfl
  simp only [Act.put, List.setIfInBounds_toArray, List.set_cons_zero, List.set_cons_succ]
  refine mix_take 3 _ ?_ rfl rfl rfl (some 6) rfl (fun w' hw' => ?hv3) ?_
  case hv3 =>
    go_simp
    with_reducible rfl
  simp only [Act.put, List.setIfInBounds_toArray, List.set_cons_zero, List.set_cons_succ]
  refine mix_take 4 _ ?_ rfl rfl rfl (some 7) rfl (fun w' hw' => ?hv4) ?_
  case hv4 =>
    have s0 := HC.out w' hw'
    go_simp
    with_reducible rfl
  simp only [Act.put, List.setIfInBounds_toArray, List.set_cons_zero, List.set_cons_succ]
  refine mix_take 5 _ ?_ rfl rfl rfl (some 8) rfl (fun w' hw' => ?hv5) ?_
  case hv5 =>
    go_simp
    with_reducible rfl
  simp only [Act.put, List.setIfInBounds_toArray, List.set_cons_zero, List.set_cons_succ]
  refine mix_take 6 _ ?_ rfl rfl rfl (some 9) rfl (fun w' hw' => ?hv6) ?_
  case hv6 =>
    go_simp
    with_reducible rfl
  simp only [Act.put, List.setIfInBounds_toArray, List.set_cons_zero, List.set_cons_succ]
  refine mix_call 7 _ rfl rfl rfl 107 #[.int .i64 n, .int .i64 rs.length, .func (.func 117) #[] #[.pointer (some ⟨w.heap.size, 0, none⟩)]] (some 10) rfl ?hr7 ?_
  case hr7 => go_simp
  have hbd : Below w1.heap.size w1 w1.drew := (Same.refl w1).drew _
  refine (HR.out _ (fun i j hi hj w' hb => (HT.out i j hi hj w' (hbd.trans (hb.mono hbd.size))).mono (by rintro e w'' ⟨rfl, rfl⟩; exact ⟨rfl, Below.refl _ _⟩))).mono ?_
  rintro e w2 ⟨v, rfl, hc, hb2⟩
  have hb2' : Below w1.heap.size w1 w2 := hbd.trans hb2
  refine ⟨_, rfl, hb2', ?_⟩
  simp only [Act.put, List.setIfInBounds_toArray, List.set_cons_zero, List.set_cons_succ]
  refine mix_take 8 _ ?_ rfl rfl rfl (some 2) rfl (fun w' hw' => ?hv8) ?_
  case hv8 =>
    go_simp
    with_reducible rfl
  simp only [Act.put, List.setIfInBounds_toArray, List.set_cons_zero, List.set_cons_succ]
  refine mix_done ?_
  go_wp2_with fail
  go_ret
  exact ⟨_, rfl, cells_base hc (by show w.heap.size ≤ w1.heap.size; omega), bnext hb1 hb2'⟩
end Go.Proofs.Ytlkgmnmnlfaopaa
