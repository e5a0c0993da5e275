import Derived.Test.YtjohjiknngagiaaK7
namespace Go.Proofs.Ytjohjiknngagiaa
open Go.RowKit
set_option maxRecDepth 4000
/-- A list of sets as numbers. -/
def toI (l : List Nat) : List Int := l.map (fun (j : Nat) => (j : Int))
theorem toI_len (l : List Nat) : (toI l).length = l.length := by simp [toI]
theorem toI_at (l : List Nat) (j : Nat) : (toI l).getD j 0 = ((l.getD j 0 : Nat) : Int) := by
  simp only [toI, List.getD_eq_getElem?_getD, List.getElem?_map]
  cases l[j]? <;> rfl
theorem mem_getD {l : List Nat} {P : Nat → Prop} (h : ∀ s ∈ l, P s) (j : Nat) (hj : j < l.length) : P (l.getD j 0) := by
  rw [List.getD_eq_getElem?_getD, List.getElem?_eq_getElem hj]
  exact h _ (List.getElem_mem hj)
theorem rds_bel {w w' : World} {B : Nat} {a : Option Addr} {xs : List Int} (h : RdS w B a xs) (hb : Below B w w') : RdS w' B a xs := by
  obtain ⟨b, off, h, hB⟩ := h
  refine ⟨b, off, ⟨h.1, fun j hj => ⟨(h.2 j hj).1, ?_⟩⟩, hB⟩
  rcases hB with h0 | hB
  · omega
  · exact (hb.cell hB).trans (h.2 j hj).2
theorem oi_set {w : World} {lo hi g k : Nat} {v : Value} {xs : List Int} (h : OI w lo hi v xs) (hg : g < lo) (u : Value) : OI (w.setCell ⟨g, k, none⟩ u) lo hi v xs := by
  obtain ⟨et, h1, h2⟩ := h
  exact ⟨et, hp_own h1 hg u, h2⟩
theorem callMeet1 : ∀ (args : Array Value) (w : World), (callFunc 72 args).run Try.prog w = .ok (.enter 72 args) w := fun _ _ => rfl
set_option maxHeartbeats 400000 in
theorem meet1_any (s : Nat) (hs : s < 256) (w : World) :
    Calls Try.prog 72 #[.int .i64 s] w fun e w' => e = .returned (.bool (s.testBit 0)) ∧ w = w' := by
  go_enter Try.func72, Try.ntmps72
  go_wp2_with fail
  refine (hasB_any s 0 hs (by omega) _).mono ?_
  rintro e w' ⟨rfl, rfl⟩
  go_wp2_with fail
  go_ret
  exact ⟨ret_bool (by simp), rfl⟩
def meetL (n k : Nat) (l : List Nat) : List Nat := if n < 2 * k then l else l.filter (fun s => s.testBit 0)
set_option maxHeartbeats 1600000 in
theorem meeting_any (l : List Nat) (n k : Nat) (hn : n ≤ 8) (hk : k ≤ 8) (hl : ∀ s ∈ l, s < 256) (hlen : l.length ≤ 256) (a : Option Addr) (cap : Nat) (w : World) (h : RdS w w.heap.size a (toI l)) :
    Calls Try.prog 52 #[.agg #[.slice a (toI l).length cap, .int .i64 n, .int .i64 k]] w fun e w' => ∃ a' cap', e = .returned (.agg #[.slice a' (toI (meetL n k l)).length cap', .int .i64 n, .int .i64 k]) ∧ RdS w' w'.heap.size a' (toI (meetL n k l)) ∧ Below w.heap.size w w' := by
  obtain ⟨w1, hw1⟩ : ∃ w1, w1 = (w.alloc (.cells #[.slice a (toI l).length cap, .int .i64 n, .int .i64 k] 48)).alloc (.cells #[.slice none 0 0, .int .i64 0, .int .i64 0] 48) := ⟨_, rfl⟩
  have hb1 : Below w.heap.size w w1 := by rw [hw1]; exact balloc (balloc (Below.refl w.heap.size w) _) _
  have hz1 : w1.heap.size = w.heap.size + 2 := by rw [hw1]; simp
  have g1 : w1.heap[w.heap.size]? = some (.cells #[.slice a (toI l).length cap, .int .i64 n, .int .i64 k] 48 (0, 0)) := by rw [hw1]; exact heap_alloc2_old _ _ _
  have g2 : w1.heap[w.heap.size + 1]? = some (.cells #[.slice none 0 0, .int .i64 0, .int .i64 0] 48 (0, 0)) := by rw [hw1]; exact heap_alloc2_new _ _ _
  have c0 : w1.cell? ⟨w.heap.size, 0, none⟩ = some (.slice a (toI l).length cap) := blk_cell g1 0 _ rfl
  have c1 : w1.cell? ⟨w.heap.size, 1, none⟩ = some (.int .i64 n) := blk_cell g1 1 _ rfl
  have c2 : w1.cell? ⟨w.heap.size, 2, none⟩ = some (.int .i64 k) := blk_cell g1 2 _ rfl
  have HA := Lib.hid (allMeet_any a (toI l).length cap n k hn hk w1)
  have HW := Lib.hid hw1
  have HR := Lib.hid h
  have HR1 := Lib.hid (rds_later h hb1)
  have HG := Lib.hid g1
  have HH := Lib.hid g2
  by_cases hnk : n < 2 * k
  · have ha : allM n k = true := by simp [allM, hnk]
    have hm : meetL n k l = l := if_pos hnk
    rw [ha] at HA
    rw [hm]
    clear hw1 h g1 g2 ha hm
    go_enter Try.func52, Try.ntmps52
    go_wp2_with fail
    rw [← HW.out]
    go_wp2_with fail
    refine HA.out.mono ?_
    rintro e w2 ⟨rfl, hb2⟩
    have k1 := hp_keep HG.out hb2 (by omega)
    have k2 := hp_keep HH.out hb2 (by omega)
    have d0 : w2.cell? ⟨w.heap.size, 0, none⟩ = some (.slice a (toI l).length cap) := blk_cell k1 0 _ rfl
    have d1 : w2.cell? ⟨w.heap.size, 1, none⟩ = some (.int .i64 n) := blk_cell k1 1 _ rfl
    have d2 : w2.cell? ⟨w.heap.size, 2, none⟩ = some (.int .i64 k) := blk_cell k1 2 _ rfl
    have e0 : w2.cell? ⟨w.heap.size + 1, 0, none⟩ = some (.slice none 0 0) := blk_cell k2 0 _ rfl
    have e1 : w2.cell? ⟨w.heap.size + 1, 1, none⟩ = some (.int .i64 0) := blk_cell k2 1 _ rfl
    have e2 : w2.cell? ⟨w.heap.size + 1, 2, none⟩ = some (.int .i64 0) := blk_cell k2 2 _ rfl
    have f0 := hp_froz k2 0
    have f1 := hp_froz k2 1
    have f2 := hp_froz k2 2
    obtain ⟨wz, hwz⟩ : ∃ wz, wz = ((w2.setCell ⟨w.heap.size + 1, 0, none⟩ (.slice a (toI l).length cap)).setCell ⟨w.heap.size + 1, 1, none⟩ (.int .i64 n)).setCell ⟨w.heap.size + 1, 2, none⟩ (.int .i64 k) := ⟨_, rfl⟩
    have GZ : Hid (wz.heap[w.heap.size + 1]? = some (.cells #[.slice a (toI l).length cap, .int .i64 n, .int .i64 k] 48 (0, 0))) := Lib.hid (by
      rw [hwz]; exact hp_put (hp_put (hp_put k2 _) _) _)
    have HB : Hid (Below w.heap.size w wz) := Lib.hid (by
      have := bnext hb1 hb2
      rw [hwz]; exact ((this.setCell (by show w.heap.size ≤ w.heap.size + 1; omega) _).setCell (by show w.heap.size ≤ w.heap.size + 1; omega) _).setCell (by show w.heap.size ≤ w.heap.size + 1; omega) _)
    have HZ := Lib.hid hwz
    clear k1 k2 hwz
    go_wp2_with fail
    rw [← HZ.out]
    exact bodyPost_ret (results_blk1 blkKG rfl _ _ (w.heap.size + 1) _ rfl GZ.out rfl) rfl ⟨_, _, rfl, rds_mono (rds_bel HR.out HB.out) HB.out.size, HB.out⟩
  · have ha : allM n k = false := by simp [allM]; omega
    have hm : meetL n k l = l.filter (fun s => s.testBit 0) := if_neg hnk
    have hf : (toI l).filter (fun x => x.toNat.testBit 0) = toI (l.filter (fun s => s.testBit 0)) := filt_map l _ _ (fun s _ => rfl)
    have HWR := Lib.hid (fun w' (hb : Below w1.heap.size w1 w') => whrI0_any (toI l) (fun x => x.toNat.testBit 0) 72 callMeet1 a cap w.heap.size w' (rds_chg HR1.out (chg_below hb) (by omega) (.inr rfl)) (by have := hb.size; omega) (by rw [toI_len]; omega) (fun j hj w'' _ => by
      rw [toI_at]
      refine (meet1_any _ (mem_getD hl j (by rw [← toI_len]; exact hj)) w'').mono ?_
      rintro e w3 ⟨rfl, rfl⟩
      exact ⟨ret_bool (by simp), Below.refl _ _⟩))
    rw [hf] at HWR
    rw [ha] at HA
    rw [hm]
    clear hw1 h g1 g2 ha hm hf
    generalize toI (l.filter (fun s => s.testBit 0)) = ys at *
    go_enter Try.func52, Try.ntmps52
    go_wp2_with fail
    rw [← HW.out]
    go_wp2_with fail
    refine HA.out.mono ?_
    rintro e w2 ⟨rfl, hb2⟩
    have k1 := hp_keep HG.out hb2 (by omega)
    have k2 := hp_keep HH.out hb2 (by omega)
    have d0 : w2.cell? ⟨w.heap.size, 0, none⟩ = some (.slice a (toI l).length cap) := blk_cell k1 0 _ rfl
    have d1 : w2.cell? ⟨w.heap.size, 1, none⟩ = some (.int .i64 n) := blk_cell k1 1 _ rfl
    have d2 : w2.cell? ⟨w.heap.size, 2, none⟩ = some (.int .i64 k) := blk_cell k1 2 _ rfl
    have fr := hp_froz k1 0
    have e0 : w2.cell? ⟨w.heap.size + 1, 0, none⟩ = some (.slice none 0 0) := blk_cell k2 0 _ rfl
    have e1 : w2.cell? ⟨w.heap.size + 1, 1, none⟩ = some (.int .i64 0) := blk_cell k2 1 _ rfl
    have e2 : w2.cell? ⟨w.heap.size + 1, 2, none⟩ = some (.int .i64 0) := blk_cell k2 2 _ rfl
    have z2 := hb2.size
    have HK1 := Lib.hid k1
    have HK2 := Lib.hid k2
    have f0 := hp_froz k2 0
    have f1 := hp_froz k2 1
    have f2 := hp_froz k2 2
    clear k1 k2
    go_wp2_with fail
    refine (HWR.out _ hb2).mono ?_
    rintro e w3 ⟨v, rfl, ho, hb3⟩
    obtain ⟨va, vc, -, rfl, -, hrd⟩ := oi_shape ho
    have j1 := hp_keep HK1.out hb3 (by omega)
    have j2 := hp_keep HK2.out hb3 (by omega)
    have z3 := hb3.size
    have k0 : w3.cell? ⟨w.heap.size, 0, none⟩ = some (.slice a (toI l).length cap) := blk_cell j1 0 _ rfl
    have fr3 := hp_froz j1 0
    obtain ⟨w4, hw4⟩ : ∃ w4, w4 = w3.setCell ⟨w.heap.size, 0, none⟩ (.slice va ys.length vc) := ⟨_, rfl⟩
    have l1 : w4.heap[w.heap.size]? = some (.cells #[.slice va ys.length vc, .int .i64 n, .int .i64 k] 48 (0, 0)) := by rw [hw4]; exact hp_put j1 _
    have l2 : w4.heap[w.heap.size + 1]? = some (.cells #[.slice none 0 0, .int .i64 0, .int .i64 0] 48 (0, 0)) := by rw [hw4]; exact hp_oth j2 (by omega) _
    have hb4 : Below w2.heap.size w2 w3 := hb3
    have hB4 : Below w.heap.size w w4 := by rw [hw4]; exact (bnext (bnext hb1 hb2) hb3).setCell (Nat.le_refl _) _
    have HW4 := Lib.hid hw4
    have k1 : w3.cell? ⟨w.heap.size, 1, none⟩ = some (.int .i64 n) := blk_cell j1 1 _ rfl
    have k2 : w3.cell? ⟨w.heap.size, 2, none⟩ = some (.int .i64 k) := blk_cell j1 2 _ rfl
    have e0' : w3.cell? ⟨w.heap.size + 1, 0, none⟩ = some (.slice none 0 0) := blk_cell j2 0 _ rfl
    have e1' : w3.cell? ⟨w.heap.size + 1, 1, none⟩ = some (.int .i64 0) := blk_cell j2 1 _ rfl
    have e2' : w3.cell? ⟨w.heap.size + 1, 2, none⟩ = some (.int .i64 0) := blk_cell j2 2 _ rfl
    have f0' := hp_froz j2 0
    have f1' := hp_froz j2 1
    have f2' := hp_froz j2 2
    obtain ⟨wz, hwz⟩ : ∃ wz, wz = ((w4.setCell ⟨w.heap.size + 1, 0, none⟩ (.slice va ys.length vc)).setCell ⟨w.heap.size + 1, 1, none⟩ (.int .i64 n)).setCell ⟨w.heap.size + 1, 2, none⟩ (.int .i64 k) := ⟨_, rfl⟩
    have GZ : Hid (wz.heap[w.heap.size + 1]? = some (.cells #[.slice va ys.length vc, .int .i64 n, .int .i64 k] 48 (0, 0))) := Lib.hid (by
      rw [hwz]; exact hp_put (hp_put (hp_put l2 _) _) _)
    have HB : Hid (Below w.heap.size w wz) := Lib.hid (by
      rw [hwz]; exact ((hB4.setCell (by show w.heap.size ≤ w.heap.size + 1; omega) _).setCell (by show w.heap.size ≤ w.heap.size + 1; omega) _).setCell (by show w.heap.size ≤ w.heap.size + 1; omega) _)
    have HRZ : Hid (RdS wz wz.heap.size va ys) := Lib.hid (by
      rw [hwz, hw4]
      have := oi_set (k := 2) (oi_set (k := 1) (oi_set (k := 0) (oi_set (k := 0) ho (g := w.heap.size) (by omega) (.slice va ys.length vc)) (g := w.heap.size + 1) (by omega) (.slice va ys.length vc)) (g := w.heap.size + 1) (by omega) (.int .i64 n)) (g := w.heap.size + 1) (by omega) (.int .i64 k)
      refine rds_mono (oi_rds this) ?_
      simp only [hp_size]; exact Nat.le_refl _)
    have HZ := Lib.hid hwz
    clear j1 j2 ho hrd hb2 hb3 hb4 l1 l2 hw4 hwz hB4
    go_wp2_with fail
    rw [← HW4.out, ← HZ.out]
    exact bodyPost_ret (results_blk1 blkKG rfl _ _ (w.heap.size + 1) _ rfl GZ.out rfl) rfl ⟨_, _, rfl, HRZ.out, HB.out⟩
end Go.Proofs.Ytjohjiknngagiaa
