import Derived.Test.YtjohjiknngagiaaK9
namespace Go.Proofs.Ytjohjiknngagiaa
open Go.RowKit
set_option maxRecDepth 4000
theorem callStab1 : ∀ (args : Array Value) (w : World), (callFunc 63 args).run Try.prog w = .ok (.enter 63 args) w := fun _ _ => rfl
set_option maxHeartbeats 400000 in
theorem stab1_any (s n g : Nat) (hs : s < 256) (hn : n ≤ 8) (w : World) (hc : w.cell? ⟨g, 1, none⟩ = some (.int .i64 n)) :
    Calls Try.prog 63 #[.int .i64 s, .pointer (some ⟨g, 0, none⟩)] w fun e w' => e = .returned (.bool (stb n s)) ∧ w = w' := by
  go_enter Try.func63, Try.ntmps63
  go_wp2_with fail
  refine (isStable_any s n hs hn _).mono ?_
  rintro e w' ⟨rfl, rfl⟩
  go_wp2_with fail
  go_ret
  exact ⟨rfl, rfl⟩
def stabL (n : Nat) (l : List Nat) : List Nat := l.filter (stb n)
set_option maxHeartbeats 1600000 in
theorem stable_any (l : List Nat) (n k : Nat) (hn : n ≤ 8) (hl : ∀ s ∈ l, s < 256) (hlen : l.length ≤ 256) (a : Option Addr) (cap : Nat) (w : World) (h : RdS w w.heap.size a (toI l)) :
    Calls Try.prog 38 #[.agg #[.slice a (toI l).length cap, .int .i64 n, .int .i64 k]] w fun e w' => ∃ a' cap', e = .returned (.agg #[.slice a' (toI (stabL n l)).length cap', .int .i64 n, .int .i64 k]) ∧ RdS w' w'.heap.size a' (toI (stabL n l)) ∧ Below w.heap.size w w' := by
  obtain ⟨w1, hw1⟩ : ∃ w1, w1 = (w.alloc (.cells #[.slice a (toI l).length cap, .int .i64 n, .int .i64 k] 48)).alloc (.cells #[.slice none 0 0, .int .i64 0, .int .i64 0] 48) := ⟨_, rfl⟩
  have hb1 : Below w.heap.size w w1 := by rw [hw1]; exact balloc (balloc (Below.refl w.heap.size w) _) _
  have hz1 : w1.heap.size = w.heap.size + 2 := by rw [hw1]; simp
  have g1 : w1.heap[w.heap.size]? = some (.cells #[.slice a (toI l).length cap, .int .i64 n, .int .i64 k] 48 (0, 0)) := by rw [hw1]; exact heap_alloc2_old _ _ _
  have g2 : w1.heap[w.heap.size + 1]? = some (.cells #[.slice none 0 0, .int .i64 0, .int .i64 0] 48 (0, 0)) := by rw [hw1]; exact heap_alloc2_new _ _ _
  have c0 : w1.cell? ⟨w.heap.size, 0, none⟩ = some (.slice a (toI l).length cap) := blk_cell g1 0 _ rfl
  have c1 : w1.cell? ⟨w.heap.size, 1, none⟩ = some (.int .i64 n) := blk_cell g1 1 _ rfl
  have c2 : w1.cell? ⟨w.heap.size, 2, none⟩ = some (.int .i64 k) := blk_cell g1 2 _ rfl
  have HW := Lib.hid hw1
  have HR1 := Lib.hid (rds_later h hb1)
  have hf : (toI l).filter (fun x => stb n x.toNat) = toI (stabL n l) := filt_map l _ _ (fun s _ => rfl)
  have HWR := Lib.hid (whrIC_any (toI l) (fun x => stb n x.toNat) 63 (.pointer (some ⟨w.heap.size, 0, none⟩)) callStab1 a cap w.heap.size w1 HR1.out (by omega) (by rw [toI_len]; omega) (fun j hj w'' hb'' => by
    rw [toI_at]
    refine (stab1_any _ n w.heap.size (mem_getD hl j (by rw [← toI_len]; exact hj)) hn w'' ((hb''.cell (p := ⟨w.heap.size, 1, none⟩) (by show w.heap.size < w1.heap.size; omega)).trans c1)).mono ?_
    rintro e w3 ⟨rfl, rfl⟩
    exact ⟨ret_bool (by simp), Below.refl _ _⟩))
  rw [hf] at HWR
  have HK1 := Lib.hid g1
  have HK2 := Lib.hid g2
  have fr := hp_froz g1 0
  clear hw1 h g1 g2 hf
  generalize toI (stabL n l) = ys at *
  go_enter Try.func38, Try.ntmps38
  go_wp2_with fail
  rw [← HW.out]
  go_wp2_with fail
  refine HWR.out.mono ?_
  rintro e w3 ⟨v, rfl, ho, hb3⟩
  obtain ⟨va, vc, -, rfl, -, hrd⟩ := oi_shape ho
  have j1 := hp_keep HK1.out hb3 (by omega)
  have j2 := hp_keep HK2.out hb3 (by omega)
  have z3 := hb3.size
  have k0 : w3.cell? ⟨w.heap.size, 0, none⟩ = some (.slice a (toI l).length cap) := blk_cell j1 0 _ rfl
  have fr3 := hp_froz j1 0
  obtain ⟨w4, hw4⟩ : ∃ w4, w4 = w3.setCell ⟨w.heap.size, 0, none⟩ (.slice va ys.length vc) := ⟨_, rfl⟩
  have l1 : w4.heap[w.heap.size]? = some (.cells #[.slice va ys.length vc, .int .i64 n, .int .i64 k] 48 (0, 0)) := by rw [hw4]; exact hp_put j1 _
  have l2 : w4.heap[w.heap.size + 1]? = some (.cells #[.slice none 0 0, .int .i64 0, .int .i64 0] 48 (0, 0)) := by rw [hw4]; exact hp_oth j2 (by omega) _
  have hB4 : Below w.heap.size w w4 := by rw [hw4]; exact (bnext hb1 hb3).setCell (Nat.le_refl _) _
  have HW4 := Lib.hid hw4
  have k1 : w3.cell? ⟨w.heap.size, 1, none⟩ = some (.int .i64 n) := blk_cell j1 1 _ rfl
  have k2 : w3.cell? ⟨w.heap.size, 2, none⟩ = some (.int .i64 k) := blk_cell j1 2 _ rfl
  have e0' : w3.cell? ⟨w.heap.size + 1, 0, none⟩ = some (.slice none 0 0) := blk_cell j2 0 _ rfl
  have e1' : w3.cell? ⟨w.heap.size + 1, 1, none⟩ = some (.int .i64 0) := blk_cell j2 1 _ rfl
  have e2' : w3.cell? ⟨w.heap.size + 1, 2, none⟩ = some (.int .i64 0) := blk_cell j2 2 _ rfl
  have f0' := hp_froz j2 0
  have f1' := hp_froz j2 1
  have f2' := hp_froz j2 2
  obtain ⟨wz, hwz⟩ : ∃ wz, wz = ((w4.setCell ⟨w.heap.size + 1, 0, none⟩ (.slice va ys.length vc)).setCell ⟨w.heap.size + 1, 1, none⟩ (.int .i64 n)).setCell ⟨w.heap.size + 1, 2, none⟩ (.int .i64 k) := ⟨_, rfl⟩
  have GZ : Hid (wz.heap[w.heap.size + 1]? = some (.cells #[.slice va ys.length vc, .int .i64 n, .int .i64 k] 48 (0, 0))) := Lib.hid (by
    rw [hwz]; exact hp_put (hp_put (hp_put l2 _) _) _)
  have HB : Hid (Below w.heap.size w wz) := Lib.hid (by
    rw [hwz]; exact ((hB4.setCell (by show w.heap.size ≤ w.heap.size + 1; omega) _).setCell (by show w.heap.size ≤ w.heap.size + 1; omega) _).setCell (by show w.heap.size ≤ w.heap.size + 1; omega) _)
  have HRZ : Hid (RdS wz wz.heap.size va ys) := Lib.hid (by
    rw [hwz, hw4]
    have := oi_set (k := 2) (oi_set (k := 1) (oi_set (k := 0) (oi_set (k := 0) ho (g := w.heap.size) (by omega) (.slice va ys.length vc)) (g := w.heap.size + 1) (by omega) (.slice va ys.length vc)) (g := w.heap.size + 1) (by omega) (.int .i64 n)) (g := w.heap.size + 1) (by omega) (.int .i64 k)
    refine rds_mono (oi_rds this) ?_
    simp only [hp_size]; exact Nat.le_refl _)
  have HZ := Lib.hid hwz
  clear j1 j2 ho hrd hb3 l1 l2 hw4 hwz hB4
  go_wp2_with fail
  rw [← HW4.out, ← HZ.out]
  exact bodyPost_ret (results_blk1 blkKG rfl _ _ (w.heap.size + 1) _ rfl GZ.out rfl) rfl ⟨_, _, rfl, HRZ.out, HB.out⟩
end Go.Proofs.Ytjohjiknngagiaa
