import Derived.Test.YtjohjiknngagiaaK15
namespace Go.Proofs.Ytjohjiknngagiaa
open Go.RowKit
set_option maxRecDepth 4000
/-- The first k sets with their colours. -/
def prV (l : List Nat) (cs : List Int) : Nat → List Value
  | 0 => []
  | k + 1 => prV l cs k ++ [.int .i64 (l.getD k 0 : Nat), .int .i64 (cs.getD k 0)]
theorem prV_len (l : List Nat) (cs : List Int) : ∀ k, (prV l cs k).length = k * 2
  | 0 => rfl
  | k + 1 => by simp [prV, prV_len l cs k]; omega
theorem prV_at (l : List Nat) (cs : List Int) : ∀ k j, j < k → (prV l cs k)[j * 2]? = some (.int .i64 (l.getD j 0 : Nat)) ∧ (prV l cs k)[j * 2 + 1]? = some (.int .i64 (cs.getD j 0))
  | 0, j, h => by omega
  | k + 1, j, h => by
    have hl := prV_len l cs k
    by_cases hj : j < k
    · obtain ⟨h1, h2⟩ := prV_at l cs k j hj
      simp only [prV]
      rw [List.getElem?_append_left (by omega), List.getElem?_append_left (by omega)]
      exact ⟨h1, h2⟩
    · obtain rfl : j = k := by omega
      simp only [prV]
      rw [List.getElem?_append_right (by omega), List.getElem?_append_right (by omega), hl]
      rw [show j * 2 - j * 2 = 0 by omega, show j * 2 + 1 - j * 2 = 1 by omega]
      exact ⟨rfl, rfl⟩
/-- Sets with their colours that can be read. -/
def RdP (w : World) (B : Nat) (a : Option Addr) (l : List Nat) (cs : List Int) (m : Nat) : Prop :=
  ∃ b, ∀ j, j < m → a = some ⟨b, 0, none⟩ ∧ b < B ∧ w.cell? ⟨b, j * 2, none⟩ = some (.int .i64 (l.getD j 0 : Nat)) ∧ w.cell? ⟨b, j * 2 + 1, none⟩ = some (.int .i64 (cs.getD j 0))
theorem rdp_bel {w w' : World} {B m : Nat} {a : Option Addr} {l : List Nat} {cs : List Int} (h : RdP w B a l cs m) (hb : Below B w w') : RdP w' B a l cs m := by
  obtain ⟨b, h⟩ := h
  refine ⟨b, fun j hj => ?_⟩
  obtain ⟨h1, h2, h3, h4⟩ := h j hj
  exact ⟨h1, h2, (hb.cell (p := ⟨b, j * 2, none⟩) h2).trans h3, (hb.cell (p := ⟨b, j * 2 + 1, none⟩) h2).trans h4⟩
theorem rdp_mono {w : World} {B B' m : Nat} {a : Option Addr} {l : List Nat} {cs : List Int} (h : RdP w B a l cs m) (hB : B ≤ B') : RdP w B' a l cs m := by
  obtain ⟨b, h⟩ := h
  refine ⟨b, fun j hj => ?_⟩
  obtain ⟨h1, h2, h3⟩ := h j hj
  exact ⟨h1, by omega, h3⟩
theorem own_rdp {w : World} {base m : Nat} {v : Value} {l : List Nat} {cs : List Int} (h : w.ownsRow base 80 2 v m (prV l cs m)) : ∃ a cap, v = .slice a m cap ∧ RdP w w.heap.size a l cs m ∧ m ≤ maxLen := by
  obtain ⟨h1, h2⟩ := id h
  rcases h2 with ⟨rfl, h0⟩ | ⟨g, cap, cur, rfl, hg, hh, hc, hm, hs, ht⟩
  · subst h0
    exact ⟨none, 0, rfl, ⟨0, fun j hj => by omega⟩, by simp [maxLen]⟩
  · refine ⟨_, cap, rfl, ⟨g, fun j hj => ?_⟩, Nat.le_trans hc hm⟩
    obtain ⟨p1, p2⟩ := prV_at l cs m j hj
    rw [← ht, List.getElem?_take, if_pos (by omega), Array.getElem?_toList] at p1
    rw [← ht, List.getElem?_take, if_pos (by omega), Array.getElem?_toList] at p2
    exact ⟨rfl, hp_lt hh, (cell_of_row w g _ cur _ (0, 0) hh).trans p1, (cell_of_row w g _ cur _ (0, 0) hh).trans p2⟩
set_option maxHeartbeats 800000 in
theorem withCol_no (l : List Nat) (n : Nat) (hn : n ≠ l.length) (a a' : Option Addr) (cap cap' : Nat) (N K : Int) (w : World) :
    Calls Try.prog 45 #[.agg #[.slice a l.length cap, .int .i64 N, .int .i64 K], .slice a' n cap'] w fun e w' => e = .returned (.tuple #[.agg #[.slice none 0 0], .bool false]) ∧ Below w.heap.size w w' := by
  have hb := balloc (balloc (Below.refl w.heap.size w) (.cells #[.slice a l.length cap, .int .i64 N, .int .i64 K] 48)) (.cells #[.slice none 0 0] 66)
  have hne : ((n : Int) != (l.length : Int)) = true := by simp; omega
  have g0 := heap_alloc2_old w (.cells #[.slice a l.length cap, .int .i64 N, .int .i64 K] 48) (.cells #[.slice none 0 0] 66)
  have g1 := heap_alloc2_new w (.cells #[.slice a l.length cap, .int .i64 N, .int .i64 K] 48) (.cells #[.slice none 0 0] 66)
  obtain ⟨w1, hw1⟩ : ∃ w1, w1 = (w.alloc (.cells #[.slice a l.length cap, .int .i64 N, .int .i64 K] 48)).alloc (.cells #[.slice none 0 0] 66) := ⟨_, rfl⟩
  rw [← hw1] at hb g0 g1
  have c0 : w1.cell? ⟨w.heap.size, 0, none⟩ = some (.slice a l.length cap) := blk_cell g0 0 _ rfl
  have e0 : w1.cell? ⟨w.heap.size + 1, 0, none⟩ = some (.slice none 0 0) := blk_cell g1 0 _ rfl
  have f0 := hp_froz g1 0
  have GZ := Lib.hid g1
  have HB := Lib.hid hb
  have HW := Lib.hid hw1
  clear hn g0 g1 hb hw1
  go_enter Try.func45, Try.ntmps45
  go_wp2_with fail
  rw [← HW.out]
  go_wp2_with fail
  exact bodyPost_ret (results_blk blkCol rfl _ _ (w.heap.size + 1) _ _ rfl rfl GZ.out rfl) rfl ⟨rfl, HB.out⟩
set_option maxHeartbeats 3200000 in
theorem withCol_yes (l : List Nat) (cs : List Int) (hcl : cs.length = l.length) (hlen : l.length ≤ 256) (a a' : Option Addr) (cap cap' : Nat) (N K : Int) (w : World) (h : RdS w w.heap.size a (toI l)) (h' : RdS w w.heap.size a' cs) :
    Calls Try.prog 45 #[.agg #[.slice a l.length cap, .int .i64 N, .int .i64 K], .slice a' l.length cap'] w fun e w' => ∃ v, e = .returned (.tuple #[.agg #[v], .bool true]) ∧ w'.ownsRow w.heap.size 80 2 v l.length (prV l cs l.length) ∧ Below w.heap.size w w' := by
  obtain ⟨b, off, ⟨hm, hc⟩, hbB⟩ := h
  obtain ⟨b', off', ⟨hm', hc'⟩, hbB'⟩ := h'
  have hlt' := toI_len l
  have HC : Hid (∀ j, j < l.length → a = some ⟨b, off, none⟩ ∧ b < w.heap.size ∧ w.cell? ⟨b, off + j, none⟩ = some (.int .i64 (l.getD j 0 : Nat))) := Lib.hid (fun j hj => by
    have := hc j (by omega)
    rw [toI_at] at this; exact ⟨this.1, by omega, this.2⟩)
  have HD : Hid (∀ j, j < l.length → a' = some ⟨b', off', none⟩ ∧ b' < w.heap.size ∧ w.cell? ⟨b', off' + j, none⟩ = some (.int .i64 (cs.getD j 0))) := Lib.hid (fun j hj => ⟨(hc' j (by omega)).1, by omega, (hc' j (by omega)).2⟩)
  have hb := balloc (balloc (balloc (Below.refl w.heap.size w) (.cells #[.slice a l.length cap, .int .i64 N, .int .i64 K] 48)) (.cells #[.slice none 0 0] 66)) (.cells #[.slice none 0 0] 66)
  obtain ⟨w0, hw0⟩ : ∃ w0, w0 = (w.alloc (.cells #[.slice a l.length cap, .int .i64 N, .int .i64 K] 48)).alloc (.cells #[.slice none 0 0] 66) := ⟨_, rfl⟩
  have hz0 : w0.heap.size = w.heap.size + 2 := by rw [hw0]; simp
  have k0 := heap_alloc2_old w (.cells #[.slice a l.length cap, .int .i64 N, .int .i64 K] 48) (.cells #[.slice none 0 0] 66)
  have k1 := heap_alloc2_new w (.cells #[.slice a l.length cap, .int .i64 N, .int .i64 K] 48) (.cells #[.slice none 0 0] 66)
  rw [← hw0] at hb k0 k1
  obtain ⟨w1, hw1⟩ : ∃ w1, w1 = w0.alloc (.cells #[.slice none 0 0] 66) := ⟨_, rfl⟩
  have hz1 : w1.heap.size = w.heap.size + 3 := by rw [hw1]; simp; omega
  have g2 : w1.heap[w.heap.size + 2]? = some (.cells #[.slice none 0 0] 66 (0, 0)) := by
    rw [hw1, ← hz0]; exact heap_alloc_new _ _
  have g1 : w1.heap[w.heap.size + 1]? = some (.cells #[.slice none 0 0] 66 (0, 0)) := by
    rw [hw1]; exact hp_keep k1 (balloc (Below.refl _ _) _) (by omega)
  have g0 : w1.heap[w.heap.size]? = some (.cells #[.slice a l.length cap, .int .i64 N, .int .i64 K] 48 (0, 0)) := by
    rw [hw1]; exact hp_keep k0 (balloc (Below.refl _ _) _) (by omega)
  rw [← hw1] at hb
  have d0 : w0.cell? ⟨w.heap.size, 0, none⟩ = some (.slice a l.length cap) := blk_cell k0 0 _ rfl
  have c0 : w1.cell? ⟨w.heap.size, 0, none⟩ = some (.slice a l.length cap) := blk_cell g0 0 _ rfl
  have hne : ((l.length : Int) != (l.length : Int)) = false := by simp
  have HW0 := Lib.hid hw0
  have HW1 := Lib.hid hw1
  clear hc hc' hm hm' hbB hbB' hlt' k0 k1 hw0 hw1 hcl g0
  go_enter Try.func45, Try.ntmps45
  go_wp2_with fail
  rw [← HW0.out]
  go_wp2_with fail
  rw [← HW1.out]
  go_wp2_with fail
  go_loopw [19] (fun v19 wr => ∃ i : Nat, i ≤ l.length ∧ v19 = .int .i64 i ∧ ∃ v, wr.ownsRow (w.heap.size + 3) 80 2 v i (prV l cs i) ∧ wr.heap[w.heap.size + 2]? = some (.cells #[v] 66 (0, 0)) ∧ wr.heap[w.heap.size + 1]? = some (.cells #[.slice none 0 0] 66 (0, 0)) ∧ Below w.heap.size w wr ∧ w.heap.size + 3 ≤ wr.heap.size) (fun v19 _ => l.length - (intOf v19).toNat)
  case atStart => exact ⟨0, Nat.zero_le _, rfl, _, World.ownsRow_nil _ _ _ _, g2, g1, hb, by omega⟩
  case round =>
    clear g2 g1 hb hz1 c0 d0 hz0
    obtain ⟨i, hi, rfl, v, ho, g2, g1, hb, hz⟩ := hrel
    obtain ⟨wq, rfl⟩ : ∃ wq : World, wq = wr := ⟨_, rfl⟩
    by_cases hlt : i < l.length
    · have hii : (i : Int) < (l.length : Int) := by omega
      obtain ⟨ha, hbl, c⟩ := HC.out i hlt
      obtain ⟨ha', hbl', d⟩ := HD.out i hlt
      subst ha ha'
      have c1 : wq.cell? ⟨b, off + i, none⟩ = some (.int .i64 (l.getD i 0 : Nat)) := (hb.cell hbl).trans c
      have d1 : wq.cell? ⟨b', off' + i, none⟩ = some (.int .i64 (cs.getD i 0)) := (hb.cell hbl').trans d
      have HP : Hid (prV l cs (i + 1) = prV l cs i ++ [.int .i64 (l.getD i 0 : Nat), .int .i64 (cs.getD i 0)]) := Lib.hid rfl
      obtain ⟨va, vc, rfl, -, -⟩ := own_rdp ho
      have e2 : wq.cell? ⟨w.heap.size + 2, 0, none⟩ = some (.slice va i vc) := blk_cell g2 0 _ rfl
      have HO := Lib.hid ho
      have HG2 := Lib.hid g2
      have HG1 := Lib.hid g1
      have HB := Lib.hid hb
      clear c d ho g2 g1 hb
      generalize l.getD i 0 = x at *
      generalize cs.getD i 0 = y at *
      generalize prV l cs i = vs at *
      go_wp2_with fail
      have hz2 : w.heap.size + 2 ≤ wq.drew.heap.size := by have : wq.drew.heap.size = wq.heap.size := rfl; omega
      have hbd : ∀ B, Below B wq wq.drew := fun B => (Same.refl wq).drew B
      have e2d : wq.drew.cell? ⟨w.heap.size + 2, 0, none⟩ = some (.slice va i vc) := e2
      have hod : wq.drew.ownsRow (w.heap.size + 3) 80 2 (.slice va i vc) i vs := own_now HO.out (hbd _)
      refine wp_region_mt (fun w' => Below (w.heap.size + 2) wq w') (.take 0 (.take 2 (.take 3 (.take 4 (.take 5 (.take 6 (.take 7 (.fork 1 (.sole 8 (.sole 9 (.take 10 (.sole 11 .done)))) 8 (.sole 1 (.sole 9 (.take 10 (.sole 11 .done)))))))))))) (by kernel_rfl) (by kernel_rfl) (fun _ _ d _ _ h => by cases d <;> exact h) (by kernel_rfl) rfl (hbd _) ?_
      refine mt_take 0 _ ?_ rfl rfl (some 24) rfl (fun w' hw' => ?hv0) ?_
      case hv0 =>
        go_simp
        with_reducible rfl
      simp only [Act.put, List.setIfInBounds_toArray, List.set_cons_zero, List.set_cons_succ]
      refine mt_take 2 _ ?_ rfl rfl (some 26) rfl (fun w' hw' => ?hv2) ?_
      case hv2 =>
        go_simp
        with_reducible rfl
      simp only [Act.put, List.setIfInBounds_toArray, List.set_cons_zero, List.set_cons_succ]
      refine mt_take 3 _ ?_ rfl rfl (some 27) rfl (fun w' hw' => ?hv3) ?_
      case hv3 =>
        go_simp
        with_reducible rfl
      simp only [Act.put, List.setIfInBounds_toArray, List.set_cons_zero, List.set_cons_succ]
      refine mt_take 4 _ ?_ rfl rfl (some 28) rfl (fun w' hw' => ?hv4) ?_
      case hv4 =>
        go_simp
        with_reducible rfl
      simp only [Act.put, List.setIfInBounds_toArray, List.set_cons_zero, List.set_cons_succ]
      refine mt_take 5 _ ?_ rfl rfl (some 29) rfl (fun w' hw' => ?hv5) ?_
      case hv5 =>
        go_simp
        with_reducible rfl
      simp only [Act.put, List.setIfInBounds_toArray, List.set_cons_zero, List.set_cons_succ]
      refine mt_take 6 _ ?_ rfl rfl (some 30) rfl (fun w' hw' => ?hv6) ?_
      case hv6 =>
        have s0 := ((hw' : Below (w.heap.size + 2) wq w').cell (p := ⟨b', off' + i, none⟩) (by show b' < w.heap.size + 2; omega)).trans d1
        go_simp
        with_reducible rfl
      simp only [Act.put, List.setIfInBounds_toArray, List.set_cons_zero, List.set_cons_succ]
      refine mt_take 7 _ ?_ rfl rfl (some 31) rfl (fun w' hw' => ?hv7) ?_
      case hv7 =>
        go_simp
        with_reducible rfl
      simp only [Act.put, List.setIfInBounds_toArray, List.set_cons_zero, List.set_cons_succ]
      refine mt_fork ?_ ?_
      · skip
        refine mt_read 1 _ (.slice va i vc) rfl rfl (some 25) rfl ?hr ⟨hbd _, ?_⟩
        case hr =>
          go_simp
        simp only [Act.put, List.setIfInBounds_toArray, List.set_cons_zero, List.set_cons_succ]
        refine mt_build_cs 8 _ rfl rfl _ rfl (some 32) rfl x y rfl ⟨(hbd _).trans (balloc2 _ _ _ hz2), ?_⟩
        simp only [Act.put, List.setIfInBounds_toArray, List.set_cons_zero, List.set_cons_succ]
        refine mt_append_cs 9 _ rfl (w.heap.size + 3) wq.heap.size i wq.drew (.slice va i vc) vs x y rfl _ _ rfl (some 33) rfl rfl rfl rfl hod hz (by omega) (fun v' w3 ho3 hb3 => ?_)
        rw [← HP.out] at ho3
        obtain ⟨pa, pc, rfl, -, -⟩ := own_rdp ho3
        have hB3 : Below (w.heap.size + 2) wq w3 := ((hbd _).trans hb3).mono (by omega)
        refine ⟨hB3, ?_⟩
        simp only [Act.put, List.setIfInBounds_toArray, List.set_cons_zero, List.set_cons_succ]
        refine mt_take 10 _ ?_ rfl rfl (some 34) rfl (fun w' hw' => ?hv10) ?_
        case hv10 =>
          go_simp
          with_reducible rfl
        simp only [Act.put, List.setIfInBounds_toArray, List.set_cons_zero, List.set_cons_succ]
        have G2 := hp_keep HG2.out ((hbd _).trans hb3) (by omega)
        have G1 := hp_keep HG1.out ((hbd _).trans hb3) (by omega)
        have z3 := hb3.size
        refine mt_put_slice 11 _ rfl rfl _ _ _ rfl none rfl szSer (w.heap.size + 2) 0 pa (i + 1) pc rfl rfl _ _ G2 (by simp) ⟨hB3.setCell (Nat.le_refl _) _, ?_⟩
        simp only [Act.put]
        refine mt_done ?_
        have HX := Lib.hid (hp_own (g := w.heap.size + 2) (k := 0) ho3 (by omega) (.slice pa (i + 1) pc))
        have HY : Hid ((w3.setCell ⟨w.heap.size + 2, 0, none⟩ (.slice pa (i + 1) pc)).heap[w.heap.size + 2]? = some (.cells #[.slice pa (i + 1) pc] 66 (0, 0))) := Lib.hid (hp_put (k := 0) G2 (.slice pa (i + 1) pc))
        have HZ := Lib.hid (hp_oth (k := 0) G1 (show w.heap.size + 1 ≠ w.heap.size + 2 by omega) (.slice pa (i + 1) pc))
        have HBB := Lib.hid ((HB.out.trans (hB3.mono (by omega))).setCell (p := ⟨w.heap.size + 2, 0, none⟩) (by show w.heap.size ≤ w.heap.size + 2; omega) (.slice pa (i + 1) pc))
        have hzz : w.heap.size + 3 ≤ (w3.setCell ⟨w.heap.size + 2, 0, none⟩ (.slice pa (i + 1) pc)).heap.size := by rw [hp_size]; have : wq.drew.heap.size = wq.heap.size := rfl; omega
        clear ho3 G2 G1 hb3 hB3
        generalize w3.setCell ⟨w.heap.size + 2, 0, none⟩ (.slice pa (i + 1) pc) = w4 at *
        go_wp2_with fail
        go_roundw
        case rel => exact ⟨i + 1, by omega, by go_num, _, HX.out, HY.out, HZ.out, HBB.out, hzz⟩
        case measure => simp [intOf]; omega
      · skip
        refine mt_build_cs 8 _ rfl rfl _ rfl (some 32) rfl x y rfl ⟨(hbd _).trans (balloc2 _ _ _ hz2), ?_⟩
        simp only [Act.put, List.setIfInBounds_toArray, List.set_cons_zero, List.set_cons_succ]
        have e2a : (wq.alloc (.cells #[.int .i64 x, .int .i64 y] 80)).cell? ⟨w.heap.size + 1 + 1, 0, none⟩ = some (.slice va i vc) := ((balloc2 (w.heap.size + 3) wq _ hz).cell (p := ⟨w.heap.size + 2, 0, none⟩) (by show w.heap.size + 2 < w.heap.size + 3; omega)).trans e2
        refine mt_read 1 _ (.slice va i vc) rfl rfl (some 25) rfl ?hr ⟨(hbd _).trans (balloc2 _ _ _ hz2), ?_⟩
        case hr =>
          go_simp
        simp only [Act.put, List.setIfInBounds_toArray, List.set_cons_zero, List.set_cons_succ]
        refine mt_append_cs 9 _ rfl (w.heap.size + 3) wq.heap.size i wq.drew (.slice va i vc) vs x y rfl _ _ rfl (some 33) rfl rfl rfl rfl hod hz (by omega) (fun v' w3 ho3 hb3 => ?_)
        rw [← HP.out] at ho3
        obtain ⟨pa, pc, rfl, -, -⟩ := own_rdp ho3
        have hB3 : Below (w.heap.size + 2) wq w3 := ((hbd _).trans hb3).mono (by omega)
        refine ⟨hB3, ?_⟩
        simp only [Act.put, List.setIfInBounds_toArray, List.set_cons_zero, List.set_cons_succ]
        refine mt_take 10 _ ?_ rfl rfl (some 34) rfl (fun w' hw' => ?hv10) ?_
        case hv10 =>
          go_simp
          with_reducible rfl
        simp only [Act.put, List.setIfInBounds_toArray, List.set_cons_zero, List.set_cons_succ]
        have G2 := hp_keep HG2.out ((hbd _).trans hb3) (by omega)
        have G1 := hp_keep HG1.out ((hbd _).trans hb3) (by omega)
        have z3 := hb3.size
        refine mt_put_slice 11 _ rfl rfl _ _ _ rfl none rfl szSer (w.heap.size + 2) 0 pa (i + 1) pc rfl rfl _ _ G2 (by simp) ⟨hB3.setCell (Nat.le_refl _) _, ?_⟩
        simp only [Act.put]
        refine mt_done ?_
        have HX := Lib.hid (hp_own (g := w.heap.size + 2) (k := 0) ho3 (by omega) (.slice pa (i + 1) pc))
        have HY : Hid ((w3.setCell ⟨w.heap.size + 2, 0, none⟩ (.slice pa (i + 1) pc)).heap[w.heap.size + 2]? = some (.cells #[.slice pa (i + 1) pc] 66 (0, 0))) := Lib.hid (hp_put (k := 0) G2 (.slice pa (i + 1) pc))
        have HZ := Lib.hid (hp_oth (k := 0) G1 (show w.heap.size + 1 ≠ w.heap.size + 2 by omega) (.slice pa (i + 1) pc))
        have HBB := Lib.hid ((HB.out.trans (hB3.mono (by omega))).setCell (p := ⟨w.heap.size + 2, 0, none⟩) (by show w.heap.size ≤ w.heap.size + 2; omega) (.slice pa (i + 1) pc))
        have hzz : w.heap.size + 3 ≤ (w3.setCell ⟨w.heap.size + 2, 0, none⟩ (.slice pa (i + 1) pc)).heap.size := by rw [hp_size]; have : wq.drew.heap.size = wq.heap.size := rfl; omega
        clear ho3 G2 G1 hb3 hB3
        generalize w3.setCell ⟨w.heap.size + 2, 0, none⟩ (.slice pa (i + 1) pc) = w4 at *
        go_wp2_with fail
        go_roundw
        case rel => exact ⟨i + 1, by omega, by go_num, _, HX.out, HY.out, HZ.out, HBB.out, hzz⟩
        case measure => simp [intOf]; omega
    · have hk2 : i = l.length := by omega
      subst hk2
      obtain ⟨va, vc, rfl, -, -⟩ := own_rdp ho
      have e2 : wq.cell? ⟨w.heap.size + 2, 0, none⟩ = some (.slice va l.length vc) := blk_cell g2 0 _ rfl
      have e1 : wq.cell? ⟨w.heap.size + 1, 0, none⟩ = some (.slice none 0 0) := blk_cell g1 0 _ rfl
      have f1 := hp_froz g1 0
      obtain ⟨wz, hwz⟩ : ∃ wz, wz = wq.setCell ⟨w.heap.size + 1, 0, none⟩ (.slice va l.length vc) := ⟨_, rfl⟩
      have GZ : Hid (wz.heap[w.heap.size + 1]? = some (.cells #[.slice va l.length vc] 66 (0, 0))) := Lib.hid (by rw [hwz]; exact hp_put g1 _)
      have HO : Hid (wz.ownsRow w.heap.size 80 2 (.slice va l.length vc) l.length (prV l cs l.length)) := Lib.hid (by rw [hwz]; exact own_base (hp_own ho (by omega) _) (by omega))
      have HB : Hid (Below w.heap.size w wz) := Lib.hid (by rw [hwz]; exact hb.setCell (by show w.heap.size ≤ w.heap.size + 1; omega) _)
      have HZ := Lib.hid hwz
      clear g1 g2 ho hb hwz
      go_wp2_with fail
      rw [← HZ.out]
      exact bodyPost_ret (results_blk blkCol rfl _ _ (w.heap.size + 1) _ _ rfl rfl GZ.out rfl) rfl ⟨_, rfl, HO.out, HB.out⟩
end Go.Proofs.Ytjohjiknngagiaa
