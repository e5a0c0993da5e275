import Derived.Test.YtjohjiknngagiaaK24
namespace Go.Proofs.Ytjohjiknngagiaa
open Go.RowKit
set_option maxRecDepth 4000

structure CGr (w : World) (v : Value) (gr : Array Value) (wr : World) : Prop where
  h0 : wr.heap[w.heap.size]? = some (.cells gr 48 (0, 0))
  h1 : wr.heap[w.heap.size + 1]? = some (.cells #[v] 66 (0, 0))
  h2 : wr.heap[w.heap.size + 2]? = some (.cells #[.slice none 0 0] 66 (0, 0))
  gk : w.grownBy wr v.ownBlock
  sz : w.heap.size + 3 ≤ wr.heap.size
theorem CFr.cg {w : World} {lo n : Nat} {XS : List Value} {v : Value} {gr : Array Value} {wr w' : World} {row : Option Nat} (h : CFr w lo n XS v gr wr) (hk : wr.grownBy w' row) (hv : ∀ k, v.ownBlock = some k → k < w.heap.size) (hrow : row = v.ownBlock ∨ ∃ k, row = some k ∧ w.heap.size + 3 ≤ k) : CGr w v gr w' := by
  have z := h.sz
  have hne : ∀ q, q < w.heap.size + 3 → some q ≠ v.ownBlock → some q ≠ row := fun q hq hqv e => by
    rcases hrow with h1 | ⟨k, h1, h2⟩
    · exact hqv (e.trans h1)
    · rw [h1] at e
      simp only [Option.some.injEq] at e
      omega
  have hbx : ∀ q, w.heap.size ≤ q → some q ≠ v.ownBlock := fun q hq e => by have := hv q e.symm; omega
  refine ⟨?_, ?_, ?_, ?_, Nat.le_trans z hk.size⟩
  · exact (hk.block _ (by omega) (hne _ (by omega) (hbx _ (by omega)))).trans h.g0
  · exact (hk.block _ (by omega) (hne _ (by omega) (hbx _ (by omega)))).trans h.g1
  · exact (hk.block _ (by omega) (hne _ (by omega) (hbx _ (by omega)))).trans h.g2
  · exact ⟨hk.os.trans h.gk.os, hk.tape.trans h.gk.tape, hk.output.trans h.gk.output, Nat.le_trans h.gk.size hk.size, fun q hq hq2 => (hk.block q (by omega) (hne q (by omega) hq2)).trans (h.gk.block q hq hq2)⟩
theorem CGr.below {w : World} {v : Value} {gr : Array Value} {wr w' : World} (h : CGr w v gr wr) (hb : Below wr.heap.size wr w') : CGr w v gr w' := by
  have z := h.sz
  exact ⟨hp_keep h.h0 hb (by omega), hp_keep h.h1 hb (by omega), hp_keep h.h2 hb (by omega), grw_trans h.gk (grw_below hb _), Nat.le_trans z hb.size⟩
theorem CGr.put {w : World} {v : Value} {gr : Array Value} {wr w' : World} {g : Nat} (h : CGr w v gr wr) (hg : w.heap.size + 3 ≤ g) (hs : w'.os = wr.os ∧ w'.tape = wr.tape ∧ w'.output = wr.output) (hz : w'.heap.size = wr.heap.size) (hk : ∀ k, k ≠ g → w'.heap[k]? = wr.heap[k]?) : CGr w v gr w' := by
  have z := h.sz
  refine ⟨(hk _ (by omega)).trans h.h0, (hk _ (by omega)).trans h.h1, (hk _ (by omega)).trans h.h2, ?_, by omega⟩
  exact ⟨hs.1.trans h.gk.os, hs.2.1.trans h.gk.tape, hs.2.2.trans h.gk.output, by rw [hz]; exact h.gk.size, fun q hq hne => (hk q (by have := h.gk.size; omega)).trans (h.gk.block q hq hne)⟩
theorem CGr.set2 {w : World} {v : Value} {gr : Array Value} {wr : World} (h : CGr w v gr wr) (u : Value) :
    (wr.setCell ⟨w.heap.size + 2, 0, none⟩ u).heap[w.heap.size + 2]? = some (.cells #[u] 66 (0, 0)) ∧ w.grownBy (wr.setCell ⟨w.heap.size + 2, 0, none⟩ u) v.ownBlock := by
  have z := h.sz
  refine ⟨hp_put h.h2 u, ?_⟩
  exact ⟨h.gk.os, h.gk.tape, h.gk.output, by rw [hp_size]; exact h.gk.size, fun q hq hne => (Below.heap_setCell _ _ _ q (by show q ≠ w.heap.size + 2; omega)).trans (h.gk.block q hq hne)⟩
theorem callClash : ∀ (args : Array Value) (w : World), (callFunc 76 args).run Try.prog w = .ok (.enter 76 args) w := fun _ _ => rfl
theorem szCol : (Try.prog.info? 66).map (·.size) = some 1 := by kernel_rfl
set_option maxHeartbeats 6400000 in
theorem completed_any (l : List Nat) (hls : ∀ s ∈ l, s < 256) (hlen : l.length ≤ 256) (count : Nat) (hcount : count ≤ 8) (N K : Int) (lo : Nat) (aS : Option Addr) (cS BS : Nat) (hBS : BS ≤ lo) : ∀ (f : Nat) (list : List Nat) (a : Option Addr) (cap : Nat) (w : World), list.length + f = l.length → RdS w BS aS (toI l) → lo ≤ w.heap.size → w.ownsRow lo 80 2 (.slice a list.length cap) list.length (prV l (toI list) list.length) →
    Calls Try.prog 60 #[.agg #[.slice aS l.length cS, .int .i64 N, .int .i64 K], .agg #[.slice a list.length cap], .int .i64 count] w (COut w lo l list (.slice a list.length cap) (impS (apS l) l.length count f list))
  | 0, list, a, cap, w, hf, hrd, hlo, hown => by
    have he : list.length = l.length := by omega
    rw [impS_full _ _ _ _ _ he]
    obtain ⟨wB, hwB⟩ : ∃ wB, wB = (w.alloc (.cells #[.slice aS l.length cS, .int .i64 N, .int .i64 K] 48)).alloc (.cells #[.slice a list.length cap] 66) := ⟨_, rfl⟩
    have hzB : wB.heap.size = w.heap.size + 2 := by rw [hwB]; simp
    have k0 := heap_alloc2_old w (.cells #[.slice aS l.length cS, .int .i64 N, .int .i64 K] 48) (.cells #[.slice a list.length cap] 66)
    have k1 := heap_alloc2_new w (.cells #[.slice aS l.length cS, .int .i64 N, .int .i64 K] 48) (.cells #[.slice a list.length cap] 66)
    rw [← hwB] at k0 k1
    obtain ⟨wz, hwz⟩ : ∃ wz, wz = wB.alloc (.cells #[.slice a list.length cap] 66) := ⟨_, rfl⟩
    have hbA : Below wB.heap.size wB wz := by rw [hwz]; exact balloc (Below.refl _ _) _
    have hb0 : Below w.heap.size w wB := by rw [hwB]; exact balloc (balloc (Below.refl w.heap.size w) _) _
    have hb1 : Below w.heap.size w wz := hb0.trans (hbA.mono (by omega))
    have g2 : wz.heap[w.heap.size + 2]? = some (.cells #[.slice a list.length cap] 66 (0, 0)) := by rw [hwz, ← hzB]; exact heap_alloc_new _ _
    have c0 : wB.cell? ⟨w.heap.size, 0, none⟩ = some (.slice aS l.length cS) := blk_cell k0 0 _ rfl
    have c1 : wB.cell? ⟨w.heap.size + 1, 0, none⟩ = some (.slice a list.length cap) := blk_cell k1 0 _ rfl
    have GZ := Lib.hid g2
    have HZO := Lib.hid (own_now hown hb1)
    have HZG := Lib.hid (grw_below hb1 (Value.slice a list.length cap).ownBlock)
    have HWB := Lib.hid hwB
    have HZ := Lib.hid hwz
    have heb : ((list.length : Int) == (l.length : Int)) = true := by simp [he]
    have hli : (list.length : Int) = (l.length : Int) := by omega
    clear hown hrd k0 k1 g2 hb0 hb1 hbA hwB hwz he hf hli
    go_enter Try.func60, Try.ntmps60
    go_wp2_with fail
    rw [← HWB.out]
    go_wp2_with fail
    rw [← HZ.out]
    exact bodyPost_ret (results_blk blkCol rfl _ _ (w.heap.size + 2) _ _ rfl rfl GZ.out rfl) rfl ⟨HZG.out, _, rfl, HZO.out⟩
  | f + 1, list, a, cap, w, hf, hrd, hlo, hown => by
    have hlt0 : list.length < l.length := by omega
    have hne0 : list.length ≠ l.length := by omega
    have hneb : ((list.length : Int) == (l.length : Int)) = false := by simp; omega
    have HIH := Lib.hid (fun list' a' cap' w' hf' hrd' hlo' hown' => completed_any l hls hlen count hcount N K lo aS cS BS hBS f list' a' cap' w' hf' hrd' hlo' hown')
    obtain ⟨w1, hw1⟩ : ∃ w1, w1 = ((w.alloc (.cells #[.slice aS l.length cS, .int .i64 N, .int .i64 K] 48)).alloc (.cells #[.slice a list.length cap] 66)).alloc (.cells #[.slice none 0 0] 66) := ⟨_, rfl⟩
    have hb1 : Below w.heap.size w w1 := by rw [hw1]; exact balloc (balloc (balloc (Below.refl w.heap.size w) _) _) _
    have hF1 : CFr w lo list.length (prV l (toI list) list.length) (.slice a list.length cap) #[.slice aS l.length cS, .int .i64 N, .int .i64 K] w1 := by
      have k0 := heap_alloc2_old w (.cells #[.slice aS l.length cS, .int .i64 N, .int .i64 K] 48) (.cells #[.slice a list.length cap] 66)
      have k1 := heap_alloc2_new w (.cells #[.slice aS l.length cS, .int .i64 N, .int .i64 K] 48) (.cells #[.slice a list.length cap] 66)
      have hz2 : ((w.alloc (.cells #[.slice aS l.length cS, .int .i64 N, .int .i64 K] 48)).alloc (.cells #[.slice a list.length cap] 66)).heap.size = w.heap.size + 2 := by simp
      refine ⟨own_now hown hb1, ?_, ?_, ?_, grw_below hb1 _, ?_⟩
      · rw [hw1]; exact hp_keep k0 (balloc (Below.refl _ _) _) (by omega)
      · rw [hw1]; exact hp_keep k1 (balloc (Below.refl _ _) _) (by omega)
      · rw [hw1, ← hz2]; exact heap_alloc_new _ _
      · rw [hw1]; simp
    obtain ⟨sb, so, ⟨hsm, hsc⟩, hsB⟩ := id hrd
    have hl2 := toI_len l
    have HOW := Lib.hid hown
    have HSC : Hid (∀ j, j < l.length → aS = some ⟨sb, so, none⟩ ∧ ∀ wr, CFr w lo list.length (prV l (toI list) list.length) (.slice a list.length cap) #[.slice aS l.length cS, .int .i64 N, .int .i64 K] wr → wr.cell? ⟨sb, so + j, none⟩ = some (.int .i64 (l.getD j 0 : Nat))) := Lib.hid (fun j hj => by
      have := hsc j (by omega)
      rw [toI_at] at this
      refine ⟨this.1, fun wr hc => ?_⟩
      have hne : (Value.slice a list.length cap).ownBlock ≠ some sb := fun e => by
        have := (hown.lt sb e).1
        omega
      exact (World.cell?_of_block (w := w) (a := ⟨sb, so + j, none⟩) (hc.gk.block sb (by omega) (fun e => hne e.symm))).trans this.2)
    have HRDW : Hid (∀ wr, CFr w lo list.length (prV l (toI list) list.length) (.slice a list.length cap) #[.slice aS l.length cS, .int .i64 N, .int .i64 K] wr → RdS wr BS aS (toI l)) := Lib.hid (fun wr hc => by
      refine ⟨sb, so, ⟨hsm, fun j hj => ⟨(hsc j hj).1, ?_⟩⟩, hsB⟩
      have hne : (Value.slice a list.length cap).ownBlock ≠ some sb := fun e => by
        have := (hown.lt sb e).1
        omega
      exact (World.cell?_of_block (w := w) (a := ⟨sb, so + j, none⟩) (hc.gk.block sb (by omega) (fun e => hne e.symm))).trans (hsc j hj).2)
    have HX := Lib.hid (fun j (hj : j < l.length) => mem_getD hls j hj)
    have HFL := Lib.hid hf
    have HHIT := Lib.hid (imp_hit (apS l) l.length count f list hne0)
    have HALL := Lib.hid (imp_all (apS l) l.length count f list hne0)
    have HGD : Hid (∀ y, GS (apS l) l.length count f list y = if fitB (apS l) list y then impS (apS l) l.length count f (list ++ [y]) else none) := Lib.hid (fun y => rfl)
    have HSN := Lib.hid (prV_snoc l list)
    have HLN : Hid (∀ x, (list ++ [x]).length = list.length + 1) := Lib.hid (fun x => by simp)
    have HANY := Lib.hid (anyB_fit l list)
    have HTA := Lib.hid (toI_at list)
    have HCF := Lib.hid (fun (x : Nat) (hx : l.getD list.length 0 < 256) a8 c8 w8 h8 => cntFP_any l (toI list) list.length (by omega) (fun j => decide (l.getD list.length 0 &&& l.getD j 0 = 0) && ((x : Int) == (toI list).getD j 0)) 76 (.agg #[.int .i64 (l.getD list.length 0 : Nat), .int .i64 (x : Nat)]) callClash a8 c8 w8.heap.size w8 h8 (Nat.le_refl _) (fun j hj w'' _ => clash_any (l.getD list.length 0) (l.getD j 0) x ((toI list).getD j 0) hx (mem_getD hls j (by omega)) w''))
    have HW := Lib.hid hw1
    have HF1 := Lib.hid hF1
    have e0 : w1.cell? ⟨w.heap.size, 0, none⟩ = some (.slice aS l.length cS) := blk_cell hF1.g0 0 _ rfl
    have e1 : w1.cell? ⟨w.heap.size + 1, 0, none⟩ = some (.slice a list.length cap) := blk_cell hF1.g1 0 _ rfl
    have hll : (list.length : Int) < (l.length : Int) := by omega
    clear hf hrd hown hw1 hb1 hF1 hsc hsm hsB hne0 hls
    go_enter Try.func60, Try.ntmps60
    go_wp2_with fail
    rw [← HW.out]
    go_wp2_with fail
    go_loopw [23] (fun v23 wr => ∃ x : Nat, x ≤ count ∧ v23 = .int .i64 x ∧ (∀ y, y < x → GS (apS l) l.length count f list y = none) ∧ CFr w lo list.length (prV l (toI list) list.length) (.slice a list.length cap) #[.slice aS l.length cS, .int .i64 N, .int .i64 K] wr) (fun v23 _ => count - (intOf v23).toNat)
    case atStart => exact ⟨0, Nat.zero_le _, rfl, fun _ h => by omega, HF1.out⟩
    case round =>
      clear e0 e1
      obtain ⟨x, hx, rfl, hG, hc⟩ := hrel
      obtain ⟨wq, rfl⟩ : ∃ wq : World, wq = wr := ⟨_, rfl⟩
      have HG := Lib.hid hG
      have HC := Lib.hid hc
      have hz := hc.sz
      have e0 : wq.cell? ⟨w.heap.size, 0, none⟩ = some (.slice aS l.length cS) := blk_cell hc.g0 0 _ rfl
      have e1 : wq.cell? ⟨w.heap.size + 1, 0, none⟩ = some (.slice a list.length cap) := blk_cell hc.g1 0 _ rfl
      clear hG
      by_cases hxc : x < count
      · have hxi : (x : Int) < (count : Int) := by omega
        obtain ⟨hsa, hs1⟩ := HSC.out list.length hlt0
        have d1 := hs1 wq hc
        have hq := HX.out list.length hlt0
        obtain ⟨w2, hw2⟩ : ∃ w2, w2 = wq.alloc (.cells #[.int .i64 (l.getD list.length 0 : Nat), .int .i64 (x : Nat)] 80) := ⟨_, rfl⟩
        have hb2 : Below wq.heap.size wq w2 := by rw [hw2]; exact balloc (Below.refl _ _) _
        have g10 : w2.heap[wq.heap.size]? = some (.cells #[.int .i64 (l.getD list.length 0 : Nat), .int .i64 (x : Nat)] 80 (0, 0)) := by rw [hw2]; exact heap_alloc_new _ _
        have hc2 := hc.below hb2
        have hl10 := hp_lt g10
        obtain ⟨a8, c8, hv8, hrp8, -⟩ := own_rdp hc2.own
        simp only [Value.slice.injEq] at hv8
        obtain ⟨rfl, -, rfl⟩ := hv8
        have HCC := Lib.hid (HCF.out x hq a cap w2 hrp8)
        have HG10 := Lib.hid g10
        have HC2 := Lib.hid hc2
        have e2 : w2.cell? ⟨w.heap.size + 1, 0, none⟩ = some (.slice a list.length cap) := blk_cell hc2.g1 0 _ rfl
        have e3 : (wq.alloc (.cells #[.int .i64 (l.getD list.length 0 : Nat), .int .i64 (x : Nat)] 80)).cell? ⟨w.heap.size + 1, 0, none⟩ = some (.slice a list.length cap) := by rw [← hw2]; exact e2
        have q0 : w2.cell? ⟨wq.heap.size, 0, none⟩ = some (.int .i64 (l.getD list.length 0 : Nat)) := blk_cell g10 0 _ rfl
        have q1 : w2.cell? ⟨wq.heap.size, 1, none⟩ = some (.int .i64 (x : Nat)) := blk_cell g10 1 _ rfl
        have HW2 := Lib.hid hw2
        have HSNX := Lib.hid (HSN.out x)
        have HNYX := HANY.out x
        rw [HNYX] at HCC
        have HGX := Lib.hid (HGD.out x)
        subst hsa
        clear hs1 hc hw2 g10 hc2 hrp8 HNYX
        generalize l.getD list.length 0 = p at *
        cases hfb : fitB (apS l) list x
        · rw [hfb] at HCC
          have HGG : Hid (∀ y, y < x + 1 → GS (apS l) l.length count f list y = none) := Lib.hid (fun y hy => by
            by_cases e : y = x
            · rw [e, HGX.out, hfb]; rfl
            · exact HG.out y (by omega))
          clear hfb
          go_wp2_with fail
          rw [← HW2.out]
          go_wp2_with fail
          refine HCC.out.mono ?_
          rintro e w3 ⟨rfl, hb3⟩
          have HC3 := Lib.hid (HC2.out.below hb3)
          go_wp2_with fail
          go_roundw
          case rel => exact ⟨x + 1, by omega, by go_num, HGG.out, HC3.out⟩
          case measure => simp [intOf]; omega
        · rw [hfb] at HCC
          have HFB := Lib.hid hfb
          have HGF : Hid (GS (apS l) l.length count f list x = impS (apS l) l.length count f (list ++ [x])) := Lib.hid (by rw [HGX.out, hfb]; rfl)
          clear hfb
          go_wp2_with fail
          rw [← HW2.out]
          go_wp2_with fail
          refine HCC.out.mono ?_
          rintro e w3 ⟨rfl, hb3⟩
          have hc3 := HC2.out.below hb3
          have g10 := hp_keep HG10.out hb3 hl10
          have hz3 := hc3.sz
          have hl3 := hp_lt g10
          have HC3 := Lib.hid hc3
          have HG3 := Lib.hid g10
          clear hc3 g10 e0 e1 e2 e3 q0 q1 d1
          go_wp2_with fail
          have hbd : Below w3.heap.size w3 w3.drew := (Same.refl w3).drew _
          have hc_wd := HC3.out.below hbd
          have g10_wd := hp_keep HG3.out hbd hl3
          have HOL : Hid (∀ k, (Value.slice a list.length cap).ownBlock = some k → k < w.heap.size) := Lib.hid (own_lt HOW.out)
          refine wp_region_mt (fun w' => w'.heap[w.heap.size]? = some (.cells #[.slice (some ⟨sb, so, none⟩) l.length cS, .int .i64 N, .int .i64 K] 48 (0, 0)) ∧ w'.heap[w.heap.size + 1]? = some (.cells #[.slice a list.length cap] 66 (0, 0)) ∧ w'.heap[wq.heap.size]? = some (.cells #[.int .i64 p, .int .i64 x] 80 (0, 0)))
            (.take 0 (.take 1 (.take 2 (.take 3 (.take 7 (.fork 4 (.fork 5 (.take 6 (.fork 8 (.take 9 (.take 10 (.take 11 (.sole 12 (.sole 13 (.take 14 .done)))))) 12 (.sole 8 (.take 9 (.take 10 (.take 11 (.sole 13 (.take 14 .done)))))))) 12 (.sole 5 (.take 6 (.sole 8 (.take 9 (.take 10 (.take 11 (.sole 13 (.take 14 .done))))))))) 12 (.sole 4 (.sole 5 (.take 6 (.sole 8 (.take 9 (.take 10 (.take 11 (.sole 13 (.take 14 .done)))))))))))))))
            (by kernel_rfl) (by kernel_rfl) (fun _ _ d _ _ h => by cases d <;> exact h) (by kernel_rfl) rfl ⟨hc_wd.g0, hc_wd.g1, g10_wd⟩ ?_
          generalize w3.drew = wd at hbd hc_wd g10_wd ⊢
          refine mt_take 0 _ (.agg #[.slice (some ⟨sb, so, none⟩) l.length cS, .int .i64 N, .int .i64 K]) rfl rfl (some 39) rfl (fun w' hw' => exec_row _ _ rfl (w.heap.size) rfl #[.slice (some ⟨sb, so, none⟩) l.length cS, .int .i64 N, .int .i64 K] (blk_load9 blkKG w' _ _ hw'.1 rfl)) ?_
          simp only [Act.put, List.setIfInBounds_toArray, List.set_cons_zero, List.set_cons_succ]
          refine mt_take 1 _ ?_ rfl rfl (some 40) rfl (fun w' hw' => ?hv1) ?_
          case hv1 =>
            go_simp
            with_reducible rfl
          simp only [Act.put, List.setIfInBounds_toArray, List.set_cons_zero, List.set_cons_succ]
          refine mt_take 2 _ ?_ rfl rfl (some 41) rfl (fun w' hw' => ?hv2) ?_
          case hv2 =>
            have s0 := blk_cell hw'.2.1 0 _ rfl
            go_simp
            with_reducible rfl
          simp only [Act.put, List.setIfInBounds_toArray, List.set_cons_zero, List.set_cons_succ]
          refine mt_take 3 _ (.agg #[.int .i64 p, .int .i64 x]) rfl rfl (some 42) rfl (fun w' hw' => exec_row _ _ rfl (wq.heap.size) rfl #[.int .i64 p, .int .i64 x] (blk_load9 blkCS w' _ _ hw'.2.2 rfl)) ?_
          simp only [Act.put, List.setIfInBounds_toArray, List.set_cons_zero, List.set_cons_succ]
          refine mt_take 7 _ ?_ rfl rfl (some 46) rfl (fun w' hw' => ?hv7) ?_
          case hv7 =>
            go_simp
            with_reducible rfl
          simp only [Act.put, List.setIfInBounds_toArray, List.set_cons_zero, List.set_cons_succ]
          refine mt_fork ?_ ?_
          · skip
            refine mt_build_cs 4 _ rfl rfl _ rfl (some 43) rfl p x rfl ⟨?hS, ?_⟩
            case hS => exact ⟨(hc_wd.below (balloc (Below.refl _ _) _)).g0, (hc_wd.below (balloc (Below.refl _ _) _)).g1, hp_keep g10_wd (balloc (Below.refl _ _) _) (hp_lt g10_wd)⟩
            simp only [Act.put, List.setIfInBounds_toArray, List.set_cons_zero, List.set_cons_succ]
            have hb_u1 : Below wd.heap.size wd (wd.alloc (.cells #[.int .i64 p, .int .i64 x] 80)) := balloc (Below.refl _ _) _
            have gE_u1 := heap_alloc_new wd (.cells #[.int .i64 p, .int .i64 x] 80)
            have hc_u1 := hc_wd.below hb_u1
            have g10_u1 := hp_keep g10_wd hb_u1 (hp_lt g10_wd)
            generalize wd.alloc (.cells #[.int .i64 p, .int .i64 x] 80) = u1 at hb_u1 gE_u1 hc_u1 g10_u1 ⊢
            refine mt_fork ?_ ?_
            · skip
              refine mt_append_ck 5 _ rfl lo wd.heap.size list.length u1 (.slice a list.length cap) (prV l (toI list) list.length) p x rfl _ _ rfl (some 44) rfl rfl rfl gE_u1 hc_u1.own (by have := hc_u1.sz; omega) (by omega) (fun v' w5 ho5 hg5 hb5 hback => ?_)
              have ow5 := hback w5 ho5 (fun _ _ _ => rfl)
              rw [← HSNX.out] at ho5
              rw [← HSNX.out] at hback
              obtain ⟨pa, pc, rfl, -, -⟩ := own_rdp ho5
              obtain ⟨wA, hwA⟩ : ∃ wA, wA = u1 := ⟨_, rfl⟩
              have hszA : w.heap.size + 3 ≤ wA.heap.size := by rw [hwA]; exact hc_u1.sz
              have hl3A : wq.heap.size < wA.heap.size := by rw [hwA]; exact hp_lt g10_u1
              have hc_w5 := hc_u1.keep hg5 ow5
              have g10_w5 := (hg5.block wq.heap.size (hp_lt g10_u1) (fun e => by have := HOL.out _ e.symm; omega)).trans g10_u1
              rw [← hwA] at hg5 hb5 hback
              have o5_w5 := ho5
              have k5_w5 : ∀ q, q < wA.heap.size → w5.heap[q]? = w5.heap[q]? := fun _ _ => rfl
              have k5s_w5 : w5.heap.size ≤ w5.heap.size := Nat.le_refl _
              refine ⟨⟨hc_w5.g0, hc_w5.g1, g10_w5⟩, ?_⟩
              simp only [Act.put, List.setIfInBounds_toArray, List.set_cons_zero, List.set_cons_succ]
              refine mt_take 6 _ (.agg #[.slice pa (list.length + 1) pc]) rfl rfl (some 45) rfl (fun w' hw' => ?hv6) ?_
              case hv6 =>
                go_simp
              simp only [Act.put, List.setIfInBounds_toArray, List.set_cons_zero, List.set_cons_succ]
              refine mt_fork ?_ ?_
              · skip
                have HREC : Hid (Calls Try.prog 60 #[.agg #[.slice (some ⟨sb, so, none⟩) l.length cS, .int .i64 N, .int .i64 K], .agg #[.slice pa (list.length + 1) pc], .int .i64 count] w5 (COut w5 lo l (list ++ [x]) (.slice pa (list.length + 1) pc) (impS (apS l) l.length count f (list ++ [x])))) := Lib.hid (by
                  have := HIH.out (list ++ [x]) pa pc w5 (by rw [HLN.out]; have := HFL.out; omega) (HRDW.out _ hc_w5) (by have := hc_w5.sz; omega) (by rw [HLN.out]; exact o5_w5)
                  rw [HLN.out] at this
                  exact this)
                refine mt_call 8 _ rfl rfl 60 #[.agg #[.slice (some ⟨sb, so, none⟩) l.length cS, .int .i64 N, .int .i64 K], .agg #[.slice pa (list.length + 1) pc], .int .i64 count] (some 47) rfl ?hr8 ?_
                case hr8 => go_simp
                refine HREC.out.mono ?_
                cases him : impS (apS l) l.length count f (list ++ [x])
                · rintro e w6 ⟨hg6, rfl, ho6⟩
                  rw [HLN.out] at ho6
                  have ow6 := hback w6 ho6 (fun q hq hne => (hg6.block q (by have := hg5.size; have := k5s_w5; omega) hne).trans (k5_w5 q hq))
                  have hc_w6 := hc_w5.keep2 hg6 HOL.out (by rcases hb5 with h | h; exact .inl h; exact .inr ⟨_, h, hszA⟩) ow6
                  have g10_w6 := (hg6.block wq.heap.size (hp_lt g10_w5) (fun e => by
                    rcases hb5 with h | h
                    · have := HOL.out _ (h.symm.trans e.symm); omega
                    · have e2 := e.trans h
                      simp only [Option.some.injEq] at e2
                      omega)).trans g10_w5
                  refine ⟨_, rfl, ⟨hc_w6.g0, hc_w6.g1, g10_w6⟩, ?_⟩
                  simp only [Act.put, List.setIfInBounds_toArray, List.set_cons_zero, List.set_cons_succ]
                  refine mt_take 9 _ ?_ rfl rfl (some 38) rfl (fun w' hw' => ?hv9) ?_
                  case hv9 =>
                    go_simp
                    with_reducible rfl
                  simp only [Act.put, List.setIfInBounds_toArray, List.set_cons_zero, List.set_cons_succ]
                  refine mt_take 10 _ ?_ rfl rfl (some 48) rfl (fun w' hw' => ?hv10) ?_
                  case hv10 =>
                    go_simp
                    with_reducible rfl
                  simp only [Act.put, List.setIfInBounds_toArray, List.set_cons_zero, List.set_cons_succ]
                  refine mt_take 11 _ ?_ rfl rfl (some 49) rfl (fun w' hw' => ?hv11) ?_
                  case hv11 =>
                    go_simp
                    with_reducible rfl
                  simp only [Act.put, List.setIfInBounds_toArray, List.set_cons_zero, List.set_cons_succ]
                  refine mt_alloc #[.slice none 0 0] run_alloc_col 12 _ rfl rfl rfl (some 11) rfl ⟨?hS, ?_⟩
                  case hS => exact ⟨(hc_w6.below (balloc (Below.refl _ _) _)).g0, (hc_w6.below (balloc (Below.refl _ _) _)).g1, hp_keep g10_w6 (balloc (Below.refl _ _) _) (hp_lt g10_w6)⟩
                  simp only [Act.put, List.setIfInBounds_toArray, List.set_cons_zero, List.set_cons_succ]
                  have hb_w7 : Below w6.heap.size w6 (w6.alloc (.cells #[.slice none 0 0] 66)) := balloc (Below.refl _ _) _
                  have gN_w7 := heap_alloc_new w6 (.cells #[.slice none 0 0] 66)
                  have hc_w7 := hc_w6.below hb_w7
                  have g10_w7 := hp_keep g10_w6 hb_w7 (hp_lt g10_w6)
                  generalize w6.alloc (.cells #[.slice none 0 0] 66) = w7 at hb_w7 gN_w7 hc_w7 g10_w7 ⊢
                  refine mt_store_blk blkCol 13 _ rfl rfl _ _ rfl none rfl w6.heap.size #[.slice none 0 0] #[.slice none 0 0] rfl rfl gN_w7 rfl rfl (by simp [Value.oneCell']) (w.heap.size + 3) (by have := hc_w6.sz; omega) (fun w9 hg9 hb9 hk9 hz9 => ?_)
                  have hc9 := hc_w7.put (g := w6.heap.size) (by have := hc_w6.sz; omega) gN_w7 ⟨hb9.os, hb9.tape, hb9.output⟩ hz9 hk9
                  have g109 := (hk9 wq.heap.size (by have := hp_lt g10_w6; omega)).trans g10_w7
                  refine ⟨⟨hc9.g0, hc9.g1, g109⟩, ?_⟩
                  simp only [Act.put]
                  refine mt_take 14 _ ?_ rfl rfl (some 12) rfl (fun w' hw' => ?hv14) ?_
                  case hv14 =>
                    go_simp
                    with_reducible rfl
                  simp only [Act.put, List.setIfInBounds_toArray, List.set_cons_zero, List.set_cons_succ]
                  refine mt_done ?_
                  have HGG : Hid (∀ y, y < x + 1 → GS (apS l) l.length count f list y = none) := Lib.hid (fun y hy => by
                    by_cases e : y = x
                    · rw [e, HGF.out, him]
                    · exact HG.out y (by omega))
                  have HC9 := Lib.hid hc9
                  clear hc9 g109 him hg9 hb9 hk9 hz9 hg6 hc_w6 g10_w6 ow6 ho6 hback ow5 ho5 hg5 hb5
                  go_wp2_with fail
                  go_roundw
                  case rel => exact ⟨x + 1, by omega, by go_num, HGG.out, HC9.out⟩
                  case measure => simp [intOf]; omega
                · rename_i o
                  rintro e w6 ⟨hg6, v6, rfl, ho6⟩
                  obtain ⟨qa, qc, rfl, -, -⟩ := own_rdp ho6
                  have hc_w6 := hc_w5.cg hg6 HOL.out (by rcases hb5 with h | h; exact .inl h; exact .inr ⟨_, h, hszA⟩)
                  have g10_w6 := (hg6.block wq.heap.size (hp_lt g10_w5) (fun e => by
                    rcases hb5 with h | h
                    · have := HOL.out _ (h.symm.trans e.symm); omega
                    · have e2 := e.trans h
                      simp only [Option.some.injEq] at e2
                      omega)).trans g10_w5
                  refine ⟨_, rfl, ⟨hc_w6.h0, hc_w6.h1, g10_w6⟩, ?_⟩
                  simp only [Act.put, List.setIfInBounds_toArray, List.set_cons_zero, List.set_cons_succ]
                  refine mt_take 9 _ ?_ rfl rfl (some 38) rfl (fun w' hw' => ?hv9) ?_
                  case hv9 =>
                    go_simp
                    with_reducible rfl
                  simp only [Act.put, List.setIfInBounds_toArray, List.set_cons_zero, List.set_cons_succ]
                  refine mt_take 10 _ ?_ rfl rfl (some 48) rfl (fun w' hw' => ?hv10) ?_
                  case hv10 =>
                    go_simp
                    with_reducible rfl
                  simp only [Act.put, List.setIfInBounds_toArray, List.set_cons_zero, List.set_cons_succ]
                  refine mt_take 11 _ ?_ rfl rfl (some 49) rfl (fun w' hw' => ?hv11) ?_
                  case hv11 =>
                    go_simp
                    with_reducible rfl
                  simp only [Act.put, List.setIfInBounds_toArray, List.set_cons_zero, List.set_cons_succ]
                  refine mt_alloc #[.slice none 0 0] run_alloc_col 12 _ rfl rfl rfl (some 11) rfl ⟨?hS, ?_⟩
                  case hS => exact ⟨(hc_w6.below (balloc (Below.refl _ _) _)).h0, (hc_w6.below (balloc (Below.refl _ _) _)).h1, hp_keep g10_w6 (balloc (Below.refl _ _) _) (hp_lt g10_w6)⟩
                  simp only [Act.put, List.setIfInBounds_toArray, List.set_cons_zero, List.set_cons_succ]
                  have hb_w7 : Below w6.heap.size w6 (w6.alloc (.cells #[.slice none 0 0] 66)) := balloc (Below.refl _ _) _
                  have gN_w7 := heap_alloc_new w6 (.cells #[.slice none 0 0] 66)
                  have hc_w7 := hc_w6.below hb_w7
                  have g10_w7 := hp_keep g10_w6 hb_w7 (hp_lt g10_w6)
                  have ho7 := own_now ho6 hb_w7
                  generalize w6.alloc (.cells #[.slice none 0 0] 66) = w7 at hb_w7 gN_w7 hc_w7 g10_w7 ho7 ⊢
                  refine mt_store_blk blkCol 13 _ rfl rfl _ _ rfl none rfl w6.heap.size #[.slice qa o.length qc] #[.slice none 0 0] rfl rfl gN_w7 rfl rfl (by simp [Value.oneCell']) (w.heap.size + 3) (by have := hc_w6.sz; omega) (fun w9 hg9 hb9 hk9 hz9 => ?_)
                  have hc9 := hc_w7.put (g := w6.heap.size) (by have := hc_w6.sz; omega) ⟨hb9.os, hb9.tape, hb9.output⟩ hz9 hk9
                  have g109 := (hk9 wq.heap.size (by have := hp_lt g10_w6; omega)).trans g10_w7
                  have ho9 := own_blk ho7 (fun k hk => hk9 k (fun e => own_nt ho7 gN_w7 (by decide) (by rw [hk, e])))
                  refine ⟨⟨hc9.h0, hc9.h1, g109⟩, ?_⟩
                  simp only [Act.put]
                  refine mt_take 14 _ ?_ rfl rfl (some 12) rfl (fun w' hw' => ?hv14) ?_
                  case hv14 =>
                    go_simp
                    with_reducible rfl
                  simp only [Act.put, List.setIfInBounds_toArray, List.set_cons_zero, List.set_cons_succ]
                  refine mt_done ?_
                  have HR : Hid (impS (apS l) l.length count (f + 1) list = some o) := Lib.hid (HHIT.out x o hxc (fun y hy => by rw [← HGD.out]; exact HG.out y hy) HFB.out him)
                  have y0 : w9.cell? ⟨w6.heap.size, 0, none⟩ = some (.slice qa o.length qc) := blk_cell hg9 0 _ rfl
                  have y1 : w9.cell? ⟨w.heap.size + 2, 0, none⟩ = some (.slice none 0 0) := blk_cell hc9.h2 0 _ rfl
                  have y2 := hp_froz hc9.h2 0
                  obtain ⟨z2, z3⟩ := hc9.set2 (.slice qa o.length qc)
                  have Z1 := Lib.hid (own_set (u := .slice qa o.length qc) ho9 hc9.h2)
                  have Z2 := Lib.hid z2
                  have Z3 := Lib.hid z3
                  clear hc9 g109 him hg9 hb9 hk9 hz9 hg6 hc_w6 g10_w6 ho6 hback ow5 ho5 hg5 hb5 z2 z3 ho9
                  go_wp2_with fail
                  rw [HR.out]
                  exact bodyPost_ret (results_blk blkCol rfl _ _ (w.heap.size + 2) _ _ rfl rfl Z2.out rfl) rfl ⟨Z3.out, _, rfl, Z1.out⟩
              · skip
                refine mt_alloc #[.slice none 0 0] run_alloc_col 12 _ rfl rfl rfl (some 11) rfl ⟨?hS, ?_⟩
                case hS => exact ⟨(hc_w5.below (balloc (Below.refl _ _) _)).g0, (hc_w5.below (balloc (Below.refl _ _) _)).g1, hp_keep g10_w5 (balloc (Below.refl _ _) _) (hp_lt g10_w5)⟩
                simp only [Act.put, List.setIfInBounds_toArray, List.set_cons_zero, List.set_cons_succ]
                have hb_u2 : Below w5.heap.size w5 (w5.alloc (.cells #[.slice none 0 0] 66)) := balloc (Below.refl _ _) _
                have gN_u2 := heap_alloc_new w5 (.cells #[.slice none 0 0] 66)
                have hc_u2 := hc_w5.below hb_u2
                have g10_u2 := hp_keep g10_w5 hb_u2 (hp_lt g10_w5)
                have o5_u2 := own_now o5_w5 hb_u2
                have k5_u2 : ∀ q, q < wA.heap.size → (w5.alloc (.cells #[.slice none 0 0] 66)).heap[q]? = w5.heap[q]? := fun q hq => (hb_u2.block q (by have := hg5.size; have := k5s_w5; omega)).trans (k5_w5 q hq)
                have k5s_u2 : w5.heap.size ≤ (w5.alloc (.cells #[.slice none 0 0] 66)).heap.size := Nat.le_trans k5s_w5 hb_u2.size
                generalize w5.alloc (.cells #[.slice none 0 0] 66) = u2 at hb_u2 gN_u2 hc_u2 g10_u2 o5_u2 k5_u2 k5s_u2 ⊢
                have HREC : Hid (Calls Try.prog 60 #[.agg #[.slice (some ⟨sb, so, none⟩) l.length cS, .int .i64 N, .int .i64 K], .agg #[.slice pa (list.length + 1) pc], .int .i64 count] u2 (COut u2 lo l (list ++ [x]) (.slice pa (list.length + 1) pc) (impS (apS l) l.length count f (list ++ [x])))) := Lib.hid (by
                  have := HIH.out (list ++ [x]) pa pc u2 (by rw [HLN.out]; have := HFL.out; omega) (HRDW.out _ hc_u2) (by have := hc_u2.sz; omega) (by rw [HLN.out]; exact o5_u2)
                  rw [HLN.out] at this
                  exact this)
                refine mt_call 8 _ rfl rfl 60 #[.agg #[.slice (some ⟨sb, so, none⟩) l.length cS, .int .i64 N, .int .i64 K], .agg #[.slice pa (list.length + 1) pc], .int .i64 count] (some 47) rfl ?hr8 ?_
                case hr8 => go_simp
                refine HREC.out.mono ?_
                cases him : impS (apS l) l.length count f (list ++ [x])
                · rintro e w6 ⟨hg6, rfl, ho6⟩
                  rw [HLN.out] at ho6
                  have ow6 := hback w6 ho6 (fun q hq hne => (hg6.block q (by have := hg5.size; have := k5s_u2; omega) hne).trans (k5_u2 q hq))
                  have hc_w6 := hc_u2.keep2 hg6 HOL.out (by rcases hb5 with h | h; exact .inl h; exact .inr ⟨_, h, hszA⟩) ow6
                  have g10_w6 := (hg6.block wq.heap.size (hp_lt g10_u2) (fun e => by
                    rcases hb5 with h | h
                    · have := HOL.out _ (h.symm.trans e.symm); omega
                    · have e2 := e.trans h
                      simp only [Option.some.injEq] at e2
                      omega)).trans g10_u2
                  have gN_w6 := (hg6.block w5.heap.size (hp_lt gN_u2) (fun e => own_nt o5_u2 gN_u2 (by decide) e.symm)).trans gN_u2
                  refine ⟨_, rfl, ⟨hc_w6.g0, hc_w6.g1, g10_w6⟩, ?_⟩
                  simp only [Act.put, List.setIfInBounds_toArray, List.set_cons_zero, List.set_cons_succ]
                  refine mt_take 9 _ ?_ rfl rfl (some 38) rfl (fun w' hw' => ?hv9) ?_
                  case hv9 =>
                    go_simp
                    with_reducible rfl
                  simp only [Act.put, List.setIfInBounds_toArray, List.set_cons_zero, List.set_cons_succ]
                  refine mt_take 10 _ ?_ rfl rfl (some 48) rfl (fun w' hw' => ?hv10) ?_
                  case hv10 =>
                    go_simp
                    with_reducible rfl
                  simp only [Act.put, List.setIfInBounds_toArray, List.set_cons_zero, List.set_cons_succ]
                  refine mt_take 11 _ ?_ rfl rfl (some 49) rfl (fun w' hw' => ?hv11) ?_
                  case hv11 =>
                    go_simp
                    with_reducible rfl
                  simp only [Act.put, List.setIfInBounds_toArray, List.set_cons_zero, List.set_cons_succ]
                  refine mt_store_blk blkCol 13 _ rfl rfl _ _ rfl none rfl w5.heap.size #[.slice none 0 0] #[.slice none 0 0] rfl rfl gN_w6 rfl rfl (by simp [Value.oneCell']) (w.heap.size + 3) (by have := hc_w5.sz; omega) (fun w9 hg9 hb9 hk9 hz9 => ?_)
                  have hc9 := hc_w6.put (g := w5.heap.size) (by have := hc_w5.sz; omega) gN_w6 ⟨hb9.os, hb9.tape, hb9.output⟩ hz9 hk9
                  have g109 := (hk9 wq.heap.size (by have := hp_lt g10_w5; omega)).trans g10_w6
                  refine ⟨⟨hc9.g0, hc9.g1, g109⟩, ?_⟩
                  simp only [Act.put]
                  refine mt_take 14 _ ?_ rfl rfl (some 12) rfl (fun w' hw' => ?hv14) ?_
                  case hv14 =>
                    go_simp
                    with_reducible rfl
                  simp only [Act.put, List.setIfInBounds_toArray, List.set_cons_zero, List.set_cons_succ]
                  refine mt_done ?_
                  have HGG : Hid (∀ y, y < x + 1 → GS (apS l) l.length count f list y = none) := Lib.hid (fun y hy => by
                    by_cases e : y = x
                    · rw [e, HGF.out, him]
                    · exact HG.out y (by omega))
                  have HC9 := Lib.hid hc9
                  clear hc9 g109 him hg9 hb9 hk9 hz9 hg6 hc_w6 g10_w6 ow6 ho6 hback ow5 ho5 hg5 hb5
                  go_wp2_with fail
                  go_roundw
                  case rel => exact ⟨x + 1, by omega, by go_num, HGG.out, HC9.out⟩
                  case measure => simp [intOf]; omega
                · rename_i o
                  rintro e w6 ⟨hg6, v6, rfl, ho6⟩
                  obtain ⟨qa, qc, rfl, -, -⟩ := own_rdp ho6
                  have hc_w6 := hc_u2.cg hg6 HOL.out (by rcases hb5 with h | h; exact .inl h; exact .inr ⟨_, h, hszA⟩)
                  have g10_w6 := (hg6.block wq.heap.size (hp_lt g10_u2) (fun e => by
                    rcases hb5 with h | h
                    · have := HOL.out _ (h.symm.trans e.symm); omega
                    · have e2 := e.trans h
                      simp only [Option.some.injEq] at e2
                      omega)).trans g10_u2
                  have gN_w6 := (hg6.block w5.heap.size (hp_lt gN_u2) (fun e => own_nt o5_u2 gN_u2 (by decide) e.symm)).trans gN_u2
                  refine ⟨_, rfl, ⟨hc_w6.h0, hc_w6.h1, g10_w6⟩, ?_⟩
                  simp only [Act.put, List.setIfInBounds_toArray, List.set_cons_zero, List.set_cons_succ]
                  refine mt_take 9 _ ?_ rfl rfl (some 38) rfl (fun w' hw' => ?hv9) ?_
                  case hv9 =>
                    go_simp
                    with_reducible rfl
                  simp only [Act.put, List.setIfInBounds_toArray, List.set_cons_zero, List.set_cons_succ]
                  refine mt_take 10 _ ?_ rfl rfl (some 48) rfl (fun w' hw' => ?hv10) ?_
                  case hv10 =>
                    go_simp
                    with_reducible rfl
                  simp only [Act.put, List.setIfInBounds_toArray, List.set_cons_zero, List.set_cons_succ]
                  refine mt_take 11 _ ?_ rfl rfl (some 49) rfl (fun w' hw' => ?hv11) ?_
                  case hv11 =>
                    go_simp
                    with_reducible rfl
                  simp only [Act.put, List.setIfInBounds_toArray, List.set_cons_zero, List.set_cons_succ]
                  refine mt_store_blk blkCol 13 _ rfl rfl _ _ rfl none rfl w5.heap.size #[.slice qa o.length qc] #[.slice none 0 0] rfl rfl gN_w6 rfl rfl (by simp [Value.oneCell']) (w.heap.size + 3) (by have := hc_w5.sz; omega) (fun w9 hg9 hb9 hk9 hz9 => ?_)
                  have hc9 := hc_w6.put (g := w5.heap.size) (by have := hc_w5.sz; omega) ⟨hb9.os, hb9.tape, hb9.output⟩ hz9 hk9
                  have g109 := (hk9 wq.heap.size (by have := hp_lt g10_w5; omega)).trans g10_w6
                  have ho9 := own_blk ho6 (fun k hk => hk9 k (fun e => own_nt ho6 gN_w6 (by decide) (by rw [hk, e])))
                  refine ⟨⟨hc9.h0, hc9.h1, g109⟩, ?_⟩
                  simp only [Act.put]
                  refine mt_take 14 _ ?_ rfl rfl (some 12) rfl (fun w' hw' => ?hv14) ?_
                  case hv14 =>
                    go_simp
                    with_reducible rfl
                  simp only [Act.put, List.setIfInBounds_toArray, List.set_cons_zero, List.set_cons_succ]
                  refine mt_done ?_
                  have HR : Hid (impS (apS l) l.length count (f + 1) list = some o) := Lib.hid (HHIT.out x o hxc (fun y hy => by rw [← HGD.out]; exact HG.out y hy) HFB.out him)
                  have y0 : w9.cell? ⟨w5.heap.size, 0, none⟩ = some (.slice qa o.length qc) := blk_cell hg9 0 _ rfl
                  have y1 : w9.cell? ⟨w.heap.size + 2, 0, none⟩ = some (.slice none 0 0) := blk_cell hc9.h2 0 _ rfl
                  have y2 := hp_froz hc9.h2 0
                  obtain ⟨z2, z3⟩ := hc9.set2 (.slice qa o.length qc)
                  have Z1 := Lib.hid (own_set (u := .slice qa o.length qc) ho9 hc9.h2)
                  have Z2 := Lib.hid z2
                  have Z3 := Lib.hid z3
                  clear hc9 g109 him hg9 hb9 hk9 hz9 hg6 hc_w6 g10_w6 ho6 hback ow5 ho5 hg5 hb5 z2 z3 ho9
                  go_wp2_with fail
                  rw [HR.out]
                  exact bodyPost_ret (results_blk blkCol rfl _ _ (w.heap.size + 2) _ _ rfl rfl Z2.out rfl) rfl ⟨Z3.out, _, rfl, Z1.out⟩
            · skip
              refine mt_alloc #[.slice none 0 0] run_alloc_col 12 _ rfl rfl rfl (some 11) rfl ⟨?hS, ?_⟩
              case hS => exact ⟨(hc_u1.below (balloc (Below.refl _ _) _)).g0, (hc_u1.below (balloc (Below.refl _ _) _)).g1, hp_keep g10_u1 (balloc (Below.refl _ _) _) (hp_lt g10_u1)⟩
              simp only [Act.put, List.setIfInBounds_toArray, List.set_cons_zero, List.set_cons_succ]
              have hb_u3 : Below u1.heap.size u1 (u1.alloc (.cells #[.slice none 0 0] 66)) := balloc (Below.refl _ _) _
              have gN_u3 := heap_alloc_new u1 (.cells #[.slice none 0 0] 66)
              have hc_u3 := hc_u1.below hb_u3
              have g10_u3 := hp_keep g10_u1 hb_u3 (hp_lt g10_u1)
              have gE_u3 := hp_keep gE_u1 hb_u3 (hp_lt gE_u1)
              generalize u1.alloc (.cells #[.slice none 0 0] 66) = u3 at hb_u3 gN_u3 hc_u3 g10_u3 gE_u3 ⊢
              have hNs_u1 : w.heap.size ≤ u1.heap.size := by have := hc_u1.sz; omega
              refine mt_append_ck 5 _ rfl lo wd.heap.size list.length u3 (.slice a list.length cap) (prV l (toI list) list.length) p x rfl _ _ rfl (some 44) rfl rfl rfl gE_u3 hc_u3.own (by have := hc_u3.sz; omega) (by omega) (fun v' w5 ho5 hg5 hb5 hback => ?_)
              have ow5 := hback w5 ho5 (fun _ _ _ => rfl)
              rw [← HSNX.out] at ho5
              rw [← HSNX.out] at hback
              obtain ⟨pa, pc, rfl, -, -⟩ := own_rdp ho5
              obtain ⟨wA, hwA⟩ : ∃ wA, wA = u3 := ⟨_, rfl⟩
              have hszA : w.heap.size + 3 ≤ wA.heap.size := by rw [hwA]; exact hc_u3.sz
              have hl3A : wq.heap.size < wA.heap.size := by rw [hwA]; exact hp_lt g10_u3
              have hc_w5 := hc_u3.keep hg5 ow5
              have g10_w5 := (hg5.block wq.heap.size (hp_lt g10_u3) (fun e => by have := HOL.out _ e.symm; omega)).trans g10_u3
              have gN_w5 := (hg5.block u1.heap.size (hp_lt gN_u3) (fun e => by have := HOL.out _ e.symm; omega)).trans gN_u3
              rw [← hwA] at hg5 hb5 hback
              have o5_w5 := ho5
              have k5_w5 : ∀ q, q < wA.heap.size → w5.heap[q]? = w5.heap[q]? := fun _ _ => rfl
              have k5s_w5 : w5.heap.size ≤ w5.heap.size := Nat.le_refl _
              refine ⟨⟨hc_w5.g0, hc_w5.g1, g10_w5⟩, ?_⟩
              simp only [Act.put, List.setIfInBounds_toArray, List.set_cons_zero, List.set_cons_succ]
              refine mt_take 6 _ (.agg #[.slice pa (list.length + 1) pc]) rfl rfl (some 45) rfl (fun w' hw' => ?hv6) ?_
              case hv6 =>
                go_simp
              simp only [Act.put, List.setIfInBounds_toArray, List.set_cons_zero, List.set_cons_succ]
              have HREC : Hid (Calls Try.prog 60 #[.agg #[.slice (some ⟨sb, so, none⟩) l.length cS, .int .i64 N, .int .i64 K], .agg #[.slice pa (list.length + 1) pc], .int .i64 count] w5 (COut w5 lo l (list ++ [x]) (.slice pa (list.length + 1) pc) (impS (apS l) l.length count f (list ++ [x])))) := Lib.hid (by
                have := HIH.out (list ++ [x]) pa pc w5 (by rw [HLN.out]; have := HFL.out; omega) (HRDW.out _ hc_w5) (by have := hc_w5.sz; omega) (by rw [HLN.out]; exact o5_w5)
                rw [HLN.out] at this
                exact this)
              refine mt_call 8 _ rfl rfl 60 #[.agg #[.slice (some ⟨sb, so, none⟩) l.length cS, .int .i64 N, .int .i64 K], .agg #[.slice pa (list.length + 1) pc], .int .i64 count] (some 47) rfl ?hr8 ?_
              case hr8 => go_simp
              refine HREC.out.mono ?_
              cases him : impS (apS l) l.length count f (list ++ [x])
              · rintro e w6 ⟨hg6, rfl, ho6⟩
                rw [HLN.out] at ho6
                have ow6 := hback w6 ho6 (fun q hq hne => (hg6.block q (by have := hg5.size; have := k5s_w5; omega) hne).trans (k5_w5 q hq))
                have hc_w6 := hc_w5.keep2 hg6 HOL.out (by rcases hb5 with h | h; exact .inl h; exact .inr ⟨_, h, hszA⟩) ow6
                have g10_w6 := (hg6.block wq.heap.size (hp_lt g10_w5) (fun e => by
                  rcases hb5 with h | h
                  · have := HOL.out _ (h.symm.trans e.symm); omega
                  · have e2 := e.trans h
                    simp only [Option.some.injEq] at e2
                    omega)).trans g10_w5
                have gN_w6 := (hg6.block u1.heap.size (hp_lt gN_w5) (fun e => own_nt o5_w5 gN_w5 (by decide) e.symm)).trans gN_w5
                refine ⟨_, rfl, ⟨hc_w6.g0, hc_w6.g1, g10_w6⟩, ?_⟩
                simp only [Act.put, List.setIfInBounds_toArray, List.set_cons_zero, List.set_cons_succ]
                refine mt_take 9 _ ?_ rfl rfl (some 38) rfl (fun w' hw' => ?hv9) ?_
                case hv9 =>
                  go_simp
                  with_reducible rfl
                simp only [Act.put, List.setIfInBounds_toArray, List.set_cons_zero, List.set_cons_succ]
                refine mt_take 10 _ ?_ rfl rfl (some 48) rfl (fun w' hw' => ?hv10) ?_
                case hv10 =>
                  go_simp
                  with_reducible rfl
                simp only [Act.put, List.setIfInBounds_toArray, List.set_cons_zero, List.set_cons_succ]
                refine mt_take 11 _ ?_ rfl rfl (some 49) rfl (fun w' hw' => ?hv11) ?_
                case hv11 =>
                  go_simp
                  with_reducible rfl
                simp only [Act.put, List.setIfInBounds_toArray, List.set_cons_zero, List.set_cons_succ]
                refine mt_store_blk blkCol 13 _ rfl rfl _ _ rfl none rfl u1.heap.size #[.slice none 0 0] #[.slice none 0 0] rfl rfl gN_w6 rfl rfl (by simp [Value.oneCell']) (w.heap.size + 3) (by have := hc_u1.sz; omega) (fun w9 hg9 hb9 hk9 hz9 => ?_)
                have hc9 := hc_w6.put (g := u1.heap.size) (by have := hc_u1.sz; omega) gN_w6 ⟨hb9.os, hb9.tape, hb9.output⟩ hz9 hk9
                have g109 := (hk9 wq.heap.size (by have := hp_lt g10_u1; omega)).trans g10_w6
                refine ⟨⟨hc9.g0, hc9.g1, g109⟩, ?_⟩
                simp only [Act.put]
                refine mt_take 14 _ ?_ rfl rfl (some 12) rfl (fun w' hw' => ?hv14) ?_
                case hv14 =>
                  go_simp
                  with_reducible rfl
                simp only [Act.put, List.setIfInBounds_toArray, List.set_cons_zero, List.set_cons_succ]
                refine mt_done ?_
                have HGG : Hid (∀ y, y < x + 1 → GS (apS l) l.length count f list y = none) := Lib.hid (fun y hy => by
                  by_cases e : y = x
                  · rw [e, HGF.out, him]
                  · exact HG.out y (by omega))
                have HC9 := Lib.hid hc9
                clear hc9 g109 him hg9 hb9 hk9 hz9 hg6 hc_w6 g10_w6 ow6 ho6 hback ow5 ho5 hg5 hb5
                go_wp2_with fail
                go_roundw
                case rel => exact ⟨x + 1, by omega, by go_num, HGG.out, HC9.out⟩
                case measure => simp [intOf]; omega
              · rename_i o
                rintro e w6 ⟨hg6, v6, rfl, ho6⟩
                obtain ⟨qa, qc, rfl, -, -⟩ := own_rdp ho6
                have hc_w6 := hc_w5.cg hg6 HOL.out (by rcases hb5 with h | h; exact .inl h; exact .inr ⟨_, h, hszA⟩)
                have g10_w6 := (hg6.block wq.heap.size (hp_lt g10_w5) (fun e => by
                  rcases hb5 with h | h
                  · have := HOL.out _ (h.symm.trans e.symm); omega
                  · have e2 := e.trans h
                    simp only [Option.some.injEq] at e2
                    omega)).trans g10_w5
                have gN_w6 := (hg6.block u1.heap.size (hp_lt gN_w5) (fun e => own_nt o5_w5 gN_w5 (by decide) e.symm)).trans gN_w5
                refine ⟨_, rfl, ⟨hc_w6.h0, hc_w6.h1, g10_w6⟩, ?_⟩
                simp only [Act.put, List.setIfInBounds_toArray, List.set_cons_zero, List.set_cons_succ]
                refine mt_take 9 _ ?_ rfl rfl (some 38) rfl (fun w' hw' => ?hv9) ?_
                case hv9 =>
                  go_simp
                  with_reducible rfl
                simp only [Act.put, List.setIfInBounds_toArray, List.set_cons_zero, List.set_cons_succ]
                refine mt_take 10 _ ?_ rfl rfl (some 48) rfl (fun w' hw' => ?hv10) ?_
                case hv10 =>
                  go_simp
                  with_reducible rfl
                simp only [Act.put, List.setIfInBounds_toArray, List.set_cons_zero, List.set_cons_succ]
                refine mt_take 11 _ ?_ rfl rfl (some 49) rfl (fun w' hw' => ?hv11) ?_
                case hv11 =>
                  go_simp
                  with_reducible rfl
                simp only [Act.put, List.setIfInBounds_toArray, List.set_cons_zero, List.set_cons_succ]
                refine mt_store_blk blkCol 13 _ rfl rfl _ _ rfl none rfl u1.heap.size #[.slice qa o.length qc] #[.slice none 0 0] rfl rfl gN_w6 rfl rfl (by simp [Value.oneCell']) (w.heap.size + 3) (by have := hc_u1.sz; omega) (fun w9 hg9 hb9 hk9 hz9 => ?_)
                have hc9 := hc_w6.put (g := u1.heap.size) (by have := hc_u1.sz; omega) ⟨hb9.os, hb9.tape, hb9.output⟩ hz9 hk9
                have g109 := (hk9 wq.heap.size (by have := hp_lt g10_u1; omega)).trans g10_w6
                have ho9 := own_blk ho6 (fun k hk => hk9 k (fun e => own_nt ho6 gN_w6 (by decide) (by rw [hk, e])))
                refine ⟨⟨hc9.h0, hc9.h1, g109⟩, ?_⟩
                simp only [Act.put]
                refine mt_take 14 _ ?_ rfl rfl (some 12) rfl (fun w' hw' => ?hv14) ?_
                case hv14 =>
                  go_simp
                  with_reducible rfl
                simp only [Act.put, List.setIfInBounds_toArray, List.set_cons_zero, List.set_cons_succ]
                refine mt_done ?_
                have HR : Hid (impS (apS l) l.length count (f + 1) list = some o) := Lib.hid (HHIT.out x o hxc (fun y hy => by rw [← HGD.out]; exact HG.out y hy) HFB.out him)
                have y0 : w9.cell? ⟨u1.heap.size, 0, none⟩ = some (.slice qa o.length qc) := blk_cell hg9 0 _ rfl
                have y1 : w9.cell? ⟨w.heap.size + 2, 0, none⟩ = some (.slice none 0 0) := blk_cell hc9.h2 0 _ rfl
                have y2 := hp_froz hc9.h2 0
                obtain ⟨z2, z3⟩ := hc9.set2 (.slice qa o.length qc)
                have Z1 := Lib.hid (own_set (u := .slice qa o.length qc) ho9 hc9.h2)
                have Z2 := Lib.hid z2
                have Z3 := Lib.hid z3
                clear hc9 g109 him hg9 hb9 hk9 hz9 hg6 hc_w6 g10_w6 ho6 hback ow5 ho5 hg5 hb5 z2 z3 ho9
                go_wp2_with fail
                rw [HR.out]
                exact bodyPost_ret (results_blk blkCol rfl _ _ (w.heap.size + 2) _ _ rfl rfl Z2.out rfl) rfl ⟨Z3.out, _, rfl, Z1.out⟩
          · skip
            refine mt_alloc #[.slice none 0 0] run_alloc_col 12 _ rfl rfl rfl (some 11) rfl ⟨?hS, ?_⟩
            case hS => exact ⟨(hc_wd.below (balloc (Below.refl _ _) _)).g0, (hc_wd.below (balloc (Below.refl _ _) _)).g1, hp_keep g10_wd (balloc (Below.refl _ _) _) (hp_lt g10_wd)⟩
            simp only [Act.put, List.setIfInBounds_toArray, List.set_cons_zero, List.set_cons_succ]
            have hb_u4 : Below wd.heap.size wd (wd.alloc (.cells #[.slice none 0 0] 66)) := balloc (Below.refl _ _) _
            have gN_u4 := heap_alloc_new wd (.cells #[.slice none 0 0] 66)
            have hc_u4 := hc_wd.below hb_u4
            have g10_u4 := hp_keep g10_wd hb_u4 (hp_lt g10_wd)
            generalize wd.alloc (.cells #[.slice none 0 0] 66) = u4 at hb_u4 gN_u4 hc_u4 g10_u4  ⊢
            refine mt_build_cs 4 _ rfl rfl _ rfl (some 43) rfl p x rfl ⟨?hS, ?_⟩
            case hS => exact ⟨(hc_u4.below (balloc (Below.refl _ _) _)).g0, (hc_u4.below (balloc (Below.refl _ _) _)).g1, hp_keep g10_u4 (balloc (Below.refl _ _) _) (hp_lt g10_u4)⟩
            simp only [Act.put, List.setIfInBounds_toArray, List.set_cons_zero, List.set_cons_succ]
            have hb_u5 : Below u4.heap.size u4 (u4.alloc (.cells #[.int .i64 p, .int .i64 x] 80)) := balloc (Below.refl _ _) _
            have gE_u5 := heap_alloc_new u4 (.cells #[.int .i64 p, .int .i64 x] 80)
            have hc_u5 := hc_u4.below hb_u5
            have g10_u5 := hp_keep g10_u4 hb_u5 (hp_lt g10_u4)
            have gN_u5 := hp_keep gN_u4 hb_u5 (hp_lt gN_u4)
            generalize u4.alloc (.cells #[.int .i64 p, .int .i64 x] 80) = u5 at hb_u5 gE_u5 hc_u5 g10_u5 gN_u5 ⊢
            have hNs_wd : w.heap.size ≤ wd.heap.size := by have := hc_wd.sz; omega
            refine mt_append_ck 5 _ rfl lo u4.heap.size list.length u5 (.slice a list.length cap) (prV l (toI list) list.length) p x rfl _ _ rfl (some 44) rfl rfl rfl gE_u5 hc_u5.own (by have := hc_u5.sz; omega) (by omega) (fun v' w5 ho5 hg5 hb5 hback => ?_)
            have ow5 := hback w5 ho5 (fun _ _ _ => rfl)
            rw [← HSNX.out] at ho5
            rw [← HSNX.out] at hback
            obtain ⟨pa, pc, rfl, -, -⟩ := own_rdp ho5
            obtain ⟨wA, hwA⟩ : ∃ wA, wA = u5 := ⟨_, rfl⟩
            have hszA : w.heap.size + 3 ≤ wA.heap.size := by rw [hwA]; exact hc_u5.sz
            have hl3A : wq.heap.size < wA.heap.size := by rw [hwA]; exact hp_lt g10_u5
            have hc_w5 := hc_u5.keep hg5 ow5
            have g10_w5 := (hg5.block wq.heap.size (hp_lt g10_u5) (fun e => by have := HOL.out _ e.symm; omega)).trans g10_u5
            have gN_w5 := (hg5.block wd.heap.size (hp_lt gN_u5) (fun e => by have := HOL.out _ e.symm; omega)).trans gN_u5
            rw [← hwA] at hg5 hb5 hback
            have o5_w5 := ho5
            have k5_w5 : ∀ q, q < wA.heap.size → w5.heap[q]? = w5.heap[q]? := fun _ _ => rfl
            have k5s_w5 : w5.heap.size ≤ w5.heap.size := Nat.le_refl _
            refine ⟨⟨hc_w5.g0, hc_w5.g1, g10_w5⟩, ?_⟩
            simp only [Act.put, List.setIfInBounds_toArray, List.set_cons_zero, List.set_cons_succ]
            refine mt_take 6 _ (.agg #[.slice pa (list.length + 1) pc]) rfl rfl (some 45) rfl (fun w' hw' => ?hv6) ?_
            case hv6 =>
              go_simp
            simp only [Act.put, List.setIfInBounds_toArray, List.set_cons_zero, List.set_cons_succ]
            have HREC : Hid (Calls Try.prog 60 #[.agg #[.slice (some ⟨sb, so, none⟩) l.length cS, .int .i64 N, .int .i64 K], .agg #[.slice pa (list.length + 1) pc], .int .i64 count] w5 (COut w5 lo l (list ++ [x]) (.slice pa (list.length + 1) pc) (impS (apS l) l.length count f (list ++ [x])))) := Lib.hid (by
              have := HIH.out (list ++ [x]) pa pc w5 (by rw [HLN.out]; have := HFL.out; omega) (HRDW.out _ hc_w5) (by have := hc_w5.sz; omega) (by rw [HLN.out]; exact o5_w5)
              rw [HLN.out] at this
              exact this)
            refine mt_call 8 _ rfl rfl 60 #[.agg #[.slice (some ⟨sb, so, none⟩) l.length cS, .int .i64 N, .int .i64 K], .agg #[.slice pa (list.length + 1) pc], .int .i64 count] (some 47) rfl ?hr8 ?_
            case hr8 => go_simp
            refine HREC.out.mono ?_
            cases him : impS (apS l) l.length count f (list ++ [x])
            · rintro e w6 ⟨hg6, rfl, ho6⟩
              rw [HLN.out] at ho6
              have ow6 := hback w6 ho6 (fun q hq hne => (hg6.block q (by have := hg5.size; have := k5s_w5; omega) hne).trans (k5_w5 q hq))
              have hc_w6 := hc_w5.keep2 hg6 HOL.out (by rcases hb5 with h | h; exact .inl h; exact .inr ⟨_, h, hszA⟩) ow6
              have g10_w6 := (hg6.block wq.heap.size (hp_lt g10_w5) (fun e => by
                rcases hb5 with h | h
                · have := HOL.out _ (h.symm.trans e.symm); omega
                · have e2 := e.trans h
                  simp only [Option.some.injEq] at e2
                  omega)).trans g10_w5
              have gN_w6 := (hg6.block wd.heap.size (hp_lt gN_w5) (fun e => own_nt o5_w5 gN_w5 (by decide) e.symm)).trans gN_w5
              refine ⟨_, rfl, ⟨hc_w6.g0, hc_w6.g1, g10_w6⟩, ?_⟩
              simp only [Act.put, List.setIfInBounds_toArray, List.set_cons_zero, List.set_cons_succ]
              refine mt_take 9 _ ?_ rfl rfl (some 38) rfl (fun w' hw' => ?hv9) ?_
              case hv9 =>
                go_simp
                with_reducible rfl
              simp only [Act.put, List.setIfInBounds_toArray, List.set_cons_zero, List.set_cons_succ]
              refine mt_take 10 _ ?_ rfl rfl (some 48) rfl (fun w' hw' => ?hv10) ?_
              case hv10 =>
                go_simp
                with_reducible rfl
              simp only [Act.put, List.setIfInBounds_toArray, List.set_cons_zero, List.set_cons_succ]
              refine mt_take 11 _ ?_ rfl rfl (some 49) rfl (fun w' hw' => ?hv11) ?_
              case hv11 =>
                go_simp
                with_reducible rfl
              simp only [Act.put, List.setIfInBounds_toArray, List.set_cons_zero, List.set_cons_succ]
              refine mt_store_blk blkCol 13 _ rfl rfl _ _ rfl none rfl wd.heap.size #[.slice none 0 0] #[.slice none 0 0] rfl rfl gN_w6 rfl rfl (by simp [Value.oneCell']) (w.heap.size + 3) (by have := hc_wd.sz; omega) (fun w9 hg9 hb9 hk9 hz9 => ?_)
              have hc9 := hc_w6.put (g := wd.heap.size) (by have := hc_wd.sz; omega) gN_w6 ⟨hb9.os, hb9.tape, hb9.output⟩ hz9 hk9
              have g109 := (hk9 wq.heap.size (by have := hp_lt g10_wd; omega)).trans g10_w6
              refine ⟨⟨hc9.g0, hc9.g1, g109⟩, ?_⟩
              simp only [Act.put]
              refine mt_take 14 _ ?_ rfl rfl (some 12) rfl (fun w' hw' => ?hv14) ?_
              case hv14 =>
                go_simp
                with_reducible rfl
              simp only [Act.put, List.setIfInBounds_toArray, List.set_cons_zero, List.set_cons_succ]
              refine mt_done ?_
              have HGG : Hid (∀ y, y < x + 1 → GS (apS l) l.length count f list y = none) := Lib.hid (fun y hy => by
                by_cases e : y = x
                · rw [e, HGF.out, him]
                · exact HG.out y (by omega))
              have HC9 := Lib.hid hc9
              clear hc9 g109 him hg9 hb9 hk9 hz9 hg6 hc_w6 g10_w6 ow6 ho6 hback ow5 ho5 hg5 hb5
              go_wp2_with fail
              go_roundw
              case rel => exact ⟨x + 1, by omega, by go_num, HGG.out, HC9.out⟩
              case measure => simp [intOf]; omega
            · rename_i o
              rintro e w6 ⟨hg6, v6, rfl, ho6⟩
              obtain ⟨qa, qc, rfl, -, -⟩ := own_rdp ho6
              have hc_w6 := hc_w5.cg hg6 HOL.out (by rcases hb5 with h | h; exact .inl h; exact .inr ⟨_, h, hszA⟩)
              have g10_w6 := (hg6.block wq.heap.size (hp_lt g10_w5) (fun e => by
                rcases hb5 with h | h
                · have := HOL.out _ (h.symm.trans e.symm); omega
                · have e2 := e.trans h
                  simp only [Option.some.injEq] at e2
                  omega)).trans g10_w5
              have gN_w6 := (hg6.block wd.heap.size (hp_lt gN_w5) (fun e => own_nt o5_w5 gN_w5 (by decide) e.symm)).trans gN_w5
              refine ⟨_, rfl, ⟨hc_w6.h0, hc_w6.h1, g10_w6⟩, ?_⟩
              simp only [Act.put, List.setIfInBounds_toArray, List.set_cons_zero, List.set_cons_succ]
              refine mt_take 9 _ ?_ rfl rfl (some 38) rfl (fun w' hw' => ?hv9) ?_
              case hv9 =>
                go_simp
                with_reducible rfl
              simp only [Act.put, List.setIfInBounds_toArray, List.set_cons_zero, List.set_cons_succ]
              refine mt_take 10 _ ?_ rfl rfl (some 48) rfl (fun w' hw' => ?hv10) ?_
              case hv10 =>
                go_simp
                with_reducible rfl
              simp only [Act.put, List.setIfInBounds_toArray, List.set_cons_zero, List.set_cons_succ]
              refine mt_take 11 _ ?_ rfl rfl (some 49) rfl (fun w' hw' => ?hv11) ?_
              case hv11 =>
                go_simp
                with_reducible rfl
              simp only [Act.put, List.setIfInBounds_toArray, List.set_cons_zero, List.set_cons_succ]
              refine mt_store_blk blkCol 13 _ rfl rfl _ _ rfl none rfl wd.heap.size #[.slice qa o.length qc] #[.slice none 0 0] rfl rfl gN_w6 rfl rfl (by simp [Value.oneCell']) (w.heap.size + 3) (by have := hc_wd.sz; omega) (fun w9 hg9 hb9 hk9 hz9 => ?_)
              have hc9 := hc_w6.put (g := wd.heap.size) (by have := hc_wd.sz; omega) ⟨hb9.os, hb9.tape, hb9.output⟩ hz9 hk9
              have g109 := (hk9 wq.heap.size (by have := hp_lt g10_wd; omega)).trans g10_w6
              have ho9 := own_blk ho6 (fun k hk => hk9 k (fun e => own_nt ho6 gN_w6 (by decide) (by rw [hk, e])))
              refine ⟨⟨hc9.h0, hc9.h1, g109⟩, ?_⟩
              simp only [Act.put]
              refine mt_take 14 _ ?_ rfl rfl (some 12) rfl (fun w' hw' => ?hv14) ?_
              case hv14 =>
                go_simp
                with_reducible rfl
              simp only [Act.put, List.setIfInBounds_toArray, List.set_cons_zero, List.set_cons_succ]
              refine mt_done ?_
              have HR : Hid (impS (apS l) l.length count (f + 1) list = some o) := Lib.hid (HHIT.out x o hxc (fun y hy => by rw [← HGD.out]; exact HG.out y hy) HFB.out him)
              have y0 : w9.cell? ⟨wd.heap.size, 0, none⟩ = some (.slice qa o.length qc) := blk_cell hg9 0 _ rfl
              have y1 : w9.cell? ⟨w.heap.size + 2, 0, none⟩ = some (.slice none 0 0) := blk_cell hc9.h2 0 _ rfl
              have y2 := hp_froz hc9.h2 0
              obtain ⟨z2, z3⟩ := hc9.set2 (.slice qa o.length qc)
              have Z1 := Lib.hid (own_set (u := .slice qa o.length qc) ho9 hc9.h2)
              have Z2 := Lib.hid z2
              have Z3 := Lib.hid z3
              clear hc9 g109 him hg9 hb9 hk9 hz9 hg6 hc_w6 g10_w6 ho6 hback ow5 ho5 hg5 hb5 z2 z3 ho9
              go_wp2_with fail
              rw [HR.out]
              exact bodyPost_ret (results_blk blkCol rfl _ _ (w.heap.size + 2) _ _ rfl rfl Z2.out rfl) rfl ⟨Z3.out, _, rfl, Z1.out⟩
      · have HR : Hid (impS (apS l) l.length count (f + 1) list = none) := Lib.hid (HALL.out (fun y hy => by rw [← HGD.out]; exact HG.out y (by omega)))
        have e2 : wq.cell? ⟨w.heap.size + 2, 0, none⟩ = some (.slice none 0 0) := blk_cell hc.g2 0 _ rfl
        have f2 := hp_froz hc.g2 0
        obtain ⟨z1, z2, z3⟩ := hc.set2 (.slice none 0 0)
        have Z1 := Lib.hid z1
        have Z2 := Lib.hid z2
        have Z3 := Lib.hid z3
        clear hc z1 z2 z3
        go_wp2_with fail
        rw [HR.out]
        exact bodyPost_ret (results_blk blkCol rfl _ _ (w.heap.size + 2) _ _ rfl rfl Z2.out rfl) rfl ⟨Z3.out, rfl, Z1.out⟩
end Go.Proofs.Ytjohjiknngagiaa
