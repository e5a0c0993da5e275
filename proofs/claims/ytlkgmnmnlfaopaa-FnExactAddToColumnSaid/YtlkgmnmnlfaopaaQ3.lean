import Derived.LoopN
import Derived.BigRegion
import Derived.BigQuiet
import Derived.Test.YtlkgmnmnlfaopaaS0
import Derived.Test.YtlkgmnmnlfaopaaS0b
namespace Go.Proofs.Ytlkgmnmnlfaopaa
open Go.RowKit
set_option maxRecDepth 4000
theorem hp_later {w w' : World} {g : Nat} {o : Obj} (h : w.heap[g]? = some o) (hb : Below w.heap.size w w') : w'.heap[g]? = some o := (hb.block g (Array.getElem?_eq_some_iff.1 h).1).trans h
theorem rdss_sam {w w' : World} {B : Nat} {a : Option Addr} {cs : List (List Int)} (h : RdSS w B a cs) (hs : Same w w') : RdSS w' B a cs := by
  obtain ⟨hm, b, off, h⟩ := h
  refine ⟨hm, b, off, fun k hk => ?_⟩
  obtain ⟨ha, hb, ra, rc, hc, hr⟩ := h k hk
  exact ⟨ha, hb, ra, rc, (hs.cell _).trans hc, rds_same hr hs⟩
set_option maxHeartbeats 1600000 in
theorem szGame_any (gr gc : List (List Int)) (ar ac : Option Addr) (cr cc B : Nat) (l0 : Int) (hl0 : 0 ≤ l0) (hl1 : l0 ≤ 1048576) (w : World) (hr : RdSS w B ar gr) (hc : RdSS w B ac gc) (hB : B ≤ w.heap.size) :
    Calls Try.prog 15 #[.agg #[.slice ar gr.length cr, .slice ac gc.length cc], .int .i64 l0] w fun e w' => ∃ r, e = .returned (.int .i64 r) ∧ Below w.heap.size w w' ∧ (r < 0 ∨ (0 ≤ r ∧ r ≤ 1048576 ∧ SmallSS gr ∧ SmallSS gc)) := by
  have hb := balloc (Below.refl w.heap.size w) (.cells #[.slice ar gr.length cr, .slice ac gc.length cc] 24)
  have hch := chg_below hb
  have hr1 := rdss_chg hr hch hB (.inr rfl)
  have hc1 := rdss_chg hc hch hB (.inr rfl)
  have hg := heap_alloc_new w (.cells #[.slice ar gr.length cr, .slice ac gc.length cc] 24)
  have c0 := blk_cell hg 0 _ rfl
  have c1 := blk_cell hg 1 _ rfl
  have HR := Lib.hid hr1
  have HC := Lib.hid hc1
  clear hr hc hr1 hc1 hg hch
  go_enter Try.func15, Try.ntmps15
  go_wp2_with fail
  refine (szIntSS_any gr ar cr B l0 hl0 hl1 _ HR.out).mono ?_
  rintro e w' ⟨r, rfl, rfl, hx⟩
  rcases hx with hx | ⟨h0, h1, hs1⟩
  · go_wp2_with fail
    go_ret
    exact ⟨_, rfl, hb, .inl (by omega)⟩
  · go_wp2_with fail
    refine (szIntSS_any gc ac cc B r h0 h1 _ HC.out).mono ?_
    rintro e w' ⟨r', rfl, rfl, hx⟩
    rcases hx with hx | ⟨h0', h1', hs2⟩
    · go_wp2_with fail
      go_ret
      exact ⟨_, rfl, hb, .inl (by omega)⟩
    · go_wp2_with fail
      go_ret
      exact ⟨_, rfl, hb, .inr ⟨h0', h1', hs1, hs2⟩⟩
set_option maxHeartbeats 1600000 in
theorem eqGame_rd (gr gc : List (List Int)) (ar ac ar' ac' : Option Addr) (B B' C C' cr cc cr' cc' : Nat) (w : World) (hr : RdSS w B ar gr) (hc : RdSS w C ac gc) (hr' : RdSS w B' ar' gr) (hc' : RdSS w C' ac' gc)
    (hB : B ≤ w.heap.size) (hB' : B' ≤ w.heap.size) (hC : C ≤ w.heap.size) (hC' : C' ≤ w.heap.size) :
    Calls Try.prog 19 #[.agg #[.slice ar gr.length cr, .slice ac gc.length cc], .agg #[.slice ar' gr.length cr', .slice ac' gc.length cc']] w fun e w' => e = .returned (.bool true) ∧ Below w.heap.size w w' := by
  obtain ⟨w1, hw1⟩ : ∃ w1, w1 = (w.alloc (.cells #[.slice ar gr.length cr, .slice ac gc.length cc] 27)) := ⟨_, rfl⟩
  obtain ⟨w2, hw2⟩ : ∃ w2, w2 = (w1.alloc (.cells #[.slice ar' gr.length cr', .slice ac' gc.length cc'] 27)) := ⟨_, rfl⟩
  have hb1 : Below w.heap.size w w1 := by rw [hw1]; exact balloc (Below.refl w.heap.size w) _
  have hb2 : Below w1.heap.size w1 w2 := by rw [hw2]; exact balloc (Below.refl w1.heap.size w1) _
  have hz1 : w1.heap.size = w.heap.size + 1 := by rw [hw1]; simp
  have hb := bnext hb1 hb2
  have hch := chg_below hb
  have HR := Lib.hid (rdss_chg hr hch hB (.inr rfl))
  have HC := Lib.hid (rdss_chg hc hch hC (.inr rfl))
  have HR' := Lib.hid (rdss_chg hr' hch hB' (.inr rfl))
  have HC' := Lib.hid (rdss_chg hc' hch hC' (.inr rfl))
  have g1 : w1.heap[w.heap.size]? = some (.cells #[.slice ar gr.length cr, .slice ac gc.length cc] 27 (0, 0)) := by rw [hw1]; exact heap_alloc_new w _
  have g1 := hp_later g1 hb2
  have g2 : w2.heap[w.heap.size + 1]? = some (.cells #[.slice ar' gr.length cr', .slice ac' gc.length cc'] 27 (0, 0)) := by rw [hw2, ← hz1]; exact heap_alloc_new w1 _
  have c0 := blk_cell g1 0 _ rfl
  have c1 := blk_cell g1 1 _ rfl
  have d0 := blk_cell g2 0 _ rfl
  have d1 := blk_cell g2 1 _ rfl
  clear hr hc hr' hc' hch g1 g2 hb1 hb2 hz1
  subst hw1
  subst hw2
  go_enter Try.func19, Try.ntmps19
  go_wp2_with fail
  refine (eqIntSS_rd gr ar ar' B B' cr cr' _ HR.out HR'.out).mono ?_
  rintro e w3 ⟨rfl, hs⟩
  have c1 := (hs.cell _).trans c1
  have d1 := (hs.cell _).trans d1
  have HK := Lib.hid (rdss_sam HC.out hs)
  have HK' := Lib.hid (rdss_sam HC'.out hs)
  have hb3 := hb.trans (hs _)
  go_wp2_with fail
  refine (eqIntSS_rd gc ac ac' C C' cc cc' _ HK.out HK'.out).mono ?_
  rintro e w4 ⟨rfl, hs2⟩
  go_wp2_with fail
  go_ret
  exact ⟨rfl, hb3.trans (hs2 _)⟩
end Go.Proofs.Ytlkgmnmnlfaopaa
