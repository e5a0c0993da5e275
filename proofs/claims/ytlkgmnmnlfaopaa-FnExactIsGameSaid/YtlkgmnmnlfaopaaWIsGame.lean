import Derived.Test.YtlkgmnmnlfaopaaVIsGame
import Derived.Test.YtlkgmnmnlfaopaaQ8
namespace Go.Proofs.Ytlkgmnmnlfaopaa
open Go.RowKit
set_option maxRecDepth 4000
set_option maxHeartbeats 400000 in
theorem specIsGame (gr gc : List (List Int)) (ar ac : Option Addr) (cr cc : Nat) (w : World) (hr : RdSS w w.heap.size ar gr) (hc : RdSS w w.heap.size ac gc) :
    Calls Try.prog 16 #[.agg #[.slice ar gr.length cr, .slice ac gc.length cc]] w (OutIsGame w (gameB gr gc)) := by
  obtain ⟨w1, hw1⟩ : ∃ w1, w1 = (w.alloc (.cells #[.slice ar gr.length cr, .slice ac gc.length cc] 27)) := ⟨_, rfl⟩
  have hb : Below w.heap.size w w1 := by rw [hw1]; exact balloc (Below.refl w.heap.size w) _
  have HG := Lib.hid (gmGood_any gr gc ar ac cr cc w.heap.size w1 (rdss_chg hr (chg_below hb) (Nat.le_refl _) (.inr rfl)) (rdss_chg hc (chg_below hb) (Nat.le_refl _) (.inr rfl)) hb.size)
  have HW := Lib.hid hw1
  clear hr hc hw1
  go_enter Try.func16, Try.ntmps16
  go_wp2_with fail
  rw [← HW.out]
  refine HG.out.mono ?_
  rintro e w2 ⟨rfl, hb2⟩
  go_wp2_with fail
  go_ret
  exact ⟨rfl, bnext hb hb2⟩
theorem implIsGame (gr gc : List (List Int)) (ar ac : Option Addr) (cr cc : Nat) (w : World) (hr : RdSS w w.heap.size ar gr) (hc : RdSS w w.heap.size ac gc) :
    Calls Try.prog 18 #[.agg #[.slice ar gr.length cr, .slice ac gc.length cc]] w (OutIsGame w (gameB gr gc)) :=
  isGame_any gr gc ar ac cr cc _ w hr hc (Nat.le_refl _)
theorem law_IsGame (w : World) (gr : List (List Int)) (a_gr : Option Addr) (c_gr : Nat) (gc : List (List Int)) (a_gc : Option Addr) (c_gc : Nat) (h_gr : RdSS w w.heap.size a_gr gr) (h_gc : RdSS w w.heap.size a_gc gc) :
    Calls Try.prog 3 #[.agg #[.slice a_gr gr.length c_gr, .slice a_gc gc.length c_gc]] w fun e w' => e = .returned (.bool true) ∧ Below w.heap.size w w' := by
  exact lawOf_IsGame gr a_gr c_gr gc a_gc c_gc w h_gr h_gc _ (fun a c a' c' w' _ _ h h' => specIsGame gr gc a a' c c' w' h h') (fun a c a' c' w' _ _ h h' => implIsGame gr gc a a' c c' w' h h')
end Go.Proofs.Ytlkgmnmnlfaopaa
