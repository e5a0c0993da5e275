import Derived.Test.YtjohjiknngagiaaK19
namespace Go.Proofs.Ytjohjiknngagiaa
open Go.RowKit
set_option maxRecDepth 4000
theorem own_cap {w : World} {base et n m cap : Nat} {a : Option Addr} {vs : List Value} (h : w.ownsRow base et 2 (.slice a n cap) m vs) : m ≤ cap ∧ cap ≤ maxLen := by
  obtain ⟨h1, h2⟩ := h
  rcases h2 with ⟨hv, h0⟩ | ⟨g, cap', cur, hv, hg, hh, hc, hm, -⟩
  · simp only [Value.slice.injEq] at hv
    obtain ⟨-, -, rfl⟩ := hv
    exact ⟨by omega, by simp [maxLen]⟩
  · simp only [Value.slice.injEq] at hv
    obtain ⟨-, -, rfl⟩ := hv
    exact ⟨hc, hm⟩
def negB (cs : List Int) (j : Nat) : Bool := decide (cs.getD j 0 < 0)
set_option maxHeartbeats 1600000 in
theorem isRight_any (l : List Nat) (cs : List Int) (hls : ∀ s ∈ l, s < 256) (hlen : l.length ≤ 256) (r : Option (Nat × Nat)) (hr : ResOf (clS l cs) l.length r) (a : Option Addr) (cap : Nat) (w : World) (h : RdP w w.heap.size a l cs l.length) (hcap : l.length ≤ cap) (hcm : cap ≤ maxLen) :
    Calls Try.prog 46 #[.agg #[.slice a l.length cap]] w fun e w' => e = .returned (.bool (!r.isSome && !anyB (negB cs) l.length)) ∧ Below w.heap.size w w' := by
  have hb := balloc (Below.refl w.heap.size w) (.cells #[.slice a l.length cap] 66)
  have g0 := heap_alloc_new w (.cells #[.slice a l.length cap] 66)
  have hg0 := hp_lt g0
  have c0 : (w.alloc (.cells #[.slice a l.length cap] 66)).cell? ⟨w.heap.size, 0, none⟩ = some (.slice a l.length cap) := blk_cell g0 0 _ rfl
  have HF := Lib.hid (firstClash_any l cs hls hlen r hr a cap _ (rdp_mono (rdp_bel h hb) hb.size) hcap hcm)
  have HN := Lib.hid (fun w' (hb' : Below w.heap.size w w') => cntF0_any l cs l.length (by omega) (negB cs) 68 callNeg a cap w.heap.size w' (rdp_bel h hb') hb'.size (fun j _ w'' _ => isNeg_any _ _ w''))
  obtain ⟨w1, hw1⟩ : ∃ w1, w1 = w.alloc (.cells #[.slice a l.length cap] 66) := ⟨_, rfl⟩
  rw [← hw1] at hb g0 hg0 c0 HF
  have HW := Lib.hid hw1
  have HG := Lib.hid g0
  clear h hr hw1 g0
  generalize anyB (negB cs) l.length = q at *
  cases hrs : r.isSome
  · rw [hrs] at HF
    clear hrs
    go_enter Try.func46, Try.ntmps46
    go_wp2_with fail
    rw [← HW.out]
    refine HF.out.mono ?_
    rintro e w2 ⟨v, rfl, ho, hb2⟩
    have G2 := hp_keep HG.out hb2 hg0
    have c2 : w2.cell? ⟨w.heap.size, 0, none⟩ = some (.slice a l.length cap) := blk_cell G2 0 _ rfl
    have hB2 := bnext hb hb2
    have hz2 := hB2.size
    clear ho G2 c0
    go_wp2_with fail
    refine (HN.out _ hB2).mono ?_
    rintro e w3 ⟨rfl, hb3⟩
    go_wp2_with fail
    go_ret
    exact ⟨ret_bool (by simp), hB2.trans (hb3.mono hz2)⟩
  · rw [hrs] at HF
    clear hrs
    go_enter Try.func46, Try.ntmps46
    go_wp2_with fail
    rw [← HW.out]
    refine HF.out.mono ?_
    rintro e w2 ⟨v, rfl, ho, hb2⟩
    have hB2 := bnext hb hb2
    clear ho c0
    go_wp2_with fail
    go_ret
    exact ⟨ret_bool (by simp), hB2⟩
end Go.Proofs.Ytjohjiknngagiaa
