import Derived.Test.YtelchpdlfedleaaZf
namespace Go.Proofs.Ytelchpdlfedleaa
open Go.RowKit
set_option maxRecDepth 4000
/-- Rooms as the program keeps them: the cells, the pairs along the border, and the function that is asked for doors. -/
def RmsV (w : World) (base : Nat) (cs : List (List Int)) (ps : List (Int × Int)) (fv : Value) (r : Array Value) : Prop :=
  ∃ ca cc ba bc, r = #[.slice ca cs.length cc, .slice ba ps.length bc, fv] ∧ TrioV w base (.slice ca cs.length cc) cs ∧ PairV w base (.slice ba ps.length bc) ps
theorem rms_now {w w' : World} {base : Nat} {cs : List (List Int)} {ps : List (Int × Int)} {fv : Value} {r : Array Value} (h : RmsV w base cs ps fv r) (hb : Below w.heap.size w w') : RmsV w' base cs ps fv r := by
  obtain ⟨ca, cc, ba, bc, h1, h2, h3⟩ := h
  exact ⟨ca, cc, ba, bc, h1, trio_now h2 hb, pairs_now h3 hb⟩
theorem asks_later {F : FuncId} {first caps : Array Value} {d : Int × Int → Bool} {w w' : World} {ps : List (Int × Int)} (h : Asks F first caps d w ps) (hb : Below w.heap.size w w') : Asks F first caps d w' ps :=
  fun W hW k hk => h W (hb.trans (hW.mono hb.size)) k hk
set_option maxHeartbeats 1600000 in
theorem borderDoors_any (F : FuncId) (first caps : Array Value) (d : Int × Int → Bool) (base : Nat) (cs : List (List Int)) (ps : List (Int × Int)) (r : Array Value) (w : World) (hcf : ∀ (args : Array Value) (w : World), (callFunc F args).run Try.prog w = .ok (.enter F args) w)
    (hf : Asks F first caps d w ps) (hr : RmsV w base cs ps (.func (.func F) first caps) r) (hlen : ps.length ≤ 100000) :
    Calls Try.prog 129 #[.agg r] w fun e w' => ∃ v, e = .returned v ∧ PairV w' w.heap.size v (ps.filter d) ∧ Below w.heap.size w w' := by
  obtain ⟨ca, cc, ba, bc, rfl, -, hp⟩ := hr
  obtain ⟨a', cap', b', hv, hrd⟩ := pair_shape hp
  simp only [Value.slice.injEq, true_and] at hv
  obtain ⟨rfl, rfl⟩ := hv
  have HF := Lib.hid hf
  have HR := Lib.hid hrd
  have HC := Lib.hid hcf
  have hb0 := balloc (Below.refl w.heap.size w) (.cells #[.slice ca cs.length cc, .slice ba ps.length bc, .func (.func F) first caps] 115)
  clear hf hrd hcf hp
  go_enter Try.func129, Try.ntmps129
  go_wp2_with fail
  refine (among_any F first caps d ps _ _ _ _ HC.out (asks_later HF.out hb0) (HR.out.later hb0) hlen).mono ?_
  rintro e w2 ⟨v, rfl, hp2, hb2⟩
  obtain ⟨sa, sc, sb, rfl, -⟩ := pair_shape hp2
  go_wp2_with fail
  go_ret
  exact ⟨_, rfl, own_lo hp2 hb0.size, bnext hb0 hb2⟩
theorem blkRms : Blk 115 3 := ⟨.inl ⟨_, Try.underlying115⟩, by kernel_rfl⟩
def rms0 : Array Value := #[.slice none 0 0, .slice none 0 0, .nilFunc]
theorem rms0_one : rms0.all (·.oneCell') = true := by decide +kernel
theorem run_alloc_rms (w : World) : (Instr.alloc 115 true (.tuple #[])).run Try.prog w = .ok (.pointer (some ⟨w.heap.size, 0, none⟩)) (w.alloc (.cells rms0 115)) := by kernel_rfl
end Go.Proofs.Ytelchpdlfedleaa
