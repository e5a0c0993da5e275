/- the tied card of laws.FnExactColoursOf: it returns true for all arguments, and what the arguments hold is unchanged. No condition. -/
import Derived.Test.YtfhohmahckjpeaaDoorRows
import Derived.Test.YtfhohmahckjpeaaDoorWColoursOf
import Derived.WalkKit
import Derived.ProofKit
import Derived.OpenShut
import Derived.ShutString
import Derived.ChangeOld
import Derived.Below
import Derived.Test.YtfhohmahckjpeaaDoorZk
import Derived.Test.YtfhohmahckjpeaaDoorL3
import Derived.Test.YtfhohmahckjpeaaDoorTie
import Derived.Test.YtfhohmahckjpeaaDoorCards
import Derived.LaidMore
import Derived.LaidOnce
import Derived.OpenVars
import Derived.SevenTiedAt
namespace Go.Proofs.YtfhohmahckjpeaaDoor.pFnExactColoursOf
open Go.ChangeShapes Go.WideShapes Go.ChangeAt Go.RowKit
open Go.ChangeMaps (open_string shut_string)
set_option linter.unusedVariables false
theorem own : ownKnob Tryd.prog.godebug = none := by kernel_rfl
theorem laidOut : laidOutB Tryd.prog = true := by kernel_rfl
theorem gVar : Tryd.prog.globalNamed "math/bits.deBruijn64tab" = some 1 := by kernel_rfl
theorem tVar : (Tryd.prog.globals[1]?).map (·.type) = some 50 := by kernel_rfl
theorem of_laid {W : World} (h : laidMetH Tryd.prog Rows.fnExactColoursOfRow.laid W) : DbV W := by
  rw [MakeChecks.laidMetH_plain _ _ _ (by kernel_rfl)] at h
  obtain ⟨ps, ⟨g0, t0, cs0, f0, p0, q0, hg0, ht0, hv0, hd0, ⟨g1, t1, cs1, f1, p1, q1, hg1, ht1, hv1, hd1, _⟩, _⟩, _, _⟩ := h
  obtain rfl := Option.some.inj (gVar.symm.trans hg1)
  obtain rfl := Option.some.inj (tVar.symm.trans ht1)
  have hp := open_bytes Tryd.underlying50 Tryd.underlying5 (by kernel_rfl) hd1
  have hc := fun k => World.var?_cell hg1 hv1 k
  have row : ∀ i, i < 64 → cs1[i]? = some (.int .u8 (dbT.getD i 0 : Nat)) := by
    intro i hi
    have := hp i hi (dbT.getD i 0 : Nat) (by match i, hi with | 0, _ => exact rfl | 1, _ => exact rfl | 2, _ => exact rfl | 3, _ => exact rfl | 4, _ => exact rfl | 5, _ => exact rfl | 6, _ => exact rfl | 7, _ => exact rfl | 8, _ => exact rfl | 9, _ => exact rfl | 10, _ => exact rfl | 11, _ => exact rfl | 12, _ => exact rfl | 13, _ => exact rfl | 14, _ => exact rfl | 15, _ => exact rfl | 16, _ => exact rfl | 17, _ => exact rfl | 18, _ => exact rfl | 19, _ => exact rfl | 20, _ => exact rfl | 21, _ => exact rfl | 22, _ => exact rfl | 23, _ => exact rfl | 24, _ => exact rfl | 25, _ => exact rfl | 26, _ => exact rfl | 27, _ => exact rfl | 28, _ => exact rfl | 29, _ => exact rfl | 30, _ => exact rfl | 31, _ => exact rfl | 32, _ => exact rfl | 33, _ => exact rfl | 34, _ => exact rfl | 35, _ => exact rfl | 36, _ => exact rfl | 37, _ => exact rfl | 38, _ => exact rfl | 39, _ => exact rfl | 40, _ => exact rfl | 41, _ => exact rfl | 42, _ => exact rfl | 43, _ => exact rfl | 44, _ => exact rfl | 45, _ => exact rfl | 46, _ => exact rfl | 47, _ => exact rfl | 48, _ => exact rfl | 49, _ => exact rfl | 50, _ => exact rfl | 51, _ => exact rfl | 52, _ => exact rfl | 53, _ => exact rfl | 54, _ => exact rfl | 55, _ => exact rfl | 56, _ => exact rfl | 57, _ => exact rfl | 58, _ => exact rfl | 59, _ => exact rfl | 60, _ => exact rfl | 61, _ => exact rfl | 62, _ => exact rfl | 63, _ => exact rfl | q + 64, hi => omega)
    simpa only [Array.getElem?_toList] using this
  refine ⟨fun j hj => (hc j).trans (row j hj), ?_⟩
  have e := (hc 0).trans (row 0 (by omega))
  unfold World.cell? at e
  split at e
  · rename_i hb
    exact (Array.getElem?_eq_some_iff.1 hb).1
  · cases e
theorem door_met (os : Os) (args : Array Value) : laidMetH Tryd.prog Rows.fnExactColoursOfRow.laid ((World.doorLaid Tryd.prog 400 os).forCall (fun _ _ => 0) ⟨#[], args, []⟩).memory :=
  laidMetH_of_parts3 (fuel := 8) (laidMet_of_run' 8 (by kernel_rfl) (by kernel_rfl)) (by kernel_rfl) (by kernel_rfl)
set_option maxRecDepth 100000 in
theorem lifted (os : Os) (started : os.Started) (H : Type) (enc : TypeId × Value → H) :
    ReturnsInHanded {} Tryd.checked os 3 .any (fun w args => (Rows.fnExactColoursOfSpec.pre enc Tryd.prog Tryd.f3 [] false w args ∧ laidMetH Tryd.prog Rows.fnExactColoursOfRow.laid w) ∧ sizedMet enc Tryd.prog Tryd.f3 (OpenSpec.ofChange Rows.fnExactColoursOfSpec) false w args)
      (Rows.fnExactColoursOfSpec.post enc Tryd.prog Tryd.f3 false true false false) := by
  refine returnsInHanded_of_change_and (C := Tryd.checked) (X := fun w _ => laidMetH Tryd.prog Rows.fnExactColoursOfRow.laid w) (fun _ _ _ hh h => h.of_heap hh) own started (by kernel_rfl) Tryd.func3
    (ChangeSpec.witness_shaped (enc := enc) (C := Tryd.checked) (os := os) (X := fun w _ => laidMetH Tryd.prog Rows.fnExactColoursOfRow.laid w) false (World.doorLaid Tryd.prog 400 os) #[.int .i64 0, .int .i64 0] 8 rfl (World.shaped_of_RefB (by kernel_rfl) (by kernel_rfl)) (by kernel_rfl) (by kernel_rfl) (by kernel_rfl) (door_met os _)) ?_
  intro W base args ds gs before hval0 hW _ _ hL _
  have hval : ∀ (j : Nat) t v, Tryd.f3.params[j]? = some t → args[j]? = some v → Value.okWide Tryd.prog W .any base t v := hval0
  have hW' := hW
  obtain ⟨p, q, hA0, hV, rfl, hfz, hnd⟩ := hW
  have hA : DataW.TrodAll enc Tryd.prog W 0 (fun _ => true) true Tryd.f3.params.toList args.toList ds p := hA0
  rw [Tryd.params3] at hA hval
  obtain ⟨v0, vs0, d0, ds0, p0, q0, hargs, rfl, rfl, h0, r0⟩ := trodAll_cons hA
  obtain ⟨v1, vs1, d1, ds1, p1, q1, rfl, rfl, rfl, h1, r1⟩ := trodAll_cons r0
  obtain ⟨rfl, rfl, rfl⟩ := trodAll_nil r1
  obtain rfl : args = #[v0, v1] := by cases args; simp_all
  obtain ⟨rfl, rfl⟩ := trodVars_none hV
  obtain ⟨a0, rfl, rfl, rfl, w0⟩ := open_int Tryd.underlying3 (hval 0 3 v0 rfl rfl) h0
  obtain ⟨a1, rfl, rfl, rfl, w1⟩ := open_int Tryd.underlying3 (hval 1 3 v1 rfl rfl) h1
  clear hA0 hval0
  refine (law_ColoursOf W a0 w0 a1 w1 (of_laid hL)).mono fun e W' ⟨he, bel⟩ => ?_
  subst he
  exact ⟨_, rfl, _, _, _, [], _, [], hW', trodAll_mk1 (shut_bool Tryd.underlying4 _), (trodAll_cons_mk (shut_int Tryd.underlying3 w0) (trodAll_cons_mk (shut_int Tryd.underlying3 w1) trodAll_mk0)), rfl, bel.frame _, fun h => by cases h⟩
theorem over : Rows.fnExactColoursOfRow.holds Tryd.pinned (OpenSpec.ofChange Rows.fnExactColoursOfSpec) :=
  OpenClaim.holds_of_wide 3 Tryd.f3 rfl rfl rfl rfl rfl rfl rfl ⟨rfl, rfl, rfl, rfl, rfl⟩ rfl rfl rfl rfl rfl (by kernel_rfl) Tryd.func3 (by kernel_rfl)
    (of_decide_eq_true (by kernel_rfl)) (by unfold Func.isWrapper; first | (rw [if_pos (by decide +kernel)]; kernel_rfl) | (rw [if_neg (by decide +kernel)]; exact ⟨rfl, rfl⟩))
    (fun os started H enc _ => lifted os started H enc)
theorem proved : Rows.FnExactColoursOfCardSaid :=
  Claim7.holds_tied_plain_at .later [] [.data, .data] true Rows.fnExactColoursOfCard.stood.harness false
    over (fun _ h => by cases h) (by kernel_rfl) (fun _ h => by cases h) fnExactColoursOf_row_tie rfl ⟨rfl, rfl⟩ (by kernel_rfl) rfl
    (fun f fn hf hfn => by
      obtain rfl : f = 3 := Option.some.inj ((show Tryd.prog.funcNamed "loop.example/g01160/laws.FnExactColoursOf" = some 3 by kernel_rfl).symm.trans hf) |>.symm
      obtain rfl : fn = Tryd.f3 := (Option.some.inj (Tryd.func3.symm.trans hfn)).symm
      exact ⟨by kernel_rfl, fun j t ht => by
        rw [Tryd.params3] at ht
        have hm : t ∈ [3, 3] := by simpa using Array.mem_of_getElem? ht
        have hall : ([3, 3].all fun u => !Tryd.prog.wantsStandIn u) = true := by kernel_rfl
        exact (show Tryd.prog.wantsStandIn t = false by simpa using List.all_eq_true.1 hall t hm)⟩)
    (by kernel_rfl)
end Go.Proofs.YtfhohmahckjpeaaDoor.pFnExactColoursOf
