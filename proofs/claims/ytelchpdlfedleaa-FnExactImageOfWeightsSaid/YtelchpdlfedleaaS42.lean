import Derived.LoopN
import Derived.BigRegion
import Derived.RegionTactic
import Derived.Test.YtelchpdlfedleaaS41
import Derived.Test.YtelchpdlfedleaaWSp
namespace Go.Proofs.Ytelchpdlfedleaa
open Go.RowKit
set_option maxRecDepth 4000
/-- Rows of the caller's, listed in a slice of the call's own. -/
def PtsV (wi w : World) (base : Nat) (v : Value) (cs : List (List Int)) : Prop :=
  ∃ vs : List Value, w.ownsRow base 27 1 v cs.length vs ∧ ∀ k, k < cs.length → ∃ ra rc, vs.getD k undef = .slice ra (cs.getD k []).length rc ∧ RdS wi wi.heap.size ra (cs.getD k [])
theorem pts_nil (wi w : World) (base : Nat) : PtsV wi w base (.slice none 0 0) [] := ⟨[], World.ownsRow_nil _ _ _ _, fun k hk => by simp at hk⟩
theorem pts_shape {wi w : World} {base : Nat} {v : Value} {cs : List (List Int)} (h : PtsV wi w base v cs) (hb : Below wi.heap.size wi w) : ∃ a cap, v = .slice a cs.length cap ∧ RdSS w w.heap.size a cs := by
  obtain ⟨vs, hrow, hp⟩ := h
  obtain ⟨h1, hx⟩ := id hrow
  have hvl : vs.length = cs.length := by simpa using h1
  rcases hx with ⟨rfl, h0⟩ | ⟨g, cap, cur, rfl, hg, hh, hc, hm, hs, ht⟩
  · exact ⟨none, 0, by rw [h0], by unfold maxLen; omega, 0, 0, fun k hk => by omega⟩
  · refine ⟨_, cap, rfl, Nat.le_trans hc hm, g, 0, fun k hk => ?_⟩
    obtain ⟨ra, rc, e, hr⟩ := hp k hk
    refine ⟨rfl, (Array.getElem?_eq_some_iff.1 hh).1, ra, rc, ?_, rds_mono (rds_later hr hb) hb.size⟩
    rw [Nat.zero_add, cell_of_row w g k cur _ (0, 0) hh]
    have e2 : (cur.toList.take (cs.length * 1))[k]? = vs[k]? := by rw [ht]
    rw [List.getElem?_take, if_pos (by omega)] at e2
    rw [← Array.getElem?_toList, e2, ← e, List.getD_eq_getElem?_getD, List.getElem?_eq_getElem (by omega)]
    rfl
section
variable {ops : Array Oper} {rest : List Oper} {o : Oper} {a : Act} {Q : Exit → Act → World → Prop}
theorem append_pt (base g : Nat) (wi w0 : World) (v u : Value) (cs : List (List Int)) (c : List Int) (ra : Option Addr) (rc : Nat)
    (hgd : o.guard = none) (s y : Operand) (ho : o.op = .call { callee := .builtin .append, args := #[s, y], argTypes := #[22, 22] })
    (hs : a.eval s = v) (hx : a.eval y = .slice (some ⟨g, 0, none⟩) 1 1) (hg : g = w0.heap.size)
    (hp : PtsV wi w0 base v cs) (hu : u = .slice ra c.length rc) (hr : RdS wi wi.heap.size ra c) (hbase : base ≤ w0.heap.size) (hlen : cs.length < 1000000000) (hu1 : u.oneCell' = true)
    (h : ∀ v' w', PtsV wi w' base v' (cs ++ [c]) → Below base w0 w' → wpList Try.prog ops Q rest (a.put o.dst v') w') :
    wpList Try.prog ops Q (o :: rest) a (w0.alloc (.cells #[u] 27)) := by
  subst hg
  obtain ⟨vs, h1, h2⟩ := hp
  have hvl : vs.length = cs.length := by simpa using h1.1
  obtain ⟨i0, hi, hz0, hz1, hz2⟩ := info_parts rowsInfo
  refine wpList_append_own _ hgd s y 22 ho base 27 i0 (.slice none 0 0) 1 24 Try.underlying22 hi hz0 hz1 hz2 rfl (by decide) v cs.length _ hs (h1.alloc _) ⟨w0.heap.size, 0, none⟩ 1 1 [u] hx rfl ?_ ?_ ?_ ?_ ?_ ?_
  · intro j x hj
    match j, hj with
    | 0, hj =>
      simp at hj; subst hj
      simp only [Addr.add, if_pos]
      rw [World.cell?_alloc_at _ _ _ _ rfl]; rfl
  · intro x hx'; simp at hx'; subst hx'; exact hu1
  · unfold maxLen; omega
  · omega
  · simp; omega
  · intro v' w1 hown' hgrow _
    refine h v' w1 ⟨vs ++ [u], by simpa using hown', fun k hk => ?_⟩ ?_
    · by_cases hk2 : k < cs.length
      · have e1 : (vs ++ [u]).getD k undef = vs.getD k undef := by simp [List.getD, List.getElem?_append, hvl, hk2]
        have e2 : (cs ++ [c]).getD k [] = cs.getD k [] := by simp [List.getD, List.getElem?_append, hk2]
        rw [e1, e2]
        exact h2 k hk2
      · have hk3 : k = cs.length := by simp at hk; omega
        subst hk3
        have e1 : (vs ++ [u]).getD cs.length undef = u := by simp [List.getD, ← hvl]
        have e2 : (cs ++ [c]).getD cs.length [] = c := by simp [List.getD]
        rw [e1, e2]
        exact ⟨ra, rc, hu, hr⟩
    · exact ((Below.refl base w0).alloc hbase _).grown hgrow (by simp; omega) (fun k hk => (h1.lt k hk).1)
end
set_option maxHeartbeats 1600000 in
theorem imageAt_any (n i : Nat) (hi : i < 21) (im : List (List Int)) (w : World) :
    Calls Try.prog 85 #[.agg (mapA n im), .int .i64 i] w fun e w' => e = .returned (.agg (spA3 (iq im i 0) (iq im i 1) (iq im i 2))) ∧ Below w.heap.size w w' := by
  have hi21 : (i : Int) < 21 := by omega
  have HC : Hid ((mapA n im)[1 + i * 3]? = some (.int .i64 (iq im i 0)) ∧ (mapA n im)[1 + i * 3 + 1]? = some (.int .i64 (iq im i 1)) ∧ (mapA n im)[1 + i * 3 + 2]? = some (.int .i64 (iq im i 2))) := Lib.hid ⟨mapA_at n im i 0 (by omega) (by omega), mapA_at n im i 1 (by omega) (by omega), mapA_at n im i 2 (by omega) (by omega)⟩
  have HV : Hid (∀ a b c, spA3 a b c = #[.int .i64 a, .int .i64 b, .int .i64 c]) := Lib.hid (fun _ _ _ => rfl)
  generalize mapA n im = fA at *
  rw [HV.out]
  generalize iq im i 0 = x0 at *
  generalize iq im i 1 = x1 at *
  generalize iq im i 2 = x2 at *
  obtain ⟨k0, k1, k2⟩ := HC.out
  go_enter Try.func85, Try.ntmps85
  go_wp2_with fail
  go_returns
  exact ⟨rfl, by go_grown⟩
end Go.Proofs.Ytelchpdlfedleaa
