import Derived.Test.YtjbdhgomcchoaaaPr
namespace Go.Proofs.Ytjbdhgomcchoaaa
open Go.RowKit
theorem made_rows (n : Nat) : (madeCells (Value.slice none 0 0).cells (n * 1)).toList = List.replicate n (Value.slice none 0 0) := by
  rw [Nat.mul_one]; exact toList_madeCells_one _ _
theorem made_rows' (n : Nat) : (madeCells (Value.slice none 0 0).cells n).toList = List.replicate n (Value.slice none 0 0) := toList_madeCells_one _ _
/-- Rows that were made and not yet laid. -/
theorem cells_made {w : World} {base n : Nat} {v : Value} (h : w.ownsRow base 28 1 v n (List.replicate n (.slice none 0 0))) : CellsV w base v (List.replicate n []) := by
  have e : ∀ k, k < n → (List.replicate n (Value.slice none 0 0)).getD k undef = .slice none 0 0 := fun k hk => by
    rw [List.getD_eq_getElem?_getD, List.getElem?_replicate, if_pos hk]; rfl
  refine ⟨List.replicate n (.slice none 0 0), by simpa using h, fun k hk => ?_, fun i j hij hj b hb => ?_⟩
  · rw [List.length_replicate] at hk
    rw [e k hk, show (List.replicate n ([] : List Int)).getD k [] = [] by rw [List.getD_eq_getElem?_getD, List.getElem?_replicate, if_pos hk]; rfl]
    exact World.ownsRow_nil _ _ _ _
  · rw [List.length_replicate] at hj
    rw [e i (by omega)] at hb
    simp [Value.ownBlock] at hb
/-- A new slice laid in a row's place. -/
theorem cells_put {w : World} {base n cap : Nat} {a : Option Addr} {cs : List (List Int)} (h : CellsV w base (.slice a n cap) cs) (k : Nat) (hk : k < cs.length) :
    ∃ g old, a = some ⟨g, 0, none⟩ ∧ base ≤ g ∧ g < w.heap.size ∧ w.cell? ⟨g, k, none⟩ = some old ∧ w.frozen? ⟨g, k, none⟩ = false ∧
      ∀ (w1 : World) (u : Value) (c : List Int), Below w.heap.size w w1 → w1.ownsRow w.heap.size 3 1 u c.length (c.map (Value.int .i64)) → CellsV (w1.setCell ⟨g, k, none⟩ u) base (.slice a n cap) (cs.set k c) := by
  obtain ⟨vs, hrow, h3, h4⟩ := h
  obtain ⟨h1, h2⟩ := id hrow
  have hvl : vs.length = cs.length := by simpa using h1
  rcases h2 with ⟨hv, h0⟩ | ⟨g, cap', cur, hv, hg, hh, hc, hm, hs, ht⟩
  · simp only [Value.slice.injEq] at hv
    omega
  · simp only [Value.slice.injEq] at hv
    obtain ⟨rfl, rfl, rfl⟩ := hv
    have hcl := hrow.cellAt k (by omega)
    have hkv : k < vs.length := by omega
    rw [List.getElem?_eq_getElem hkv] at hcl
    refine ⟨g, vs[k], rfl, hg, own_lt hrow g rfl, hcl, hrow.frozenAt k, fun w1 u c hb hu => ?_⟩
    have hgw : g < w.heap.size := own_lt hrow g rfl
    have hrow1 := own_now hrow hb
    have hst := (hrow1.stored k u).1
    have hne : ∀ k', k' ≠ g → (w1.setCell ⟨g, k, none⟩ u).heap[k']? = w1.heap[k']? := fun k' hk' => heap_setCell_other _ _ _ _ hk'
    have hge : ∀ i, i ≠ k → (vs.set k u).getD i undef = vs.getD i undef := fun i hi => by simp [List.getD, Ne.symm hi]
    have hgk : (vs.set k u).getD k undef = u := by simp [List.getD, hkv]
    have hce : ∀ i, i ≠ k → (cs.set k c).getD i [] = cs.getD i [] := fun i hi => by simp [List.getD, Ne.symm hi]
    have hck : (cs.set k c).getD k [] = c := by simp [List.getD, hk]
    have hub : ∀ b, u.ownBlock = some b → w.heap.size ≤ b := fun b hb' => (hu.lt b hb').1
    have hub2 : w1.ownsRow base 3 1 u c.length (c.map (Value.int .i64)) := ⟨hu.1, by
      rcases hu.2 with h | ⟨g', cap', cur', hv, hg', r⟩
      · exact .inl h
      · exact .inr ⟨g', cap', cur', hv, by omega, r⟩⟩
    refine ⟨vs.set k u, by rw [List.length_set]; exact hst, fun i hi => ?_, fun i j hij hj b hbi => ?_⟩
    · rw [List.length_set] at hi
      by_cases hik : i = k
      · subst hik
        rw [hgk, hck]
        exact own_keep hub2 (fun k' hk' => hne k' (by have := hub k' hk'; omega))
      · rw [hge i hik, hce i hik]
        refine own_keep (own_now (h3 i hi) hb) (fun k' hk' => hne k' (fun e => ?_))
        exact block_ne hrow (h3 i hi) k' hk' (by rw [e]; rfl)
    · rw [List.length_set] at hj
      by_cases hik : i = k
      · subst hik
        rw [hgk] at hbi
        rw [hge j (by omega)]
        intro hbj
        have := own_lt (h3 j hj) b hbj
        have := hub b hbi
        omega
      · rw [hge i hik] at hbi
        by_cases hjk : j = k
        · subst hjk
          rw [hgk]
          intro hbj
          have := own_lt (h3 i (by omega)) b hbi
          have := hub b hbj
          omega
        · rw [hge j hjk]
          exact h4 i j hij hj b hbi
def lst (p : Int × Int) : List Int := [p.1, p.2]
/-- The first k pairs as lists, and empty lists behind them. -/
def lsts (ps : List (Int × Int)) (k : Nat) : List (List Int) := (List.range ps.length).map fun i => if i < k then lst (ps.getD i (0, 0)) else []
theorem lsts_len (ps : List (Int × Int)) (k : Nat) : (lsts ps k).length = ps.length := by simp [lsts]
theorem lsts_at (ps : List (Int × Int)) (k i : Nat) : (lsts ps k)[i]? = if i < ps.length then some (if i < k then lst (ps.getD i (0, 0)) else []) else none := by
  simp only [lsts, List.getElem?_map]
  by_cases h : i < ps.length
  · rw [List.getElem?_range h, if_pos h]; rfl
  · rw [List.getElem?_eq_none (by simpa using h), if_neg h]; rfl
theorem lsts_zero (ps : List (Int × Int)) : lsts ps 0 = List.replicate ps.length [] := by
  apply List.ext_getElem?
  intro i
  rw [lsts_at, List.getElem?_replicate]
  simp
theorem lsts_all (ps : List (Int × Int)) : lsts ps ps.length = ps.map lst := by
  apply List.ext_getElem?
  intro i
  rw [lsts_at, List.getElem?_map]
  by_cases h : i < ps.length
  · rw [if_pos h, if_pos h, List.getD_eq_getElem?_getD, List.getElem?_eq_getElem h]; rfl
  · rw [if_neg h, List.getElem?_eq_none (by omega)]; rfl
theorem lsts_set (ps : List (Int × Int)) (k : Nat) (hk : k < ps.length) : (lsts ps k).set k (lst (ps.getD k (0, 0))) = lsts ps (k + 1) := by
  apply List.ext_getElem?
  intro i
  rw [List.getElem?_set, lsts_at, lsts_at, lsts_len]
  by_cases h1 : k = i
  · subst h1
    rw [if_pos rfl, if_pos hk, if_pos hk, if_pos (by omega)]
  · rw [if_neg h1]
    by_cases h2 : i < ps.length
    · rw [if_pos h2, if_pos h2]
      by_cases h3 : i < k
      · rw [if_pos h3, if_pos (by omega)]
      · rw [if_neg h3, if_neg (by omega)]
    · rw [if_neg h2, if_neg h2]
set_option maxHeartbeats 1600000 in
theorem listsOf_any (ps : List (Int × Int)) (a : Option Addr) (b cap : Nat) (w : World) (hr : PRd w a b ps) (hl : ps.length ≤ 100000) :
    Calls Try.prog 63 #[.slice a ps.length cap] w fun e w' => ∃ v, e = .returned v ∧ CellsV w' w.heap.size v (ps.map lst) ∧ Below w.heap.size w w' := by
  obtain ⟨i0, hi, hz0, hz1, hz2⟩ := info_parts rowsInfo
  have HR := Lib.hid hr
  clear hr
  go_enter Try.func63, Try.ntmps63
  go_wp2_with (at_make; refine wpList_make_full _ rfl _ _ 22 rfl w.heap.size 28 i0 (.slice none 0 0) 1 Try.underlying22 hi hz0 hz1 _ _ _ _ ps.length rfl rfl ?hC ?hL ?hb2 ?hb3 ?hb4 ?_)
  case hC => rfl
  case hL => rfl
  case hb2 => rw [hz2]; omega
  case hb3 => unfold maxLen; omega
  case hb4 => exact Nat.le_refl _
  intro w1 ho1 hg1
  have hc1 : CellsV w1 w.heap.size (.slice (some ⟨w.heap.size, 0, none⟩) ps.length ps.length) (lsts ps 0) := by
    rw [lsts_zero]
    refine cells_made ?_
    first | exact made_rows ps.length ▸ ho1 | exact made_rows' ps.length ▸ ho1
  have hB1 : Below w.heap.size w w1 := (Below.refl _ _).grown hg1 (Nat.le_refl _) (fun k hk => by cases hk)
  clear ho1 hg1
  go_wp2_with fail
  go_loopw [11] (fun v11 wr => ∃ k : Nat, k ≤ ps.length ∧ v11 = .int .i64 k ∧ CellsV wr w.heap.size (.slice (some ⟨w.heap.size, 0, none⟩) ps.length ps.length) (lsts ps k) ∧ Below w.heap.size w wr) (fun v11 _ => ps.length - (intOf v11).toNat)
  case atStart => exact ⟨0, Nat.zero_le _, rfl, hc1, hB1⟩
  case round =>
    clear hc1 hB1
    obtain ⟨k, hk, rfl, hc, hb⟩ := hrel
    by_cases hlt : k < ps.length
    · obtain ⟨rfl, hbl, c0, c1⟩ := (HR.out.later hb) k hlt
      obtain ⟨g, old, hg, hgb, hgl, hold, hfr, hput⟩ := cells_put hc k (by rw [lsts_len]; exact hlt)
      simp only [Option.some.injEq, Addr.mk.injEq, and_true] at hg
      subst hg
      have HE := Lib.hid (lsts_set ps k hlt)
      have HP := Lib.hid hput
      have hki : (k : Int) < (ps.length : Int) := by omega
      have HL : Hid (lst (ps.getD k (0, 0)) = [(ps.getD k (0, 0)).1, (ps.getD k (0, 0)).2]) := Lib.hid rfl
      clear hput hc
      generalize hx : (ps.getD k (0, 0)).1 = x at c0 HL
      generalize hy : (ps.getD k (0, 0)).2 = y at c1 HL
      clear hx hy
      generalize lst (ps.getD k (0, 0)) = l at HE HL
      obtain ⟨wi, hwi⟩ : ∃ wi : World, wi = wr := ⟨_, rfl⟩
      subst hwi
      have HB : Hid (Below wi.heap.size wi ((wi.alloc (.cells #[.int .i64 x, .int .i64 y] 70)).alloc (.cells #[.int .i64 x, .int .i64 y] 3))) := Lib.hid (balloc (balloc (Below.refl _ _) _) _)
      have HO : Hid (((wi.alloc (.cells #[.int .i64 x, .int .i64 y] 70)).alloc (.cells #[.int .i64 x, .int .i64 y] 3)).ownsRow wi.heap.size 3 1 (.slice (some ⟨wi.heap.size + 1, 0, none⟩) 2 2) [x, y].length ([x, y].map (Value.int .i64))) := Lib.hid (by
        have e := heap_alloc_new (wi.alloc (.cells #[.int .i64 x, .int .i64 y] 70)) (.cells #[.int .i64 x, .int .i64 y] 3)
        rw [World.size_alloc] at e
        exact own_block (by omega) e (by simp) rfl (by simp [maxLen]))
      have hold2 : ((wi.alloc (.cells #[.int .i64 x, .int .i64 y] 70)).alloc (.cells #[.int .i64 x, .int .i64 y] 3)).cell? ⟨w.heap.size, k, none⟩ = some old := (HB.out.cell (p := ⟨w.heap.size, k, none⟩) hgl).trans hold
      have hfr2 : ((wi.alloc (.cells #[.int .i64 x, .int .i64 y] 70)).alloc (.cells #[.int .i64 x, .int .i64 y] 3)).frozen? ⟨w.heap.size, k, none⟩ = false := (HB.out.frozen (p := ⟨w.heap.size, k, none⟩) hgl).trans hfr
      go_wp2_with fail
      go_roundw
      case rel =>
        have hcv := HP.out _ _ _ HB.out HO.out
        have hbv := (hb.trans (HB.out.mono hb.size)).setCell (p := ⟨w.heap.size, k, none⟩) (Nat.le_refl _) (.slice (some ⟨wi.heap.size + 1, 0, none⟩) 2 2)
        rw [World.setCell_alloc_past _ _ _ _ (by simp; omega), World.setCell_alloc_past _ _ _ _ hgl] at hcv hbv
        exact ⟨k + 1, by omega, by go_num, by rw [← HE.out, HL.out]; exact hcv, hbv⟩
      case measure => simp [intOf]; omega
    · have hk2 : k = ps.length := by omega
      rw [hk2, lsts_all] at hc
      clear hk2
      go_wp2_with fail
      go_ret
      exact ⟨_, rfl, hc, hb⟩
end Go.Proofs.Ytjbdhgomcchoaaa
