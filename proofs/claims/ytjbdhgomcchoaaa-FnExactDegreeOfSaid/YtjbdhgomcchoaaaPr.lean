import Derived.Test.YtjbdhgomcchoaaaDi
namespace Go.Proofs.Ytjbdhgomcchoaaa
open Go.RowKit
/-- Pairs as the program keeps them: two numbers each. -/
def pfl (ps : List (Int × Int)) : List Value := ps.flatMap fun p => [.int .i64 p.1, .int .i64 p.2]
def PairV (w : World) (base : Nat) (v : Value) (ps : List (Int × Int)) : Prop := w.ownsRow base 70 2 v ps.length (pfl ps)
theorem pfl_len (ps : List (Int × Int)) : (pfl ps).length = ps.length * 2 := by
  induction ps with
  | nil => rfl
  | cons p ps ih => simp only [pfl, List.flatMap_cons, List.length_append, List.length_cons, List.length_nil] at ih ⊢; omega
theorem pfl_at (ps : List (Int × Int)) : ∀ k, k < ps.length → (pfl ps)[k * 2]? = some (.int .i64 (ps.getD k (0, 0)).1) ∧ (pfl ps)[k * 2 + 1]? = some (.int .i64 (ps.getD k (0, 0)).2) := by
  induction ps with
  | nil => intro k hk; exact absurd hk (by simp)
  | cons p ps ih =>
    intro k hk
    match k with
    | 0 => exact ⟨rfl, rfl⟩
    | k + 1 =>
      have e := ih k (by simpa using hk)
      rw [show (k + 1) * 2 = k * 2 + 2 by omega]
      exact e
theorem pairInfo : (Try.prog.info? 70).map (fun i => (i.zero, i.size, i.bytes)) = some (some (.agg #[.int .i64 0, .int .i64 0]), 2, 16) := by kernel_rfl
theorem pairs_now {w w' : World} {base : Nat} {v : Value} {ps : List (Int × Int)} (h : PairV w base v ps) (hb : Below w.heap.size w w') : PairV w' base v ps := own_now h hb
theorem append_pair {ops : Array Oper} {rest : List Oper} {o : Oper} {a : Act} {Q : Exit → Act → World → Prop} (base g : Nat) (w0 : World) (v : Value) (ps : List (Int × Int)) (x y : Int)
    (hgd : o.guard = none) (s t : Operand) (ho : o.op = .call { callee := .builtin .append, args := #[s, t], argTypes := #[72, 72] })
    (hs : a.eval s = v) (hx : a.eval t = .slice (some ⟨g, 0, none⟩) 1 1) (hg : g = w0.heap.size)
    (hc : PairV w0 base v ps) (hbase : base ≤ w0.heap.size) (hlen : ps.length < 1000000000)
    (h : ∀ v' w', PairV w' base v' (ps ++ [(x, y)]) → Below base w0 w' → wpList Try.prog ops Q rest (a.put o.dst v') w') :
    wpList Try.prog ops Q (o :: rest) a (w0.alloc (.cells #[.int .i64 x, .int .i64 y] 70)) := by
  subst hg
  obtain ⟨i0, hi, hz0, hz1, hz2⟩ := info_parts pairInfo
  refine wpList_append_own _ hgd s t 72 ho base 70 i0 _ 2 16 Try.underlying72 hi hz0 hz1 hz2 rfl (by decide) v ps.length _ hs (World.ownsRow.alloc hc _) ⟨w0.heap.size, 0, none⟩ 1 1 [.int .i64 x, .int .i64 y] hx rfl ?_ ?_ ?_ ?_ ?_ ?_
  · intro j u hj
    have e : (Addr.add ⟨w0.heap.size, 0, none⟩ j : Addr) = ⟨w0.heap.size, j, none⟩ := by rw [Addr.add_lit, Nat.zero_add]
    rw [e, cell_of_row _ _ _ _ _ (0, 0) (heap_alloc_new w0 _)]
    simpa using hj
  · intro u hu
    simp only [List.mem_cons, List.not_mem_nil, or_false] at hu
    rcases hu with rfl | rfl <;> rfl
  · unfold maxLen; omega
  · omega
  · simp; omega
  · intro v' w1 hown' hgrow _
    refine h v' w1 (by simpa [PairV, pfl] using hown') ?_
    exact ((Below.refl base w0).alloc hbase _).grown hgrow (by simp; omega) (fun k hk => (World.ownsRow.lt hc k hk).1)
/-- Pairs that can be read. -/
def PRd (w : World) (a : Option Addr) (b : Nat) (ps : List (Int × Int)) : Prop := ∀ k, k < ps.length → a = some ⟨b, 0, none⟩ ∧ b < w.heap.size ∧ w.cell? ⟨b, k * 2, none⟩ = some (.int .i64 (ps.getD k (0, 0)).1) ∧ w.cell? ⟨b, k * 2 + 1, none⟩ = some (.int .i64 (ps.getD k (0, 0)).2)
theorem PRd.later {w w' : World} {a : Option Addr} {b : Nat} {ps : List (Int × Int)} (h : PRd w a b ps) (hb : Below w.heap.size w w') : PRd w' a b ps := fun k hk =>
  ⟨(h k hk).1, Nat.lt_of_lt_of_le (h k hk).2.1 hb.size, (hb.cell (p := ⟨b, k * 2, none⟩) (h k hk).2.1).trans (h k hk).2.2.1, (hb.cell (p := ⟨b, k * 2 + 1, none⟩) (h k hk).2.1).trans (h k hk).2.2.2⟩
theorem pair_shape {w : World} {base : Nat} {v : Value} {ps : List (Int × Int)} (h : PairV w base v ps) : ∃ a cap b, v = .slice a ps.length cap ∧ PRd w a b ps := by
  obtain ⟨h1, h2⟩ := id h
  rcases h2 with ⟨rfl, h0⟩ | ⟨g, cap, cur, rfl, hg, hh, hc, hm, hs, ht⟩
  · refine ⟨none, 0, 0, by rw [h0], fun k hk => by omega⟩
  · refine ⟨_, cap, g, rfl, fun k hk => ⟨rfl, own_lt h g rfl, ?_, ?_⟩⟩
    · rw [cell_of_row w g _ cur _ (0, 0) hh]
      have e : (cur.toList.take (ps.length * 2))[k * 2]? = (pfl ps)[k * 2]? := by rw [ht]
      rw [List.getElem?_take, if_pos (by omega)] at e
      rw [← Array.getElem?_toList, e]
      exact (pfl_at ps k hk).1
    · rw [cell_of_row w g _ cur _ (0, 0) hh]
      have e : (cur.toList.take (ps.length * 2))[k * 2 + 1]? = (pfl ps)[k * 2 + 1]? := by rw [ht]
      rw [List.getElem?_take, if_pos (by omega)] at e
      rw [← Array.getElem?_toList, e]
      exact (pfl_at ps k hk).2
def drB (xs : List Int) (p : Int × Int) : Bool := doorB xs p.1 p.2
theorem drs_yes (xs : List Int) (ps : List (Int × Int)) (k : Nat) (hk : k < ps.length) (h : drB xs (ps.getD k (0, 0)) = true) : (ps.take (k + 1)).filter (drB xs) = (ps.take k).filter (drB xs) ++ [ps.getD k (0, 0)] := by
  rw [List.take_add_one, List.filter_append, List.getElem?_eq_getElem hk]
  rw [List.getD_eq_getElem?_getD, List.getElem?_eq_getElem hk] at h ⊢
  simp only [Option.getD_some] at h
  simp [h]
theorem drs_no (xs : List Int) (ps : List (Int × Int)) (k : Nat) (hk : k < ps.length) (h : drB xs (ps.getD k (0, 0)) = false) : (ps.take (k + 1)).filter (drB xs) = (ps.take k).filter (drB xs) := by
  rw [List.take_add_one, List.filter_append, List.getElem?_eq_getElem hk]
  rw [List.getD_eq_getElem?_getD, List.getElem?_eq_getElem hk] at h
  simp only [Option.getD_some] at h
  simp [h]
theorem drs_len (xs : List Int) (ps : List (Int × Int)) (k : Nat) : ((ps.take k).filter (drB xs)).length ≤ ps.length :=
  Nat.le_trans (List.length_filter_le _ _) (by rw [List.length_take]; omega)
/-- Pairs of points of a list of labels. -/
def Pts (m : Nat) (ps : List (Int × Int)) : Prop := ∀ k, k < ps.length → ∃ i j : Nat, ps.getD k (0, 0) = ((i : Int), (j : Int)) ∧ i < m ∧ j < m
set_option maxHeartbeats 1600000 in
theorem doorsAmong_any (n : Nat) (xs : List Int) (base : Nat) (r : Array Value) (ps : List (Int × Int)) (a : Option Addr) (b cap : Nat) (w : World) (hL : labB n xs = true) (hrv : RoomsV w base n xs r) (hps : Pts xs.length ps) (hr : PRd w a b ps) (hlen : ps.length ≤ 100000) :
    Calls Try.prog 64 #[.agg r, .slice a ps.length cap] w fun e w' => ∃ v, e = .returned v ∧ PairV w' w.heap.size v (ps.filter (drB xs)) ∧ Below w.heap.size w w' := by
  obtain ⟨hsz, hone, -, -, g, ca, cc, -, r47, -, hlg, -, hgl⟩ := rooms_row hL hrv
  have HL := Lib.hid hL
  have HPS := Lib.hid hps
  have HR := Lib.hid hr
  have HLG := Lib.hid hlg
  have hb0 := balloc (Below.refl w.heap.size w) (.cells r 66)
  have q47 : (w.alloc (.cells r 66)).cell? ⟨w.heap.size, 47, none⟩ = some (doorF g) := (cell_of_row _ _ _ _ _ (0, 0) (heap_alloc_new w _)).trans r47
  have HQ := Lib.hid q47
  clear hL hps hr hrv hsz hone r47 q47 hlg
  go_enter Try.func64, Try.ntmps64
  go_wp2_with fail
  go_loopw [5, 10] (fun v5 v10 wr => ∃ k : Nat, k ≤ ps.length ∧ v10 = .int .i64 k ∧ PairV wr (w.alloc (.cells r 66)).heap.size v5 ((ps.take k).filter (drB xs)) ∧ Below (w.alloc (.cells r 66)).heap.size (w.alloc (.cells r 66)) wr) (fun _ v10 _ => ps.length - (intOf v10).toNat)
  case atStart => exact ⟨0, Nat.zero_le _, rfl, World.ownsRow_nil _ _ _ _, Below.refl _ _⟩
  case round =>
    obtain ⟨k, hk, rfl, ho, hbb⟩ := hrel
    have hb := bnext hb0 hbb
    by_cases hlt : k < ps.length
    · obtain ⟨rfl, hbl, c0, c1⟩ := (HR.out.later hb) k hlt
      obtain ⟨i, j, hij, hi, hj⟩ := HPS.out k hlt
      have HY := Lib.hid (drs_yes xs ps k hlt)
      have HN := Lib.hid (drs_no xs ps k hlt)
      have hfl := drs_len xs ps k
      rw [hij] at c0 c1 HY HN
      have q47 : wr.cell? ⟨w.heap.size, 47, none⟩ = some (.func (.func 88) #[] #[.pointer (some ⟨g, 0, none⟩)]) := (hbb.cell (p := ⟨w.heap.size, 47, none⟩) (by simp)).trans HQ.out
      have hlg1 := (hb.block g hgl).trans HLG.out
      have hz := hb.size
      have hz1 := hbb.size
      simp only [World.size_alloc] at hz1
      have hlg2 : (wr.alloc (.cells #[.int .i64 i, .int .i64 j] 70)).heap[g]? = some (.cells (labL n xs).toArray 63 (0, 0)) := (Below.heap_alloc _ _ _ (by omega)).trans hlg1
      have HL2 := Lib.hid hlg2
      have q47 : (wr.alloc (.cells #[.int .i64 i, .int .i64 j] 70)).cell? ⟨w.heap.size, 47, none⟩ = some (.func (.func 88) #[] #[.pointer (some ⟨g, 0, none⟩)]) := (World.cell?_alloc_past _ _ _ (by show w.heap.size < wr.heap.size; omega)).trans q47
      have hki : (k : Int) < (ps.length : Int) := by omega
      clear hij hlg1 hlg2
      obtain ⟨wi, hwi⟩ : ∃ wi : World, wi = wr := ⟨_, rfl⟩
      subst hwi
      go_wp2_with fail
      refine (isDoor_any n xs i j g HL.out hi hj _ HL2.out (by simp; omega)).mono ?_
      rintro e w2 ⟨rfl, hb2⟩
      have hB2 := bnext (balloc (Below.refl wi.heap.size wi) (.cells #[.int .i64 i, .int .i64 j] 70)) hb2
      have t0 : w2.cell? ⟨wi.heap.size, 0, none⟩ = some (.int .i64 i) := by rw [hb2.cell (by simp)]; go_cell
      have t1 : w2.cell? ⟨wi.heap.size, 1, none⟩ = some (.int .i64 j) := by rw [hb2.cell (by simp)]; go_cell
      have ho2 := pairs_now ho hB2
      have hbbW := hbb.trans (hB2.mono hbb.size)
      have hzW := hbbW.size
      clear ho hb hbb hb2 c0 c1 q47
      cases hD : doorB xs i j
      · have e := Lib.hid (HN.out hD)
        clear hD
        go_wp2_with fail
        go_roundw
        case rel => exact ⟨k + 1, by omega, by go_num, by rw [e.out]; exact ho2, hbbW⟩
        case measure => simp [intOf]; omega
      · have e := Lib.hid (HY.out hD)
        clear hD
        go_wp2_with (at_builtin; refine append_pair (w.alloc (.cells r 66)).heap.size _ w2 _ ((ps.take k).filter (drB xs)) i j rfl _ _ rfl rfl rfl (by simp) ho2 hzW (by omega) ?_; intro v' w3 ho3 hb3)
        go_roundw
        case rel => exact ⟨k + 1, by omega, by go_num, by rw [e.out]; exact ho3, hbbW.trans hb3⟩
        case measure => simp [intOf]; omega
    · have hk2 : k = ps.length := by omega
      rw [hk2, List.take_length] at ho
      clear hk2
      obtain ⟨sa, sc, sb, rfl, -⟩ := pair_shape ho
      go_wp2_with fail
      go_ret
      exact ⟨_, rfl, World.ownsRow.mono ho hb0.size, hb⟩
end Go.Proofs.Ytjbdhgomcchoaaa
