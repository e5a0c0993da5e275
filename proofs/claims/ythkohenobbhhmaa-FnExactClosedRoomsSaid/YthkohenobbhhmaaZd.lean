import Derived.Test.YthkohenobbhhmaaZa
import Derived.Test.YthkohenobbhhmaaZb
import Derived.Test.YthkohenobbhhmaaZc
namespace Go.Proofs.Ythkohenobbhhmaa
open Go.RowKit
set_option maxRecDepth 4000
/-- Whether there are labels, and two points that are neighbours. -/
def ptB (n i : Int) : Bool := decide (0 ≤ i ∧ i < (Pr.cnt n.toNat : Nat))
def pairB (n : Int) (xs : List Int) (i j : Int) : Bool := labB n xs && (ptB n i && (ptB n j && nearB (pt n.toNat i.toNat) (pt n.toNat j.toNat)))
theorem ptB_yes {n : Nat} {i : Int} (h : ptB n i = true) : ∃ k : Nat, i = k ∧ k < Pr.cnt n := by
  simp only [ptB, decide_eq_true_eq, Int.toNat_natCast] at h
  obtain ⟨k, rfl⟩ := Int.eq_ofNat_of_zero_le h.1
  exact ⟨k, rfl, by omega⟩
theorem ptB_no {n : Nat} {i : Int} (h : ptB n i = false) : ¬ (0 ≤ i ∧ i < (Pr.cnt n : Nat)) := by
  simpa [ptB] using h
theorem ptB_not {n : Nat} {i : Int} (h : ptB n i = false) : ¬ Pr.okPt n i := fun hh => ptB_no h ⟨hh.2.2.1, by simpa using hh.2.2.2⟩
theorem labB_nat {n : Int} {xs : List Int} (h : labB n xs = true) : ∃ m : Nat, n = m := by
  simp only [labB, decide_eq_true_eq] at h
  obtain ⟨m, rfl⟩ := Int.eq_ofNat_of_zero_le (show 0 ≤ n by omega)
  exact ⟨m, rfl⟩
theorem ret_b {x : Value} {b : Bool} (h : b = true) (hx : x = .bool true) : Ending.returned x = .returned (.bool b) := by rw [hx, h]
theorem ret_f {x : Value} {b : Bool} (h : b = false) (hx : x = .bool false) : Ending.returned x = .returned (.bool b) := by rw [hx, h]
set_option maxHeartbeats 400000 in
theorem doDoor_any (xs : List Int) (i j : Nat) (a : Option Addr) (b len cap : Nat) (w : World) (hn : xs.length = len) (h : Rd w a b 0 xs) (hA : allB 0 2 xs = true) (hi : i < xs.length) (hj : j < xs.length) :
    Calls Try.prog 72 #[.slice a len cap, .int .i64 i, .int .i64 j] w fun e w' => e = .returned (.bool (doorB xs i j)) ∧ ∃ m, w' = w.drewN m := by
  subst hn
  obtain ⟨ha, ci'⟩ := h.2 i hi
  have cj' := (h.2 j hj).2
  subst ha
  have bi := allB_at hA i hi
  have bj := allB_at hA j hj
  have hm := h.1
  unfold maxLen at hm
  have HD : Hid (doorB xs i j = (xs.getD i 0 + xs.getD j 0 == 1)) := Lib.hid (by simp [doorB])
  have hii : (i : Int) < (xs.length : Int) := by omega
  have hjj : (j : Int) < (xs.length : Int) := by omega
  rw [Nat.zero_add] at ci' cj'
  clear h hA
  generalize xs.getD i 0 = x at ci' bi HD
  generalize xs.getD j 0 = y at cj' bj HD
  go_enter Try.func72, Try.ntmps72
  go_wp2_with fail
  go_quiet (fail)
  go_wp2_with fail
  go_ret
  exact ⟨by rw [HD.out]; rfl, _, rfl⟩
def okIsDoor (n : Int) (xs : List Int) (i j : Int) : Bool := pairB n xs i j
def valIsDoor (n : Int) (xs : List Int) (i j : Int) : Bool := pairB n xs i j && doorB xs i j
theorem pairB_yes {n : Int} {xs : List Int} {i j : Int} (h : pairB n xs i j = true) : ∃ n' i' j' : Nat, n = n' ∧ i = i' ∧ j = j' ∧ labB n' xs = true ∧ i' < Pr.cnt n' ∧ j' < Pr.cnt n' ∧ nearB (pt n' i') (pt n' j') = true := by
  simp only [pairB, Bool.and_eq_true] at h
  obtain ⟨hL, hi, hj, hN⟩ := h
  obtain ⟨n, rfl⟩ := labB_nat hL
  obtain ⟨i, rfl, hi'⟩ := ptB_yes hi
  obtain ⟨j, rfl, hj'⟩ := ptB_yes hj
  exact ⟨n, i, j, rfl, rfl, rfl, hL, hi', hj', by simpa using hN⟩
end Go.Proofs.Ythkohenobbhhmaa

namespace Go.Proofs.Ythkohenobbhhmaa
open Go.RowKit
set_option maxRecDepth 4000
/-- What the cells of rooms hold. -/
theorem rooms_row {w : World} {base n : Nat} {xs : List Int} {r : Array Value} (hL : labB n xs = true) (h : RoomsV w base n xs r) : r.size = 48 ∧ r.all (·.oneCell') = true ∧ r[0]? = some (.int .i64 n) ∧ (∀ k, k < xs.length → r[1 + k]? = some (.int .i64 (xs.getD k 0))) ∧
    ∃ g ca cc, r[46]? = some (.slice ca (ci n).length cc) ∧ r[47]? = some (doorF g) ∧ TrioV w base (.slice ca (ci n).length cc) (ci n) ∧ w.heap[g]? = some (.cells (labL n xs).toArray 48 (0, 0)) ∧ base ≤ g ∧ g < w.heap.size := by
  obtain ⟨g, ca, cc, rfl, h2, h3, h4, h5⟩ := h
  obtain ⟨h1', h2', hl, -⟩ := labB_yes hL
  have hcn := (Pr.cnt_le n (by omega)).1
  have hsz := labL_size n xs (by omega)
  refine ⟨rmA_size _ _ _ hsz, rmA_one _ _ _ (labL_one n xs) rfl rfl, ?_, fun k hk => ?_, g, ca, cc, ?_, ?_, h2, h3, h4, h5⟩
  · rw [rmA, Array.getElem?_append_left (by omega)]; simp [labL]
  · rw [rmA, Array.getElem?_append_left (by omega)]
    simp only [labL, List.getElem?_toArray]
    rw [show 1 + k = k + 1 by omega, List.getElem?_cons_succ, List.getElem?_append_left (by simpa using hk), List.getElem?_map, List.getElem?_eq_getElem hk]
    simp [List.getD, hk]
  · rw [rmA, Array.getElem?_append_right (by omega), hsz]; rfl
  · rw [rmA, Array.getElem?_append_right (by omega), hsz]; rfl
end Go.Proofs.Ythkohenobbhhmaa

namespace Go.Proofs.Ythkohenobbhhmaa
open Go.RowKit
set_option maxRecDepth 4000
/-- Pairs as the program keeps them: two numbers each. -/
def pfl (ps : List (Int × Int)) : List Value := ps.flatMap fun p => [.int .i64 p.1, .int .i64 p.2]
def PairV (w : World) (base : Nat) (v : Value) (ps : List (Int × Int)) : Prop := w.ownsRow base 54 2 v ps.length (pfl ps)
theorem pfl_len (ps : List (Int × Int)) : (pfl ps).length = ps.length * 2 := by
  induction ps with
  | nil => rfl
  | cons p ps ih => simp only [pfl, List.flatMap_cons, List.length_append, List.length_cons, List.length_nil] at ih ⊢; omega
theorem pfl_at (ps : List (Int × Int)) : ∀ k, k < ps.length → (pfl ps)[k * 2]? = some (.int .i64 (ps.getD k (0, 0)).1) ∧ (pfl ps)[k * 2 + 1]? = some (.int .i64 (ps.getD k (0, 0)).2) := by
  induction ps with
  | nil => intro k hk; exact absurd hk (by simp)
  | cons p ps ih =>
    intro k hk
    match k with
    | 0 => exact ⟨rfl, rfl⟩
    | k + 1 =>
      have e := ih k (by simpa using hk)
      rw [show (k + 1) * 2 = k * 2 + 2 by omega]
      exact e
theorem pairInfo : (Try.prog.info? 54).map (fun i => (i.zero, i.size, i.bytes)) = some (some (.agg #[.int .i64 0, .int .i64 0]), 2, 16) := by kernel_rfl
theorem pairs_now {w w' : World} {base : Nat} {v : Value} {ps : List (Int × Int)} (h : PairV w base v ps) (hb : Below w.heap.size w w') : PairV w' base v ps := own_now h hb
theorem append_pair {ops : Array Oper} {rest : List Oper} {o : Oper} {a : Act} {Q : Exit → Act → World → Prop} (base g : Nat) (w0 : World) (v : Value) (ps : List (Int × Int)) (x y : Int)
    (hgd : o.guard = none) (s t : Operand) (ho : o.op = .call { callee := .builtin .append, args := #[s, t], argTypes := #[65, 65] })
    (hs : a.eval s = v) (hx : a.eval t = .slice (some ⟨g, 0, none⟩) 1 1) (hg : g = w0.heap.size)
    (hc : PairV w0 base v ps) (hbase : base ≤ w0.heap.size) (hlen : ps.length < 1000000000)
    (h : ∀ v' w', PairV w' base v' (ps ++ [(x, y)]) → Below base w0 w' → wpList Try.prog ops Q rest (a.put o.dst v') w') :
    wpList Try.prog ops Q (o :: rest) a (w0.alloc (.cells #[.int .i64 x, .int .i64 y] 54)) := by
  subst hg
  obtain ⟨i0, hi, hz0, hz1, hz2⟩ := info_parts pairInfo
  refine wpList_append_own _ hgd s t 65 ho base 54 i0 _ 2 16 Try.underlying65 hi hz0 hz1 hz2 rfl (by decide) v ps.length _ hs (World.ownsRow.alloc hc _) ⟨w0.heap.size, 0, none⟩ 1 1 [.int .i64 x, .int .i64 y] hx rfl ?_ ?_ ?_ ?_ ?_ ?_
  · intro j u hj
    have e : (Addr.add ⟨w0.heap.size, 0, none⟩ j : Addr) = ⟨w0.heap.size, j, none⟩ := by rw [Addr.add_lit, Nat.zero_add]
    rw [e, cell_of_row _ _ _ _ _ (0, 0) (heap_alloc_new w0 _)]
    simpa using hj
  · intro u hu
    simp only [List.mem_cons, List.not_mem_nil, or_false] at hu
    rcases hu with rfl | rfl <;> rfl
  · unfold maxLen; omega
  · omega
  · simp; omega
  · intro v' w1 hown' hgrow _
    refine h v' w1 (by simpa [PairV, pfl] using hown') ?_
    exact ((Below.refl base w0).alloc hbase _).grown hgrow (by simp; omega) (fun k hk => (World.ownsRow.lt hc k hk).1)
/-- Pairs that can be read. -/
def PRd (w : World) (a : Option Addr) (b : Nat) (ps : List (Int × Int)) : Prop := ∀ k, k < ps.length → a = some ⟨b, 0, none⟩ ∧ b < w.heap.size ∧ w.cell? ⟨b, k * 2, none⟩ = some (.int .i64 (ps.getD k (0, 0)).1) ∧ w.cell? ⟨b, k * 2 + 1, none⟩ = some (.int .i64 (ps.getD k (0, 0)).2)
theorem PRd.later {w w' : World} {a : Option Addr} {b : Nat} {ps : List (Int × Int)} (h : PRd w a b ps) (hb : Below w.heap.size w w') : PRd w' a b ps := fun k hk =>
  ⟨(h k hk).1, Nat.lt_of_lt_of_le (h k hk).2.1 hb.size, (hb.cell (p := ⟨b, k * 2, none⟩) (h k hk).2.1).trans (h k hk).2.2.1, (hb.cell (p := ⟨b, k * 2 + 1, none⟩) (h k hk).2.1).trans (h k hk).2.2.2⟩
theorem pair_shape {w : World} {base : Nat} {v : Value} {ps : List (Int × Int)} (h : PairV w base v ps) : ∃ a cap b, v = .slice a ps.length cap ∧ PRd w a b ps := by
  obtain ⟨h1, h2⟩ := id h
  rcases h2 with ⟨rfl, h0⟩ | ⟨g, cap, cur, rfl, hg, hh, hc, hm, hs, ht⟩
  · refine ⟨none, 0, 0, by rw [h0], fun k hk => by omega⟩
  · refine ⟨_, cap, g, rfl, fun k hk => ⟨rfl, own_lt h g rfl, ?_, ?_⟩⟩
    · rw [cell_of_row w g _ cur _ (0, 0) hh]
      have e : (cur.toList.take (ps.length * 2))[k * 2]? = (pfl ps)[k * 2]? := by rw [ht]
      rw [List.getElem?_take, if_pos (by omega)] at e
      rw [← Array.getElem?_toList, e]
      exact (pfl_at ps k hk).1
    · rw [cell_of_row w g _ cur _ (0, 0) hh]
      have e : (cur.toList.take (ps.length * 2))[k * 2 + 1]? = (pfl ps)[k * 2 + 1]? := by rw [ht]
      rw [List.getElem?_take, if_pos (by omega)] at e
      rw [← Array.getElem?_toList, e]
      exact (pfl_at ps k hk).2
def drB (xs : List Int) (p : Int × Int) : Bool := doorB xs p.1 p.2
theorem drs_yes (xs : List Int) (ps : List (Int × Int)) (k : Nat) (hk : k < ps.length) (h : drB xs (ps.getD k (0, 0)) = true) : (ps.take (k + 1)).filter (drB xs) = (ps.take k).filter (drB xs) ++ [ps.getD k (0, 0)] := by
  rw [List.take_add_one, List.filter_append, List.getElem?_eq_getElem hk]
  rw [List.getD_eq_getElem?_getD, List.getElem?_eq_getElem hk] at h ⊢
  simp only [Option.getD_some] at h
  simp [h]
theorem drs_no (xs : List Int) (ps : List (Int × Int)) (k : Nat) (hk : k < ps.length) (h : drB xs (ps.getD k (0, 0)) = false) : (ps.take (k + 1)).filter (drB xs) = (ps.take k).filter (drB xs) := by
  rw [List.take_add_one, List.filter_append, List.getElem?_eq_getElem hk]
  rw [List.getD_eq_getElem?_getD, List.getElem?_eq_getElem hk] at h
  simp only [Option.getD_some] at h
  simp [h]
theorem drs_len (xs : List Int) (ps : List (Int × Int)) (k : Nat) : ((ps.take k).filter (drB xs)).length ≤ ps.length :=
  Nat.le_trans (List.length_filter_le _ _) (by rw [List.length_take]; omega)
/-- Pairs of points of a list of labels. -/
def Pts (m : Nat) (ps : List (Int × Int)) : Prop := ∀ k, k < ps.length → ∃ i j : Nat, ps.getD k (0, 0) = ((i : Int), (j : Int)) ∧ i < m ∧ j < m
set_option maxHeartbeats 1600000 in
theorem doorsAmong_any (n : Nat) (xs : List Int) (base : Nat) (r : Array Value) (ps : List (Int × Int)) (a : Option Addr) (b cap : Nat) (w : World) (hL : labB n xs = true) (hrv : RoomsV w base n xs r) (hps : Pts xs.length ps) (hr : PRd w a b ps) (hlen : ps.length ≤ 100000) :
    Calls Try.prog 80 #[.agg r, .slice a ps.length cap] w fun e w' => ∃ v, e = .returned v ∧ PairV w' w.heap.size v (ps.filter (drB xs)) ∧ Below w.heap.size w w' := by
  obtain ⟨hsz, hone, -, -, g, ca, cc, -, r47, -, hlg, -, hgl⟩ := rooms_row hL hrv
  have HL := Lib.hid hL
  have HPS := Lib.hid hps
  have HR := Lib.hid hr
  have HLG := Lib.hid hlg
  have hb0 := balloc (Below.refl w.heap.size w) (.cells r 52)
  have q47 : (w.alloc (.cells r 52)).cell? ⟨w.heap.size, 47, none⟩ = some (doorF g) := (cell_of_row _ _ _ _ _ (0, 0) (heap_alloc_new w _)).trans r47
  have HQ := Lib.hid q47
  clear hL hps hr hrv hsz hone r47 q47 hlg
  go_enter Try.func80, Try.ntmps80
  go_wp2_with fail
  go_loopw [5, 10] (fun v5 v10 wr => ∃ k : Nat, k ≤ ps.length ∧ v10 = .int .i64 k ∧ PairV wr (w.alloc (.cells r 52)).heap.size v5 ((ps.take k).filter (drB xs)) ∧ Below (w.alloc (.cells r 52)).heap.size (w.alloc (.cells r 52)) wr) (fun _ v10 _ => ps.length - (intOf v10).toNat)
  case atStart => exact ⟨0, Nat.zero_le _, rfl, World.ownsRow_nil _ _ _ _, Below.refl _ _⟩
  case round =>
    obtain ⟨k, hk, rfl, ho, hbb⟩ := hrel
    have hb := bnext hb0 hbb
    by_cases hlt : k < ps.length
    · obtain ⟨rfl, hbl, c0, c1⟩ := (HR.out.later hb) k hlt
      obtain ⟨i, j, hij, hi, hj⟩ := HPS.out k hlt
      have HY := Lib.hid (drs_yes xs ps k hlt)
      have HN := Lib.hid (drs_no xs ps k hlt)
      have hfl := drs_len xs ps k
      rw [hij] at c0 c1 HY HN
      have q47 : wr.cell? ⟨w.heap.size, 47, none⟩ = some (.func (.func 78) #[] #[.pointer (some ⟨g, 0, none⟩)]) := (hbb.cell (p := ⟨w.heap.size, 47, none⟩) (by simp)).trans HQ.out
      have hlg1 := (hb.block g hgl).trans HLG.out
      have hz := hb.size
      have hz1 := hbb.size
      simp only [World.size_alloc] at hz1
      have hlg2 : (wr.alloc (.cells #[.int .i64 i, .int .i64 j] 54)).heap[g]? = some (.cells (labL n xs).toArray 48 (0, 0)) := (Below.heap_alloc _ _ _ (by omega)).trans hlg1
      have HL2 := Lib.hid hlg2
      have q47 : (wr.alloc (.cells #[.int .i64 i, .int .i64 j] 54)).cell? ⟨w.heap.size, 47, none⟩ = some (.func (.func 78) #[] #[.pointer (some ⟨g, 0, none⟩)]) := (World.cell?_alloc_past _ _ _ (by show w.heap.size < wr.heap.size; omega)).trans q47
      have hki : (k : Int) < (ps.length : Int) := by omega
      clear hij hlg1 hlg2
      obtain ⟨wi, hwi⟩ : ∃ wi : World, wi = wr := ⟨_, rfl⟩
      subst hwi
      go_wp2_with fail
      refine (isDoor_any n xs i j g HL.out hi hj _ HL2.out (by simp; omega)).mono ?_
      rintro e w2 ⟨rfl, hb2⟩
      have hB2 := bnext (balloc (Below.refl wi.heap.size wi) (.cells #[.int .i64 i, .int .i64 j] 54)) hb2
      have t0 : w2.cell? ⟨wi.heap.size, 0, none⟩ = some (.int .i64 i) := by rw [hb2.cell (by simp)]; go_cell
      have t1 : w2.cell? ⟨wi.heap.size, 1, none⟩ = some (.int .i64 j) := by rw [hb2.cell (by simp)]; go_cell
      have ho2 := pairs_now ho hB2
      have hbbW := hbb.trans (hB2.mono hbb.size)
      have hzW := hbbW.size
      clear ho hb hbb hb2 c0 c1 q47
      cases hD : doorB xs i j
      · have e := Lib.hid (HN.out hD)
        clear hD
        go_wp2_with fail
        go_roundw
        case rel => exact ⟨k + 1, by omega, by go_num, by rw [e.out]; exact ho2, hbbW⟩
        case measure => simp [intOf]; omega
      · have e := Lib.hid (HY.out hD)
        clear hD
        go_wp2_with (at_builtin; refine append_pair (w.alloc (.cells r 52)).heap.size _ w2 _ ((ps.take k).filter (drB xs)) i j rfl _ _ rfl rfl rfl (by simp) ho2 hzW (by omega) ?_; intro v' w3 ho3 hb3)
        go_roundw
        case rel => exact ⟨k + 1, by omega, by go_num, by rw [e.out]; exact ho3, hbbW.trans hb3⟩
        case measure => simp [intOf]; omega
    · have hk2 : k = ps.length := by omega
      rw [hk2, List.take_length] at ho
      clear hk2
      obtain ⟨sa, sc, sb, rfl, -⟩ := pair_shape ho
      go_wp2_with fail
      go_ret
      exact ⟨_, rfl, World.ownsRow.mono ho hb0.size, hb⟩
end Go.Proofs.Ythkohenobbhhmaa

namespace Go.Proofs.Ythkohenobbhhmaa
open Go.RowKit
set_option maxRecDepth 4000
/-- The points of a cell of the list. -/
def cq (n k t : Nat) : Nat := ((ci n).flatten.getD (k * 3 + t) 0).toNat
theorem ci_cq : ∀ n, n < 9 → (ci n).length = n * n ∧ ∀ k, k < (ci n).length → (ci n).getD k [] = [(cq n k 0 : Int), (cq n k 1 : Int), (cq n k 2 : Int)] ∧
    (ci n).flatten.getD (k * 3) 0 = (cq n k 0 : Int) ∧ (ci n).flatten.getD (k * 3 + 1) 0 = (cq n k 1 : Int) ∧ (ci n).flatten.getD (k * 3 + 2) 0 = (cq n k 2 : Int) ∧ cq n k 0 < Pr.cnt n ∧ cq n k 1 < Pr.cnt n ∧ cq n k 2 < Pr.cnt n := by decide +kernel
def cpairs (n k : Nat) : List (Int × Int) := [((cq n k 0 : Int), (cq n k 1 : Int)), ((cq n k 0 : Int), (cq n k 2 : Int)), ((cq n k 1 : Int), (cq n k 2 : Int))]
set_option maxHeartbeats 400000 in
theorem pairs_any (x y z : Int) (w : World) :
    Calls Try.prog 86 #[.agg #[.int .i64 x, .int .i64 y, .int .i64 z]] w fun e w' => ∃ v, e = .returned v ∧ PairV w' w.heap.size v [(x, y), (x, z), (y, z)] ∧ Below w.heap.size w w' := by
  go_enter Try.func86, Try.ntmps86
  go_wp2_with fail
  go_ret
  refine ⟨_, rfl, ?_, by go_grown⟩
  refine ⟨rfl, .inr ⟨w.heap.size + 1, 3, #[.int .i64 x, .int .i64 y, .int .i64 x, .int .i64 z, .int .i64 y, .int .i64 z], rfl, by omega, ?_, by simp, by simp [maxLen], by simp, rfl⟩⟩
  have e := heap_alloc_new (w.alloc (.cells #[.int .i64 x, .int .i64 y, .int .i64 z] 106)) (.cells #[.int .i64 x, .int .i64 y, .int .i64 x, .int .i64 z, .int .i64 y, .int .i64 z] 54)
  rwa [World.size_alloc] at e
set_option maxHeartbeats 1600000 in
theorem doorsOf_any (n : Nat) (xs : List Int) (base : Nat) (r : Array Value) (k : Nat) (w : World) (hL : labB n xs = true) (hrv : RoomsV w base n xs r) (hk : k < (ci n).length) :
    Calls Try.prog 53 #[.agg r, .int .i64 k] w fun e w' => ∃ v, e = .returned v ∧ PairV w' w.heap.size v ((cpairs n k).filter (drB xs)) ∧ Below w.heap.size w w' := by
  obtain ⟨h1, h2, hl, -⟩ := labB_yes hL
  obtain ⟨hsz, hone, -, -, g, ca, cc, r46, -, htr, -, -, -⟩ := rooms_row hL hrv
  obtain ⟨hfl, a', cap', b, hv, hrd⟩ := trio_shape htr
  simp only [Value.slice.injEq] at hv
  obtain ⟨rfl, -, rfl⟩ := hv
  obtain ⟨hlen, hall⟩ := ci_cq n (by omega)
  obtain ⟨-, hx, hy, hz, hp, hq, hr⟩ := hall k hk
  obtain ⟨rfl, c0⟩ := hrd (k * 3) (by omega)
  have c1 := (hrd (k * 3 + 1) (by omega)).2
  have c2 := (hrd (k * 3 + 2) (by omega)).2
  rw [hx] at c0
  rw [hy] at c1
  rw [hz] at c2
  have hbl : b < w.heap.size := own_lt htr b rfl
  have HL := Lib.hid hL
  have HRV := Lib.hid hrv
  have hnn64 : n * n ≤ 64 := Nat.mul_le_mul h2 h2
  rw [← hlen] at hnn64
  have HPT : Hid (Pts xs.length (cpairs n k)) := Lib.hid (fun t ht => by
    match t, ht with
    | 0, _ => exact ⟨cq n k 0, cq n k 1, rfl, by omega, by omega⟩
    | 1, _ => exact ⟨cq n k 0, cq n k 2, rfl, by omega, by omega⟩
    | 2, _ => exact ⟨cq n k 1, cq n k 2, rfl, by omega, by omega⟩
    | t + 3, ht => exact absurd ht (by simp [cpairs]))
  have HCP : Hid (cpairs n k = [((cq n k 0 : Int), (cq n k 1 : Int)), ((cq n k 0 : Int), (cq n k 2 : Int)), ((cq n k 1 : Int), (cq n k 2 : Int))]) := Lib.hid rfl
  have hki : (k : Int) < ((ci n).length : Int) := by omega
  have hb0 := balloc (Below.refl w.heap.size w) (.cells r 52)
  have hg1 := heap_alloc_new w (.cells r 52)
  have hz1 : (w.alloc (.cells r 52)).heap.size = w.heap.size + 1 := by simp
  have d0 := (hb0.cell (p := ⟨b, k * 3, none⟩) hbl).trans c0
  have d1 := (hb0.cell (p := ⟨b, k * 3 + 1, none⟩) hbl).trans c1
  have d2 := (hb0.cell (p := ⟨b, k * 3 + 2, none⟩) hbl).trans c2
  clear hL hrv hfl hrd hall hx hy hz c0 c1 c2 hlen hl htr hp hq hr
  generalize cq n k 0 = x at d0 HCP
  generalize cq n k 1 = y at d1 HCP
  generalize cq n k 2 = z at d2 HCP
  go_enter Try.func53, Try.ntmps53
  go_wp2_with fail
  generalize w.alloc (.cells r 52) = w1 at hb0 hg1 hz1 d0 d1 d2 ⊢
  refine wp_region_mix (fun w' => Below w1.heap.size w1 w') [6, 7] [0, 1, 2, 3, 4, 5, 6, 7, 8] (by kernel_rfl) (by kernel_rfl) (fun _ _ d _ _ h => by cases d <;> exact h) (by kernel_rfl) rfl (Below.refl _ _).drew ?_
  refine mix_take 0 _ (.agg r) rfl rfl rfl (some 5) rfl (fun w' hw' => exec_row _ _ rfl w.heap.size rfl r (run_loadVar_row w' _ _ _ r (0, 0) _ ((Below.block hw' _ (by omega)).trans hg1) Try.underlying52 rfl (by rw [rmSize, hsz]))) ?_
  simp only [Act.put, List.setIfInBounds_toArray, List.set_cons_zero, List.set_cons_succ]
  refine mix_take 1 _ ?_ rfl rfl rfl (some 6) rfl (fun w' hw' => ?hv1) ?_
  case hv1 => (go_simp; with_reducible rfl)
  simp only [Act.put, List.setIfInBounds_toArray, List.set_cons_zero, List.set_cons_succ]
  refine mix_take 2 _ ?_ rfl rfl rfl (some 7) rfl (fun w' hw' => ?hv2) ?_
  case hv2 =>
    have q : w'.cell? ⟨w.heap.size, 46, none⟩ = some (.slice (some ⟨b, 0, none⟩) (ci n).length cc) := (cell_of_row _ _ _ _ _ (0, 0) ((Below.block hw' _ (by omega)).trans hg1)).trans r46
    go_simp
    with_reducible rfl
  simp only [Act.put, List.setIfInBounds_toArray, List.set_cons_zero, List.set_cons_succ]
  refine mix_take 3 _ ?_ rfl rfl rfl (some 8) rfl (fun w' hw' => ?hv3) ?_
  case hv3 => (go_simp; with_reducible rfl)
  simp only [Act.put, List.setIfInBounds_toArray, List.set_cons_zero, List.set_cons_succ]
  refine mix_take 4 _ ?_ rfl rfl rfl (some 9) rfl (fun w' hw' => ?hv4) ?_
  case hv4 => (go_simp; with_reducible rfl)
  simp only [Act.put, List.setIfInBounds_toArray, List.set_cons_zero, List.set_cons_succ]
  refine mix_take 5 _ ?_ rfl rfl rfl (some 10) rfl (fun w' hw' => ?hv5) ?_
  case hv5 =>
    have e0 := (Below.cell (p := ⟨b, k * 3, none⟩) hw' (by show b < w1.heap.size; omega)).trans d0
    have e1 := (Below.cell (p := ⟨b, k * 3 + 1, none⟩) hw' (by show b < w1.heap.size; omega)).trans d1
    have e2 := (Below.cell (p := ⟨b, k * 3 + 2, none⟩) hw' (by show b < w1.heap.size; omega)).trans d2
    go_simp
    with_reducible rfl
  simp only [Act.put, List.setIfInBounds_toArray, List.set_cons_zero, List.set_cons_succ]
  refine mix_call 6 _ rfl rfl rfl 86 #[.agg #[.int .i64 x, .int .i64 y, .int .i64 z]] (some 11) rfl ?hr6 ?_
  case hr6 => go_simp
  refine (pairs_any x y z _).mono ?_
  rintro e w2 ⟨v, rfl, hp2, hb2⟩
  rw [← HCP.out] at hp2
  obtain ⟨pa, pc, pb, rfl, hpr⟩ := pair_shape hp2
  have hB2 : Below w1.heap.size w1 w2 := (Below.refl _ _).drew.trans hb2
  refine ⟨_, rfl, hB2, ?_⟩
  simp only [Act.put, List.setIfInBounds_toArray, List.set_cons_zero, List.set_cons_succ]
  refine mix_call 7 _ rfl rfl rfl 80 #[.agg r, .slice pa (cpairs n k).length pc] (some 12) rfl ?hr7 ?_
  case hr7 => go_simp
  have hB02 := bnext hb0 hB2
  refine (doorsAmong_any n xs base r (cpairs n k) pa pb pc w2 HL.out (rooms_now HRV.out hB02) HPT.out hpr (by simp [cpairs])).mono ?_
  rintro e w3 ⟨v, rfl, hp3, hb3⟩
  obtain ⟨da, dc, db, rfl, -⟩ := pair_shape hp3
  have hB3 := bnext hB2 hb3
  refine ⟨_, rfl, hB3, ?_⟩
  simp only [Act.put, List.setIfInBounds_toArray, List.set_cons_zero, List.set_cons_succ]
  refine mix_take 8 _ ?_ rfl rfl rfl (some 4) rfl (fun w' hw' => ?hv8) ?_
  case hv8 => (go_simp; with_reducible rfl)
  simp only [Act.put, List.setIfInBounds_toArray, List.set_cons_zero, List.set_cons_succ]
  refine mix_done ?_
  have hB03 := bnext hb0 hB3
  have hz03 := hB02.size
  clear hp2 hpr d0 d1 d2 hg1
  go_wp2_with fail
  go_ret
  exact ⟨_, rfl, World.ownsRow.mono hp3 hz03, hB03⟩
end Go.Proofs.Ythkohenobbhhmaa

namespace Go.Proofs.Ythkohenobbhhmaa
open Go.RowKit
set_option maxRecDepth 4000
/-- The labels that were met, as bits. -/
def sn (xs : List Int) (c : List Nat) : Nat → Nat
  | 0 => 0
  | j + 1 => sn xs c j ||| (1 <<< (xs.getD (c.getD j 0) 0).toNat)
theorem lab3 {xs : List Int} (hA : allB 0 2 xs = true) (i : Nat) (hi : i < xs.length) : xs.getD i 0 = 0 ∨ xs.getD i 0 = 1 ∨ xs.getD i 0 = 2 := by
  have := allB_at hA i hi; omega
theorem or8 : ∀ a, a < 8 → ∀ b, b < 8 → a ||| b < 8 := by decide
theorem sn_lt (xs : List Int) (c : List Nat) (h : ∀ j, j < c.length → xs.getD (c.getD j 0) 0 = 0 ∨ xs.getD (c.getD j 0) 0 = 1 ∨ xs.getD (c.getD j 0) 0 = 2) : ∀ j, j ≤ c.length → sn xs c j < 8
  | 0, _ => by simp [sn]
  | j + 1, hj => by
    have ih := sn_lt xs c h j (by omega)
    simp only [sn]
    rcases h j (by omega) with e | e | e <;> rw [e] <;> exact or8 _ ih _ (by decide)
set_option maxHeartbeats 1600000 in
theorem doFull_any (xs : List Int) (c : List Nat) (a a' : Option Addr) (b b' len len' cap cap' : Nat) (w : World) (hn : xs.length = len) (hc : c.length = len') (h : Rd w a b 0 xs) (h' : Rd w a' b' 0 (c.map (fun (i : Nat) => (i : Int)))) (hA : allB 0 2 xs = true) (hin : ∀ j, j < c.length → c.getD j 0 < xs.length) (hl : c.length ≤ 1000) (_ : xs.length ≤ 1000) :
    Calls Try.prog 33 #[.slice a len cap, .slice a' len' cap'] w fun e w' => e = .returned (.bool (sn xs c c.length == 7)) ∧ w = w' := by
  subst hn hc
  have HR := Lib.hid h
  have HR' := Lib.hid h'
  have HIN := Lib.hid hin
  have HL3 := Lib.hid (fun j (hj : j < c.length) => lab3 hA (c.getD j 0) (hin j hj))
  have HSN := Lib.hid (sn_lt xs c (fun j hj => lab3 hA (c.getD j 0) (hin j hj)))
  clear h h' hA hin
  go_enter Try.func33, Try.ntmps33
  go_wp2_with fail
  go_loop [5, 10] (fun v5 v10 => ∃ j : Nat, j ≤ c.length ∧ v10 = .int .i64 j ∧ v5 = .int .i64 (sn xs c j : Nat)) (fun _ v10 => c.length - (intOf v10).toNat)
  case atStart => exact ⟨0, Nat.zero_le _, rfl, rfl⟩
  case round =>
    obtain ⟨j, hj, rfl, rfl⟩ := hrel
    by_cases hlt : j < c.length
    · obtain ⟨rfl, cj⟩ := HR'.out.2 j (by simpa using hlt)
      have ej : (c.map (fun (i : Nat) => (i : Int))).getD j 0 = ((c.getD j 0 : Nat) : Int) := by
        rw [List.getD_eq_getElem?_getD, List.getElem?_map, List.getD_eq_getElem?_getD, List.getElem?_eq_getElem hlt]; rfl
      rw [ej, Nat.zero_add] at cj
      have hil := HIN.out j hlt
      obtain ⟨rfl, ci'⟩ := HR.out.2 (c.getD j 0) hil
      rw [Nat.zero_add] at ci'
      have hs8 := HSN.out j hj
      have h3 := HL3.out j hlt
      have HE : Hid (sn xs c (j + 1) = sn xs c j ||| (1 <<< (xs.getD (c.getD j 0) 0).toNat)) := Lib.hid rfl
      have hji : (j : Int) < (c.length : Int) := by omega
      clear ej
      generalize c.getD j 0 = i at cj ci' hil h3 HE
      generalize xs.getD i 0 = x at ci' h3 HE
      generalize sn xs c j = s at hs8 HE ⊢
      have hii : (i : Int) < (xs.length : Int) := by omega
      match s, hs8 with
      | 0, _ | 1, _ | 2, _ | 3, _ | 4, _ | 5, _ | 6, _ | 7, _ =>
        rcases h3 with rfl | rfl | rfl <;>
        · go_wp2_with fail
          go_round
          case rel => exact ⟨j + 1, by omega, by go_num, by rw [HE.out]; rfl⟩
          case measure => simp [intOf]; omega
    · have hj2 : j = c.length := by omega
      rw [hj2]
      have hs8 := HSN.out c.length (Nat.le_refl _)
      clear hj2
      have HS : Hid (∀ s, sn xs c c.length = s → (sn xs c c.length == 7) = (s == 7)) := Lib.hid (fun s hs => by rw [hs])
      generalize hs : sn xs c c.length = s at hs8 ⊢
      replace HS := Lib.hid (HS.out s hs)
      clear hs
      match s, hs8 with
      | 0, _ | 1, _ | 2, _ | 3, _ | 4, _ | 5, _ | 6, _ | 7, _ =>
        go_wp2_with fail
        go_ret
        exact ⟨ret_bool (by rw [HS.out]; rfl), rfl⟩
end Go.Proofs.Ythkohenobbhhmaa

namespace Go.Proofs.Ythkohenobbhhmaa
open Go.RowKit
set_option maxRecDepth 4000
theorem sqw (n : Nat) (h2 : n ≤ 8) : wrap64 ((n : Int) * (n : Int)) = ((n * n : Nat) : Int) := by
  have : n * n ≤ 8 * 8 := Nat.mul_le_mul h2 h2
  rw [IntWalk.wrap64_in _ ⟨by have : (0:Int) ≤ (n:Int) * (n:Int) := Int.mul_nonneg (by omega) (by omega); omega, by have : ((n * n : Nat) : Int) = (n:Int) * (n:Int) := Int.natCast_mul n n; omega⟩]
  exact (Int.natCast_mul n n).symm
/-- Whether there are labels and a cell. -/
def okCell (n : Int) (xs : List Int) (k : Int) : Bool := labB n xs && decide (0 ≤ k ∧ k < ((ci n.toNat).length : Nat))
theorem okCell_yes {n k : Int} {xs : List Int} (h : okCell n xs k = true) : ∃ n' k' : Nat, n = n' ∧ k = k' ∧ labB n' xs = true ∧ k' < (ci n').length := by
  simp only [okCell, Bool.and_eq_true, decide_eq_true_eq] at h
  obtain ⟨hL, h3, h4⟩ := h
  obtain ⟨n, rfl⟩ := labB_nat hL
  obtain ⟨k, rfl⟩ := Int.eq_ofNat_of_zero_le h3
  exact ⟨n, k, rfl, rfl, hL, by simpa using h4⟩
def cl (n k : Nat) : List Nat := [cq n k 0, cq n k 1, cq n k 2]
/-- Whether a cell is full. -/
def fullB (xs : List Int) (n k : Nat) : Bool := sn xs (cl n k) 3 == 7
theorem full_eq (n k : Nat) (xs : List Int) (hL : labB n xs = true) (hk : k < (ci n).length) : (((cpairs n k).filter (drB xs)).length == 1) = fullB xs n k := by
  obtain ⟨h1, h2, hl, hA⟩ := labB_yes hL
  obtain ⟨-, hall⟩ := ci_cq n (by omega)
  obtain ⟨-, -, -, -, hp, hq, hr⟩ := hall k hk
  have a := lab3 hA (cq n k 0) (by omega)
  have b := lab3 hA (cq n k 1) (by omega)
  have c := lab3 hA (cq n k 2) (by omega)
  simp only [fullB, cl, sn, cpairs, drB, doorB, List.filter_cons, List.filter_nil, Int.toNat_natCast, List.getD_cons_zero, List.getD_cons_succ]
  rcases a with a | a | a <;> rcases b with b | b | b <;> rcases c with c | c | c <;> simp only [a, b, c] <;> rfl
theorem cl_in (n k : Nat) (xs : List Int) (hL : labB n xs = true) (hk : k < (ci n).length) : ∀ j, j < (cl n k).length → (cl n k).getD j 0 < xs.length := by
  obtain ⟨h1, h2, hl, hA⟩ := labB_yes hL
  obtain ⟨-, hall⟩ := ci_cq n (by omega)
  obtain ⟨-, -, -, -, hp, hq, hr⟩ := hall k hk
  intro j hj
  match j, hj with
  | 0, _ => show cq n k 0 < _; omega
  | 1, _ => show cq n k 1 < _; omega
  | 2, _ => show cq n k 2 < _; omega
  | j + 3, hj => exact absurd hj (by simp [cl])
set_option maxHeartbeats 800000 in
theorem doCell_any (n : Int) (xs : List Int) (k : Int) (a : Option Addr) (b len cap : Nat) (w : World) (hn : xs.length = len) (h : Rd w a b 0 xs) :
    Calls Try.prog 45 #[.int .i64 n, .slice a len cap, .int .i64 k] w fun e w' => e = .returned (.bool (okCell n xs k)) ∧ w = w' := by
  have HM := Lib.hid (meLabels_any n xs a b 0 len cap w hn h)
  clear h
  cases hL : labB n xs
  · have HP : Hid (okCell n xs k = false) := Lib.hid (by simp [okCell, hL])
    rw [hL] at HM
    clear hL
    go_enter Try.func45, Try.ntmps45
    go_wp2_with fail
    refine HM.out.mono ?_
    rintro e w1 ⟨rfl, rfl⟩
    go_wp2_with fail
    go_ret
    exact ⟨ret_f HP.out rfl, rfl⟩
  · obtain ⟨n, rfl⟩ := labB_nat hL
    obtain ⟨h1, h2, hl, -⟩ := labB_yes hL
    rw [hL] at HM
    obtain ⟨hlen, -⟩ := ci_cq n (by omega)
    have hsq := sqw n h2
    have hnn64 : n * n ≤ 64 := Nat.mul_le_mul h2 h2
    rw [← hlen] at hsq hnn64
    by_cases hk : 0 ≤ k ∧ k ≤ ((ci n).length : Int) - 1
    · have HP : Hid (okCell n xs k = true) := Lib.hid (by simp [okCell, hL]; omega)
      clear hL hlen hl
      go_enter Try.func45, Try.ntmps45
      go_wp2_with fail
      refine HM.out.mono ?_
      rintro e w1 ⟨rfl, rfl⟩
      go_wp2_with fail
      refine (l1In_yes k 0 _ hk _).mono ?_
      rintro e w1 ⟨rfl, rfl⟩
      go_wp2_with fail
      go_ret
      exact ⟨ret_b HP.out rfl, rfl⟩
    · have HP : Hid (okCell n xs k = false) := Lib.hid (by simp [okCell, hL]; omega)
      clear hL hlen hl
      go_enter Try.func45, Try.ntmps45
      go_wp2_with fail
      refine HM.out.mono ?_
      rintro e w1 ⟨rfl, rfl⟩
      go_wp2_with fail
      refine (l1In_no k 0 _ hk _).mono ?_
      rintro e w1 ⟨rfl, rfl⟩
      go_wp2_with fail
      go_ret
      exact ⟨ret_f HP.out rfl, rfl⟩
/-- A cell read off the model's list of cells. -/
theorem spec_cell {w : World} {base : Nat} {a : Option Addr} {m cap n k : Nat} (h2 : n ≤ 8) (hc : CellsV w base (.slice a m cap) (ci n)) (hk : k < (ci n).length) :
    m = (ci n).length ∧ ∃ g ra rc rb, a = some ⟨g, 0, none⟩ ∧ g < w.heap.size ∧ w.cell? ⟨g, k, none⟩ = some (.slice ra 3 rc) ∧ Rd w ra rb 0 ((cl n k).map (fun (i : Nat) => (i : Int))) ∧ (ra = none ∨ rb < w.heap.size) := by
  obtain ⟨hm, -, hrows⟩ := cells_row hc
  obtain ⟨g, ra, rc, rb, ha, -, hgl, c1, hx, hrd, -, -⟩ := hrows k hk
  obtain ⟨-, hall⟩ := ci_cq n (by omega)
  obtain ⟨hrow, -⟩ := hall k hk
  rw [hrow] at c1 hrd
  exact ⟨hm, g, ra, rc, rb, ha, hgl, c1, hrd, hx.imp_right fun h => h.2.1⟩
def okIsFull (n : Int) (xs : List Int) (k : Int) : Bool := okCell n xs k
def valIsFull (n : Int) (xs : List Int) (k : Int) : Bool := okCell n xs k && fullB xs n.toNat k.toNat
end Go.Proofs.Ythkohenobbhhmaa

namespace Go.Proofs.Ythkohenobbhhmaa
open Go.RowKit
set_option maxRecDepth 4000
theorem load_rm_g {ops : Array Oper} {rest : List Oper} {o : Oper} {a : Act} {w : World} {Q : Exit → Act → World → Prop} (hw : Region.wanted o (yielded ops a.tmps) = true) (x : Operand) (ho : o.op = .load 52 x) (g : Nat) (hx : a.eval x = .pointer (some ⟨g, 0, none⟩)) (cs : Array Value) (hg : w.heap[g]? = some (.cells cs 52 (0, 0))) (hc : cs.size = 48)
    (h : wpList Try.prog ops Q rest (a.put o.dst (.agg cs)) w) : wpList Try.prog ops Q (o :: rest) a w :=
  wpList_step fun K hK => by
    rw [if_pos hw]
    exact wp_load_row _ x ho g hx _ cs (0, 0) _ hg Try.underlying52 rfl (by rw [rmSize, hc]) (hK _ _ h)
theorem not_op {ops : Array Oper} {rest : List Oper} {o : Oper} {a : Act} {w : World} {Q : Exit → Act → World → Prop} (hgd : o.guard = none) (x : Operand) (ho : o.op = .unOp .not 4 x) (b : Bool) (hx : a.eval x = .bool b)
    (h : wpList Try.prog ops Q rest (a.put o.dst (.bool !b)) w) : wpList Try.prog ops Q (o :: rest) a w := by
  refine wpList_plain hgd fun K hK => ?_
  have e : (execOp a.eval o).run Try.prog w = .ok (.value (.bool !b)) w := by
    unfold execOp
    simp only [ho, hx]
    rfl
  unfold Oper.wp
  rw [e]
  exact hK _ _ h
theorem move_op {ops : Array Oper} {rest : List Oper} {o : Oper} {a : Act} {w : World} {Q : Exit → Act → World → Prop} (hgd : o.guard = none) (x : Operand) (ho : o.op = .move x)
    (h : wpList Try.prog ops Q rest (a.put o.dst (a.eval x)) w) : wpList Try.prog ops Q (o :: rest) a w := by
  refine wpList_plain hgd fun K hK => ?_
  have e : (execOp a.eval o).run Try.prog w = .ok (.value (a.eval x)) w := by
    unfold execOp
    simp only [ho]
    rfl
  unfold Oper.wp
  rw [e]
  exact hK _ _ h
set_option maxHeartbeats 400000 in
theorem hasRoom_yes (n k : Nat) (r : Array Value) (ca : Option Addr) (cc : Nat) (w : World) (hr : r[46]? = some (.slice ca (ci n).length cc)) (hk : k < (ci n).length) (_ : (ci n).length ≤ 1000) :
    Calls Try.prog 47 #[.agg r, .int .i64 k] w fun e w' => e = .returned (.bool true) ∧ Below w.heap.size w w' := by
  have q46 : (w.alloc (.cells r 52)).cell? ⟨w.heap.size, 46, none⟩ = some (.slice ca (ci n).length cc) := (cell_of_row _ _ _ _ _ (0, 0) (heap_alloc_new w _)).trans hr
  have hB := balloc (Below.refl w.heap.size w) (.cells r 52)
  have hki : (k : Int) < ((ci n).length : Int) := by omega
  clear hr
  go_enter Try.func47, Try.ntmps47
  go_wp2_with fail
  go_ret
  exact ⟨ret_bool (by first | (simp; done) | (simp; omega)), hB⟩
set_option maxHeartbeats 400000 in
theorem hasRoom_no (n : Nat) (k : Int) (r : Array Value) (ca : Option Addr) (cc : Nat) (w : World) (hr : r[46]? = some (.slice ca (ci n).length cc)) (hk : ¬ (0 ≤ k ∧ k < ((ci n).length : Nat))) (_ : (ci n).length ≤ 1000) :
    Calls Try.prog 47 #[.agg r, .int .i64 k] w fun e w' => e = .returned (.bool false) ∧ Below w.heap.size w w' := by
  have q46 : (w.alloc (.cells r 52)).cell? ⟨w.heap.size, 46, none⟩ = some (.slice ca (ci n).length cc) := (cell_of_row _ _ _ _ _ (0, 0) (heap_alloc_new w _)).trans hr
  have hB := balloc (Below.refl w.heap.size w) (.cells r 52)
  clear hr
  by_cases hk0 : 0 ≤ k
  · have hk1 : ¬ k < ((ci n).length : Int) := fun h => hk ⟨hk0, h⟩
    clear hk
    go_enter Try.func47, Try.ntmps47
    go_wp2_with fail
    go_ret
    exact ⟨ret_bool (by first | (simp; done) | (simp; omega)), hB⟩
  · clear hk
    go_enter Try.func47, Try.ntmps47
    go_wp2_with fail
    go_ret
    exact ⟨rfl, hB⟩
set_option maxHeartbeats 800000 in
theorem isFull_any (n : Nat) (xs : List Int) (base : Nat) (r : Array Value) (k : Nat) (w : World) (hL : labB n xs = true) (hrv : RoomsV w base n xs r) (hk : k < (ci n).length) :
    Calls Try.prog 48 #[.agg r, .int .i64 k] w fun e w' => e = .returned (.bool (fullB xs n k)) ∧ Below w.heap.size w w' := by
  obtain ⟨hsz, -⟩ := rooms_row hL hrv
  have hB := balloc (Below.refl w.heap.size w) (.cells r 52)
  have hg1 : Hid ((w.alloc (.cells r 52)).heap[w.heap.size]? = some (.cells r 52 (0, 0))) := Lib.hid (heap_alloc_new w _)
  have HD := Lib.hid (doorsOf_any n xs base r k _ hL (rooms_now hrv hB) hk)
  have HF := Lib.hid (full_eq n k xs hL hk)
  have hlen : ((cpairs n k).filter (drB xs)).length ≤ 3 := Nat.le_trans (List.length_filter_le _ _) (by simp [cpairs])
  clear hL hrv
  go_enter Try.func48, Try.ntmps48
  go_wp2_with ((with_reducible refine load_rm_g ?_ _ rfl w.heap.size ?_ r hg1.out hsz ?_); exact rfl; exact rfl; simp only [Act.put, List.setIfInBounds_toArray, List.set_cons_zero, List.set_cons_succ])
  refine HD.out.mono ?_
  rintro e w2 ⟨v, rfl, hp, hb2⟩
  obtain ⟨a, cap, b, rfl, -⟩ := pair_shape hp
  have hB2 := bnext hB hb2
  clear hp hb2 hB
  generalize hm : ((cpairs n k).filter (drB xs)).length = m at hlen ⊢
  rw [hm] at HF
  clear hm
  match m, hlen with
  | 0, _ | 1, _ | 2, _ | 3, _ =>
    go_wp2_with fail
    go_ret
    refine ⟨?_, hB2⟩
    rw [← HF.out]
    rfl
end Go.Proofs.Ythkohenobbhhmaa

namespace Go.Proofs.Ythkohenobbhhmaa
open Go.RowKit
set_option maxRecDepth 4000
theorem made_rows (n : Nat) : (madeCells (Value.slice none 0 0).cells (n * 1)).toList = List.replicate n (Value.slice none 0 0) := by
  rw [Nat.mul_one]; exact toList_madeCells_one _ _
theorem made_rows' (n : Nat) : (madeCells (Value.slice none 0 0).cells n).toList = List.replicate n (Value.slice none 0 0) := toList_madeCells_one _ _
/-- Rows that were made and not yet laid. -/
theorem cells_made {w : World} {base n : Nat} {v : Value} (h : w.ownsRow base 22 1 v n (List.replicate n (.slice none 0 0))) : CellsV w base v (List.replicate n []) := by
  have e : ∀ k, k < n → (List.replicate n (Value.slice none 0 0)).getD k undef = .slice none 0 0 := fun k hk => by
    rw [List.getD_eq_getElem?_getD, List.getElem?_replicate, if_pos hk]; rfl
  refine ⟨List.replicate n (.slice none 0 0), by simpa using h, fun k hk => ?_, fun i j hij hj b hb => ?_⟩
  · rw [List.length_replicate] at hk
    rw [e k hk, show (List.replicate n ([] : List Int)).getD k [] = [] by rw [List.getD_eq_getElem?_getD, List.getElem?_replicate, if_pos hk]; rfl]
    exact World.ownsRow_nil _ _ _ _
  · rw [List.length_replicate] at hj
    rw [e i (by omega)] at hb
    simp [Value.ownBlock] at hb
/-- A new slice laid in a row's place. -/
theorem cells_put {w : World} {base n cap : Nat} {a : Option Addr} {cs : List (List Int)} (h : CellsV w base (.slice a n cap) cs) (k : Nat) (hk : k < cs.length) :
    ∃ g old, a = some ⟨g, 0, none⟩ ∧ base ≤ g ∧ g < w.heap.size ∧ w.cell? ⟨g, k, none⟩ = some old ∧ w.frozen? ⟨g, k, none⟩ = false ∧
      ∀ (w1 : World) (u : Value) (c : List Int), Below w.heap.size w w1 → w1.ownsRow w.heap.size 3 1 u c.length (c.map (Value.int .i64)) → CellsV (w1.setCell ⟨g, k, none⟩ u) base (.slice a n cap) (cs.set k c) := by
  obtain ⟨vs, hrow, h3, h4⟩ := h
  obtain ⟨h1, h2⟩ := id hrow
  have hvl : vs.length = cs.length := by simpa using h1
  rcases h2 with ⟨hv, h0⟩ | ⟨g, cap', cur, hv, hg, hh, hc, hm, hs, ht⟩
  · simp only [Value.slice.injEq] at hv
    omega
  · simp only [Value.slice.injEq] at hv
    obtain ⟨rfl, rfl, rfl⟩ := hv
    have hcl := hrow.cellAt k (by omega)
    have hkv : k < vs.length := by omega
    rw [List.getElem?_eq_getElem hkv] at hcl
    refine ⟨g, vs[k], rfl, hg, own_lt hrow g rfl, hcl, hrow.frozenAt k, fun w1 u c hb hu => ?_⟩
    have hgw : g < w.heap.size := own_lt hrow g rfl
    have hrow1 := own_now hrow hb
    have hst := (hrow1.stored k u).1
    have hne : ∀ k', k' ≠ g → (w1.setCell ⟨g, k, none⟩ u).heap[k']? = w1.heap[k']? := fun k' hk' => heap_setCell_other _ _ _ _ hk'
    have hge : ∀ i, i ≠ k → (vs.set k u).getD i undef = vs.getD i undef := fun i hi => by simp [List.getD, Ne.symm hi]
    have hgk : (vs.set k u).getD k undef = u := by simp [List.getD, hkv]
    have hce : ∀ i, i ≠ k → (cs.set k c).getD i [] = cs.getD i [] := fun i hi => by simp [List.getD, Ne.symm hi]
    have hck : (cs.set k c).getD k [] = c := by simp [List.getD, hk]
    have hub : ∀ b, u.ownBlock = some b → w.heap.size ≤ b := fun b hb' => (hu.lt b hb').1
    have hub2 : w1.ownsRow base 3 1 u c.length (c.map (Value.int .i64)) := ⟨hu.1, by
      rcases hu.2 with h | ⟨g', cap', cur', hv, hg', r⟩
      · exact .inl h
      · exact .inr ⟨g', cap', cur', hv, by omega, r⟩⟩
    refine ⟨vs.set k u, by rw [List.length_set]; exact hst, fun i hi => ?_, fun i j hij hj b hbi => ?_⟩
    · rw [List.length_set] at hi
      by_cases hik : i = k
      · subst hik
        rw [hgk, hck]
        exact own_keep hub2 (fun k' hk' => hne k' (by have := hub k' hk'; omega))
      · rw [hge i hik, hce i hik]
        refine own_keep (own_now (h3 i hi) hb) (fun k' hk' => hne k' (fun e => ?_))
        exact block_ne hrow (h3 i hi) k' hk' (by rw [e]; rfl)
    · rw [List.length_set] at hj
      by_cases hik : i = k
      · subst hik
        rw [hgk] at hbi
        rw [hge j (by omega)]
        intro hbj
        have := own_lt (h3 j hj) b hbj
        have := hub b hbi
        omega
      · rw [hge i hik] at hbi
        by_cases hjk : j = k
        · subst hjk
          rw [hgk]
          intro hbj
          have := own_lt (h3 i (by omega)) b hbi
          have := hub b hbj
          omega
        · rw [hge j hjk]
          exact h4 i j hij hj b hbi
def lst (p : Int × Int) : List Int := [p.1, p.2]
/-- The first k pairs as lists, and empty lists behind them. -/
def lsts (ps : List (Int × Int)) (k : Nat) : List (List Int) := (List.range ps.length).map fun i => if i < k then lst (ps.getD i (0, 0)) else []
theorem lsts_len (ps : List (Int × Int)) (k : Nat) : (lsts ps k).length = ps.length := by simp [lsts]
theorem lsts_at (ps : List (Int × Int)) (k i : Nat) : (lsts ps k)[i]? = if i < ps.length then some (if i < k then lst (ps.getD i (0, 0)) else []) else none := by
  simp only [lsts, List.getElem?_map]
  by_cases h : i < ps.length
  · rw [List.getElem?_range h, if_pos h]; rfl
  · rw [List.getElem?_eq_none (by simpa using h), if_neg h]; rfl
theorem lsts_zero (ps : List (Int × Int)) : lsts ps 0 = List.replicate ps.length [] := by
  apply List.ext_getElem?
  intro i
  rw [lsts_at, List.getElem?_replicate]
  simp
theorem lsts_all (ps : List (Int × Int)) : lsts ps ps.length = ps.map lst := by
  apply List.ext_getElem?
  intro i
  rw [lsts_at, List.getElem?_map]
  by_cases h : i < ps.length
  · rw [if_pos h, if_pos h, List.getD_eq_getElem?_getD, List.getElem?_eq_getElem h]; rfl
  · rw [if_neg h, List.getElem?_eq_none (by omega)]; rfl
theorem lsts_set (ps : List (Int × Int)) (k : Nat) (hk : k < ps.length) : (lsts ps k).set k (lst (ps.getD k (0, 0))) = lsts ps (k + 1) := by
  apply List.ext_getElem?
  intro i
  rw [List.getElem?_set, lsts_at, lsts_at, lsts_len]
  by_cases h1 : k = i
  · subst h1
    rw [if_pos rfl, if_pos hk, if_pos hk, if_pos (by omega)]
  · rw [if_neg h1]
    by_cases h2 : i < ps.length
    · rw [if_pos h2, if_pos h2]
      by_cases h3 : i < k
      · rw [if_pos h3, if_pos (by omega)]
      · rw [if_neg h3, if_neg (by omega)]
    · rw [if_neg h2, if_neg h2]
end Go.Proofs.Ythkohenobbhhmaa

namespace Go.Proofs.Ythkohenobbhhmaa
open Go.RowKit
set_option maxRecDepth 4000
theorem own_cap {w : World} {base e n cap : Nat} {a : Option Addr} {xs : List Value} (h : w.ownsRow base e 1 (.slice a n cap) n xs) : n ≤ cap := by
  rcases h.2 with ⟨hv, h0⟩ | ⟨g, cap', cur, hv, hg, hh, hc, hm, hs, ht⟩
  · omega
  · simp only [Value.slice.injEq] at hv
    omega
/-- The first m pairs of a list's point a with the points behind it. -/
def rowp (c : List Nat) (a m : Nat) : List (Int × Int) := (List.range m).map fun t => (((c.getD a 0 : Nat) : Int), ((c.getD (a + 1 + t) 0 : Nat) : Int))
def prs (c : List Nat) : Nat → List (Int × Int)
  | 0 => []
  | a + 1 => prs c a ++ rowp c a (c.length - (a + 1))
theorem rowp_succ (c : List Nat) (a m : Nat) : rowp c a (m + 1) = rowp c a m ++ [(((c.getD a 0 : Nat) : Int), ((c.getD (a + 1 + m) 0 : Nat) : Int))] := by
  simp [rowp, List.range_succ]
theorem rowp_len (c : List Nat) (a m : Nat) : (rowp c a m).length = m := by simp [rowp]
theorem prs_len (c : List Nat) : ∀ a, (prs c a).length ≤ a * c.length
  | 0 => by simp [prs]
  | a + 1 => by
    have := prs_len c a
    simp only [prs, List.length_append, rowp_len]
    rw [Nat.add_mul]; omega
/-- What the model lists of the doors among the pairs. -/
def outp (xs : List Int) (ps : List (Int × Int)) : List (List Int) := (ps.filter (drB xs)).map lst
theorem outp_yes (xs : List Int) (ps : List (Int × Int)) (i j : Int) (h : doorB xs i j = true) : outp xs (ps ++ [(i, j)]) = outp xs ps ++ [[i, j]] := by
  simp [outp, drB, h, lst]
theorem outp_no (xs : List Int) (ps : List (Int × Int)) (i j : Int) (h : doorB xs i j = false) : outp xs (ps ++ [(i, j)]) = outp xs ps := by
  simp [outp, drB, h]
theorem outp_len (xs : List Int) (ps : List (Int × Int)) : (outp xs ps).length ≤ ps.length := by
  simp only [outp, List.length_map]; exact List.length_filter_le _ _
set_option maxHeartbeats 3200000 in
theorem doOfCell_any (xs : List Int) (c : List Nat) (a a' : Option Addr) (b b' len len' cap cap' : Nat) (w : World) (hn : xs.length = len) (hc : c.length = len') (h : Rd w a b 0 xs) (h' : Rd w a' b' 0 (c.map (fun (i : Nat) => (i : Int)))) (hb0 : len = 0 ∨ b < w.heap.size) (hb0' : a' = none ∨ b' < w.heap.size) (hcap : len' ≤ cap') (hA : allB 0 2 xs = true) (hin : ∀ j, j < c.length → c.getD j 0 < xs.length) (hl : c.length ≤ 100) (hcm : cap' ≤ maxLen) :
    Calls Try.prog 51 #[.slice a len cap, .slice a' len' cap'] w fun e w' => ∃ v, e = .returned v ∧ CellsV w' w.heap.size v (outp xs (prs c c.length)) ∧ Below w.heap.size w w' := by
  subst hc
  have HD := Lib.hid (fun i j w' (hb : Below w.heap.size w w') (hi : i < xs.length) (hj : j < xs.length) => doDoor_any xs i j a b len cap w' hn (h.later hn hb0 hb) hA hi hj)
  have HR' := Lib.hid h'
  have HIN := Lib.hid hin
  have HEQ : Hid (∀ j, j < c.length → (c.map (fun (i : Nat) => (i : Int))).getD j 0 = ((c.getD j 0 : Nat) : Int)) := Lib.hid (fun j hj => by
    rw [List.getD_eq_getElem?_getD, List.getElem?_map, List.getD_eq_getElem?_getD, List.getElem?_eq_getElem hj]; rfl)
  have hcm' := hcm
  unfold maxLen at hcm'
  clear h h' hA hin hn hcm
  go_enter Try.func51, Try.ntmps51
  go_wp2_with fail
  go_loopw [5, 12] (fun v5 v12 wr => ∃ q : Nat, q ≤ c.length ∧ v12 = .int .i64 q ∧ CellsV wr w.heap.size v5 (outp xs (prs c q)) ∧ Below w.heap.size w wr) (fun _ v12 _ => c.length - (intOf v12).toNat)
  case atStart => exact ⟨0, Nat.zero_le _, rfl, cells_nil _ _, Below.refl _ _⟩
  case round =>
    obtain ⟨q, hq, rfl, hcv, hb⟩ := hrel
    by_cases hlt : q < c.length
    · obtain ⟨rfl, cq'⟩ := HR'.out.2 q (by simpa using hlt)
      have hbl : b' < w.heap.size := by rcases hb0' with h | h; cases h; exact h
      have cq' := (hb.cell (p := ⟨b', 0 + q, none⟩) hbl).trans cq'
      rw [HEQ.out q hlt, Nat.zero_add] at cq'
      have hiq := HIN.out q hlt
      have hqi : (q : Int) < (c.length : Int) := by omega
      have HPS : Hid (prs c (q + 1) = prs c q ++ rowp c q (c.length - (q + 1))) := Lib.hid rfl
      have HRS := Lib.hid (rowp_succ c q)
      have hpl := prs_len c q
      have hpl2 : q * c.length ≤ 100 * 100 := Nat.mul_le_mul (by omega) (by omega)
      have HCQ : Hid (∃ i, i = c.getD q 0) := Lib.hid ⟨_, rfl⟩
      generalize hi0 : c.getD q 0 = i at cq' hiq HRS
      clear hi0 HCQ
      by_cases hcq : cap' = q + 1
      · go_wp2_with fail
        go_loopw [5, 22] (fun v5 v22 wr => ∃ m : Nat, m ≤ c.length - (q + 1) ∧ v22 = .int .i64 m ∧ CellsV wr w.heap.size v5 (outp xs (prs c q ++ rowp c q m)) ∧ Below w.heap.size w wr) (fun _ v22 _ => c.length - (q + 1) - (intOf v22).toNat)
        case atStart => exact ⟨0, Nat.zero_le _, rfl, by simpa [rowp] using hcv, hb⟩
        case round =>
          clear hcv hb cq'
          obtain ⟨m, hm, rfl, hcv, hb⟩ := hrel
          by_cases hltm : m < c.length - (q + 1)
          · exfalso; omega
          · have hm2 : m = c.length - (q + 1) := by omega
            rw [hm2, ← HPS.out] at hcv
            clear hm2
            go_wp2_with fail
            go_roundw
            case rel => exact ⟨q + 1, by omega, by go_num, hcv, hb⟩
            case measure => simp [intOf]; omega
      · go_wp2_with fail
        go_loopw [5, 22] (fun v5 v22 wr => ∃ m : Nat, m ≤ c.length - (q + 1) ∧ v22 = .int .i64 m ∧ CellsV wr w.heap.size v5 (outp xs (prs c q ++ rowp c q m)) ∧ Below w.heap.size w wr) (fun _ v22 _ => c.length - (q + 1) - (intOf v22).toNat)
        case atStart => exact ⟨0, Nat.zero_le _, rfl, by simpa [rowp] using hcv, hb⟩
        case round =>
          clear hcv hb cq'
          obtain ⟨m, hm, rfl, hcv, hb⟩ := hrel
          by_cases hltm : m < c.length - (q + 1)
          · have hq1 : q + 1 + m < c.length := by omega
            obtain ⟨-, cm⟩ := HR'.out.2 (q + 1 + m) (by simpa using hq1)
            have cm := (hb.cell (p := ⟨b', 0 + (q + 1 + m), none⟩) hbl).trans cm
            rw [HEQ.out _ hq1, Nat.zero_add] at cm
            have him := HIN.out _ hq1
            have HR1 := Lib.hid (HRS.out m)
            have hrl := rowp_len c q m
            have hol := outp_len xs (prs c q ++ rowp c q m)
            rw [List.length_append, hrl] at hol
            have hmi : (m : Int) < ((c.length - (q + 1) : Nat) : Int) := by omega
            generalize c.getD (q + 1 + m) 0 = j at cm him HR1
            obtain ⟨wi, hwi⟩ : ∃ wi : World, wi = wr := ⟨_, rfl⟩
            subst hwi
            go_wp2_with fail
            refine (HD.out i j _ hb hiq him).mono ?_
            rintro e w2 ⟨rfl, mm, rfl⟩
            have hB2 := below_drewN hb mm
            have hc2 : CellsV (wi.drewN mm) w.heap.size u5 (outp xs (prs c q ++ rowp c q m)) := cells_now hcv (below_drewN (Below.refl _ _) mm)
            have hz2 := hB2.size
            clear hcv hb cm
            generalize wi.drewN mm = w3 at hB2 hc2 hz2 ⊢
            cases hN : doorB xs i j
            · have e := Lib.hid (outp_no xs (prs c q ++ rowp c q m) i j hN)
              rw [List.append_assoc, ← HR1.out] at e
              clear hN
              go_wp2_with fail
              go_roundw
              case rel => exact ⟨m + 1, by omega, by go_num, by rw [e.out]; exact hc2, hB2⟩
              case measure => simp [intOf]; omega
            · have e := Lib.hid (outp_yes xs (prs c q ++ rowp c q m) i j hN)
              rw [List.append_assoc, ← HR1.out] at e
              clear hN
              have hbw := balloc (Below.refl w3.heap.size w3) (.cells #[.int .i64 i, .int .i64 j] 3)
              have hu : (w3.alloc (.cells #[.int .i64 i, .int .i64 j] 3)).ownsRow w3.heap.size 3 1 (.slice (some ⟨w3.heap.size, 0, none⟩) 2 2) [(i : Int), (j : Int)].length ([(i : Int), (j : Int)].map (Value.int .i64)) :=
                own_block (Nat.le_refl _) (heap_alloc_new _ _) (by simp) rfl (by simp [maxLen])
              go_wp2_with (at_builtin; refine append_row w.heap.size _ w3 _ _ _ (outp xs (prs c q ++ rowp c q m)) _ rfl _ _ rfl rfl rfl (by simp) hc2 hbw hu rfl hz2 (by omega) ?_; intro v' w5 hc5 hb5)
              go_roundw
              case rel => exact ⟨m + 1, by omega, by go_num, by rw [e.out]; exact hc5, (balloc hB2 _).trans hb5⟩
              case measure => simp [intOf]; omega
          · have hm2 : m = c.length - (q + 1) := by omega
            rw [hm2, ← HPS.out] at hcv
            clear hm2
            go_wp2_with fail
            go_roundw
            case rel => exact ⟨q + 1, by omega, by go_num, hcv, hb⟩
            case measure => simp [intOf]; omega
    · have hq2 : q = c.length := by omega
      rw [hq2] at hcv
      clear hq2
      obtain ⟨sa, sm, sc, rfl⟩ := cells_shape hcv
      go_wp2_with fail
      go_ret
      exact ⟨_, rfl, hcv, hb⟩
end Go.Proofs.Ythkohenobbhhmaa

namespace Go.Proofs.Ythkohenobbhhmaa
open Go.RowKit
set_option maxRecDepth 4000
theorem cells_keep {w w' : World} {base : Nat} {v : Value} {cs : List (List Int)} (h : CellsV w base v cs) (hk : ∀ k, base ≤ k → w'.heap[k]? = w.heap[k]?) : CellsV w' base v cs := by
  obtain ⟨vs, h1, h2, h3⟩ := h
  exact ⟨vs, own_keep h1 (fun k hk' => hk k (h1.lt k hk').1), fun i hi => own_keep (h2 i hi) (fun k hk' => hk k ((h2 i hi).lt k hk').1), h3⟩
theorem prs3 (n k : Nat) : prs (cl n k) (cl n k).length = cpairs n k := rfl
theorem spec_cell3 {w : World} {base : Nat} {a : Option Addr} {m cap n k : Nat} (h2 : n ≤ 8) (hc : CellsV w base (.slice a m cap) (ci n)) (hk : k < (ci n).length) :
    m = (ci n).length ∧ ∃ g ra rc rb, a = some ⟨g, 0, none⟩ ∧ w.cell? ⟨g, k, none⟩ = some (.slice ra 3 rc) ∧ Rd w ra rb 0 ((cl n k).map (fun (i : Nat) => (i : Int))) ∧ (ra = none ∨ rb < w.heap.size) ∧ 3 ≤ rc ∧ rc ≤ maxLen := by
  obtain ⟨hm, -, hrows⟩ := cells_row hc
  obtain ⟨g, ra, rc, rb, ha, -, hgl, c1, hx, hrd, hown, -⟩ := hrows k hk
  obtain ⟨-, hall⟩ := ci_cq n (by omega)
  obtain ⟨hrow, -⟩ := hall k hk
  rw [hrow] at c1 hrd hown
  have h3 : 3 ≤ rc := own_cap hown
  have hmx : rc ≤ maxLen := by
    rcases hown.2 with ⟨hv, h0⟩ | ⟨g', cap', cur, hv, hg, hh, hcc, hmm, -⟩
    · simp at h0
    · simp only [Value.slice.injEq] at hv
      omega
  exact ⟨hm, g, ra, rc, rb, ha, c1, hrd, hx.imp_right fun h => h.2.1, h3, hmx⟩
def outDoorsOfCell (n : Int) (xs : List Int) (k : Int) : List (List Int) := if okCell n xs k then outp xs (cpairs n.toNat k.toNat) else []
theorem outDoors_len (n : Int) (xs : List Int) (k : Int) : (outDoorsOfCell n xs k).length ≤ 100000 := by
  unfold outDoorsOfCell
  split
  · exact Nat.le_trans (outp_len _ _) (by simp [cpairs])
  · simp
theorem outp_row (xs : List Int) (ps : List (Int × Int)) (i : Nat) (hi : i < (outp xs ps).length) : ((outp xs ps).getD i []).length ≤ 1000 := by
  simp only [outp] at hi ⊢
  rw [List.getD_eq_getElem?_getD, List.getElem?_map, List.getElem?_eq_getElem (by simpa using hi)]
  simp [lst]
theorem outDoors_row (n : Int) (xs : List Int) (k : Int) : ∀ i, i < (outDoorsOfCell n xs k).length → ((outDoorsOfCell n xs k).getD i []).length ≤ 1000 := by
  intro i hi
  unfold outDoorsOfCell at hi ⊢
  split
  · rename_i h; rw [if_pos h] at hi; exact outp_row _ _ i hi
  · rename_i h; rw [if_neg h] at hi; simp at hi
end Go.Proofs.Ythkohenobbhhmaa
