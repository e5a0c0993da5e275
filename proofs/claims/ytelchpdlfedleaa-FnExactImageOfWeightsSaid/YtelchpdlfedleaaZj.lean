import Derived.Test.YtelchpdlfedleaaZa
import Derived.Test.YtelchpdlfedleaaZb
import Derived.Test.YtelchpdlfedleaaZd
import Derived.Test.YtelchpdlfedleaaZf
import Derived.Test.YtelchpdlfedleaaZg
namespace Go.Proofs.Ytelchpdlfedleaa
open Go.RowKit
set_option maxRecDepth 4000
theorem own_cap {w : World} {base e n cap : Nat} {a : Option Addr} {xs : List Value} (h : w.ownsRow base e 1 (.slice a n cap) n xs) : n ≤ cap := by
  rcases h.2 with ⟨hv, h0⟩ | ⟨g, cap', cur, hv, hg, hh, hc, hm, hs, ht⟩
  · omega
  · simp only [Value.slice.injEq] at hv
    omega
/-- The first m pairs of a list's point a with the points behind it. -/
def rowp (c : List Nat) (a m : Nat) : List (Int × Int) := (List.range m).map fun t => (((c.getD a 0 : Nat) : Int), ((c.getD (a + 1 + t) 0 : Nat) : Int))
def prs (c : List Nat) : Nat → List (Int × Int)
  | 0 => []
  | a + 1 => prs c a ++ rowp c a (c.length - (a + 1))
theorem rowp_succ (c : List Nat) (a m : Nat) : rowp c a (m + 1) = rowp c a m ++ [(((c.getD a 0 : Nat) : Int), ((c.getD (a + 1 + m) 0 : Nat) : Int))] := by
  simp [rowp, List.range_succ]
theorem rowp_len (c : List Nat) (a m : Nat) : (rowp c a m).length = m := by simp [rowp]
theorem prs_len (c : List Nat) : ∀ a, (prs c a).length ≤ a * c.length
  | 0 => by simp [prs]
  | a + 1 => by
    have := prs_len c a
    simp only [prs, List.length_append, rowp_len]
    rw [Nat.add_mul]; omega
/-- What the model lists of the doors among the pairs. -/
def outp (xs : List Int) (ps : List (Int × Int)) : List (List Int) := (ps.filter (drB xs)).map lst
theorem outp_yes (xs : List Int) (ps : List (Int × Int)) (i j : Int) (h : doorB xs i j = true) : outp xs (ps ++ [(i, j)]) = outp xs ps ++ [[i, j]] := by
  simp [outp, drB, h, lst]
theorem outp_no (xs : List Int) (ps : List (Int × Int)) (i j : Int) (h : doorB xs i j = false) : outp xs (ps ++ [(i, j)]) = outp xs ps := by
  simp [outp, drB, h]
theorem outp_len (xs : List Int) (ps : List (Int × Int)) : (outp xs ps).length ≤ ps.length := by
  simp only [outp, List.length_map]; exact List.length_filter_le _ _
set_option maxHeartbeats 3200000 in
theorem doOfCell_any (xs : List Int) (c : List Nat) (a a' : Option Addr) (b b' len len' cap cap' : Nat) (w : World) (hn : xs.length = len) (hc : c.length = len') (h : Rd w a b 0 xs) (h' : Rd w a' b' 0 (c.map (fun (i : Nat) => (i : Int)))) (hb0 : len = 0 ∨ b < w.heap.size) (hb0' : a' = none ∨ b' < w.heap.size) (hcap : len' ≤ cap') (hA : allB 0 2 xs = true) (hin : ∀ j, j < c.length → c.getD j 0 < xs.length) (hl : c.length ≤ 100) (hcm : cap' ≤ maxLen) :
    Calls Try.prog 137 #[.slice a len cap, .slice a' len' cap'] w fun e w' => ∃ v, e = .returned v ∧ CellsV w' w.heap.size v (outp xs (prs c c.length)) ∧ Below w.heap.size w w' := by
  subst hc
  have HD := Lib.hid (fun i j w' (hb : Below w.heap.size w w') (hi : i < xs.length) (hj : j < xs.length) => doDoor_any xs i j a b len cap w' hn (h.later hn hb0 hb) hA hi hj)
  have HR' := Lib.hid h'
  have HIN := Lib.hid hin
  have HEQ : Hid (∀ j, j < c.length → (c.map (fun (i : Nat) => (i : Int))).getD j 0 = ((c.getD j 0 : Nat) : Int)) := Lib.hid (fun j hj => by
    rw [List.getD_eq_getElem?_getD, List.getElem?_map, List.getD_eq_getElem?_getD, List.getElem?_eq_getElem hj]; rfl)
  have hcm' := hcm
  unfold maxLen at hcm'
  clear h h' hA hin hn hcm
  go_enter Try.func137, Try.ntmps137
  go_wp2_with fail
  go_loopw [5, 12] (fun v5 v12 wr => ∃ q : Nat, q ≤ c.length ∧ v12 = .int .i64 q ∧ CellsV wr w.heap.size v5 (outp xs (prs c q)) ∧ Below w.heap.size w wr) (fun _ v12 _ => c.length - (intOf v12).toNat)
  case atStart => exact ⟨0, Nat.zero_le _, rfl, cells_nil _ _, Below.refl _ _⟩
  case round =>
    obtain ⟨q, hq, rfl, hcv, hb⟩ := hrel
    by_cases hlt : q < c.length
    · obtain ⟨rfl, cq'⟩ := HR'.out.2 q (by simpa using hlt)
      have hbl : b' < w.heap.size := by rcases hb0' with h | h; cases h; exact h
      have cq' := (hb.cell (p := ⟨b', 0 + q, none⟩) hbl).trans cq'
      rw [HEQ.out q hlt, Nat.zero_add] at cq'
      have hiq := HIN.out q hlt
      have hqi : (q : Int) < (c.length : Int) := by omega
      have HPS : Hid (prs c (q + 1) = prs c q ++ rowp c q (c.length - (q + 1))) := Lib.hid rfl
      have HRS := Lib.hid (rowp_succ c q)
      have hpl := prs_len c q
      have hpl2 : q * c.length ≤ 100 * 100 := Nat.mul_le_mul (by omega) (by omega)
      have HCQ : Hid (∃ i, i = c.getD q 0) := Lib.hid ⟨_, rfl⟩
      generalize hi0 : c.getD q 0 = i at cq' hiq HRS
      clear hi0 HCQ
      by_cases hcq : cap' = q + 1
      · go_wp2_with fail
        go_loopw [5, 22] (fun v5 v22 wr => ∃ m : Nat, m ≤ c.length - (q + 1) ∧ v22 = .int .i64 m ∧ CellsV wr w.heap.size v5 (outp xs (prs c q ++ rowp c q m)) ∧ Below w.heap.size w wr) (fun _ v22 _ => c.length - (q + 1) - (intOf v22).toNat)
        case atStart => exact ⟨0, Nat.zero_le _, rfl, by simpa [rowp] using hcv, hb⟩
        case round =>
          clear hcv hb cq'
          obtain ⟨m, hm, rfl, hcv, hb⟩ := hrel
          by_cases hltm : m < c.length - (q + 1)
          · exfalso; omega
          · have hm2 : m = c.length - (q + 1) := by omega
            rw [hm2, ← HPS.out] at hcv
            clear hm2
            go_wp2_with fail
            go_roundw
            case rel => exact ⟨q + 1, by omega, by go_num, hcv, hb⟩
            case measure => simp [intOf]; omega
      · go_wp2_with fail
        go_loopw [5, 22] (fun v5 v22 wr => ∃ m : Nat, m ≤ c.length - (q + 1) ∧ v22 = .int .i64 m ∧ CellsV wr w.heap.size v5 (outp xs (prs c q ++ rowp c q m)) ∧ Below w.heap.size w wr) (fun _ v22 _ => c.length - (q + 1) - (intOf v22).toNat)
        case atStart => exact ⟨0, Nat.zero_le _, rfl, by simpa [rowp] using hcv, hb⟩
        case round =>
          clear hcv hb cq'
          obtain ⟨m, hm, rfl, hcv, hb⟩ := hrel
          by_cases hltm : m < c.length - (q + 1)
          · have hq1 : q + 1 + m < c.length := by omega
            obtain ⟨-, cm⟩ := HR'.out.2 (q + 1 + m) (by simpa using hq1)
            have cm := (hb.cell (p := ⟨b', 0 + (q + 1 + m), none⟩) hbl).trans cm
            rw [HEQ.out _ hq1, Nat.zero_add] at cm
            have him := HIN.out _ hq1
            have HR1 := Lib.hid (HRS.out m)
            have hrl := rowp_len c q m
            have hol := outp_len xs (prs c q ++ rowp c q m)
            rw [List.length_append, hrl] at hol
            have hmi : (m : Int) < ((c.length - (q + 1) : Nat) : Int) := by omega
            generalize c.getD (q + 1 + m) 0 = j at cm him HR1
            obtain ⟨wi, hwi⟩ : ∃ wi : World, wi = wr := ⟨_, rfl⟩
            subst hwi
            go_wp2_with fail
            refine (HD.out i j _ hb hiq him).mono ?_
            rintro e w2 ⟨rfl, mm, rfl⟩
            have hB2 := below_drewN hb mm
            have hc2 : CellsV (wi.drewN mm) w.heap.size u5 (outp xs (prs c q ++ rowp c q m)) := cells_now hcv (below_drewN (Below.refl _ _) mm)
            have hz2 := hB2.size
            clear hcv hb cm
            generalize wi.drewN mm = w3 at hB2 hc2 hz2 ⊢
            cases hN : doorB xs i j
            · have e := Lib.hid (outp_no xs (prs c q ++ rowp c q m) i j hN)
              rw [List.append_assoc, ← HR1.out] at e
              clear hN
              go_wp2_with fail
              go_roundw
              case rel => exact ⟨m + 1, by omega, by go_num, by rw [e.out]; exact hc2, hB2⟩
              case measure => simp [intOf]; omega
            · have e := Lib.hid (outp_yes xs (prs c q ++ rowp c q m) i j hN)
              rw [List.append_assoc, ← HR1.out] at e
              clear hN
              have hbw := balloc (Below.refl w3.heap.size w3) (.cells #[.int .i64 i, .int .i64 j] 3)
              have hu : (w3.alloc (.cells #[.int .i64 i, .int .i64 j] 3)).ownsRow w3.heap.size 3 1 (.slice (some ⟨w3.heap.size, 0, none⟩) 2 2) [(i : Int), (j : Int)].length ([(i : Int), (j : Int)].map (Value.int .i64)) :=
                own_block (Nat.le_refl _) (heap_alloc_new _ _) (by simp) rfl (by simp [maxLen])
              go_wp2_with (at_builtin; refine append_row w.heap.size _ w3 _ _ _ (outp xs (prs c q ++ rowp c q m)) _ rfl _ _ rfl rfl rfl (by simp) hc2 hbw hu rfl hz2 (by omega) ?_; intro v' w5 hc5 hb5)
              go_roundw
              case rel => exact ⟨m + 1, by omega, by go_num, by rw [e.out]; exact hc5, (balloc hB2 _).trans hb5⟩
              case measure => simp [intOf]; omega
          · have hm2 : m = c.length - (q + 1) := by omega
            rw [hm2, ← HPS.out] at hcv
            clear hm2
            go_wp2_with fail
            go_roundw
            case rel => exact ⟨q + 1, by omega, by go_num, hcv, hb⟩
            case measure => simp [intOf]; omega
    · have hq2 : q = c.length := by omega
      rw [hq2] at hcv
      clear hq2
      obtain ⟨sa, sm, sc, rfl⟩ := cells_shape hcv
      go_wp2_with fail
      go_ret
      exact ⟨_, rfl, hcv, hb⟩
end Go.Proofs.Ytelchpdlfedleaa

namespace Go.Proofs.Ytelchpdlfedleaa
open Go.RowKit
set_option maxRecDepth 4000
theorem cells_keep {w w' : World} {base : Nat} {v : Value} {cs : List (List Int)} (h : CellsV w base v cs) (hk : ∀ k, base ≤ k → w'.heap[k]? = w.heap[k]?) : CellsV w' base v cs := by
  obtain ⟨vs, h1, h2, h3⟩ := h
  exact ⟨vs, own_keep h1 (fun k hk' => hk k (h1.lt k hk').1), fun i hi => own_keep (h2 i hi) (fun k hk' => hk k ((h2 i hi).lt k hk').1), h3⟩
end Go.Proofs.Ytelchpdlfedleaa

namespace Go.Proofs.Ytelchpdlfedleaa
open Go.RowKit
set_option maxRecDepth 4000
theorem not_op {ops : Array Oper} {rest : List Oper} {o : Oper} {a : Act} {w : World} {Q : Exit → Act → World → Prop} (hgd : o.guard = none) (x : Operand) (ho : o.op = .unOp .not 4 x) (b : Bool) (hx : a.eval x = .bool b)
    (h : wpList Try.prog ops Q rest (a.put o.dst (.bool !b)) w) : wpList Try.prog ops Q (o :: rest) a w := by
  refine wpList_plain hgd fun K hK => ?_
  have e : (execOp a.eval o).run Try.prog w = .ok (.value (.bool !b)) w := by
    unfold execOp
    simp only [ho, hx]
    rfl
  unfold Oper.wp
  rw [e]
  exact hK _ _ h
theorem move_op {ops : Array Oper} {rest : List Oper} {o : Oper} {a : Act} {w : World} {Q : Exit → Act → World → Prop} (hgd : o.guard = none) (x : Operand) (ho : o.op = .move x)
    (h : wpList Try.prog ops Q rest (a.put o.dst (a.eval x)) w) : wpList Try.prog ops Q (o :: rest) a w := by
  refine wpList_plain hgd fun K hK => ?_
  have e : (execOp a.eval o).run Try.prog w = .ok (.value (a.eval x)) w := by
    unfold execOp
    simp only [ho]
    rfl
  unfold Oper.wp
  rw [e]
  exact hK _ _ h
end Go.Proofs.Ytelchpdlfedleaa

namespace Go.Proofs.Ytelchpdlfedleaa
open Go.RowKit
set_option maxRecDepth 4000
theorem prs3 (n k : Nat) : prs (cl n k) (cl n k).length = cpairs n k := rfl
theorem spec_cell3 {w : World} {base : Nat} {a : Option Addr} {m cap n k : Nat} (h2 : n ≤ 8) (hc : CellsV w base (.slice a m cap) (ci n)) (hk : k < (ci n).length) :
    m = (ci n).length ∧ ∃ g ra rc rb, a = some ⟨g, 0, none⟩ ∧ w.cell? ⟨g, k, none⟩ = some (.slice ra 3 rc) ∧ Rd w ra rb 0 ((cl n k).map (fun (i : Nat) => (i : Int))) ∧ (ra = none ∨ rb < w.heap.size) ∧ 3 ≤ rc ∧ rc ≤ maxLen := by
  obtain ⟨hm, -, hrows⟩ := cells_row hc
  obtain ⟨g, ra, rc, rb, ha, -, hgl, c1, hx, hrd, hown, -⟩ := hrows k hk
  obtain ⟨-, hall⟩ := ci_cq n (by omega)
  obtain ⟨hrow, -⟩ := hall k hk
  rw [hrow] at c1 hrd hown
  have h3 : 3 ≤ rc := own_cap hown
  have hmx : rc ≤ maxLen := by
    rcases hown.2 with ⟨hv, h0⟩ | ⟨g', cap', cur, hv, hg, hh, hcc, hmm, -⟩
    · simp at h0
    · simp only [Value.slice.injEq] at hv
      omega
  exact ⟨hm, g, ra, rc, rb, ha, c1, hrd, hx.imp_right fun h => h.2.1, h3, hmx⟩
def outDoorsOfCell (n : Int) (xs : List Int) (k : Int) : List (List Int) := if okCell n xs k then outp xs (cpairs n.toNat k.toNat) else []
theorem outDoors_len (n : Int) (xs : List Int) (k : Int) : (outDoorsOfCell n xs k).length ≤ 100000 := by
  unfold outDoorsOfCell
  split
  · exact Nat.le_trans (outp_len _ _) (by simp [cpairs])
  · simp
theorem outp_row (xs : List Int) (ps : List (Int × Int)) (i : Nat) (hi : i < (outp xs ps).length) : ((outp xs ps).getD i []).length ≤ 1000 := by
  simp only [outp] at hi ⊢
  rw [List.getD_eq_getElem?_getD, List.getElem?_map, List.getElem?_eq_getElem (by simpa using hi)]
  simp [lst]
theorem outDoors_row (n : Int) (xs : List Int) (k : Int) : ∀ i, i < (outDoorsOfCell n xs k).length → ((outDoorsOfCell n xs k).getD i []).length ≤ 1000 := by
  intro i hi
  unfold outDoorsOfCell at hi ⊢
  split
  · rename_i h; rw [if_pos h] at hi; exact outp_row _ _ i hi
  · rename_i h; rw [if_neg h] at hi; simp at hi
end Go.Proofs.Ytelchpdlfedleaa

namespace Go.Proofs.Ytelchpdlfedleaa
open Go.RowKit
set_option maxRecDepth 4000
def be (n q : Nat) : Nat := if q < n then Pr.T q else if q < 2 * n then Pr.T n + (q - n) else Pr.T (3 * n - q) + (3 * n - q)
def bor (n m : Nat) : List Int := (List.range m).map (fun q => ((be n q : Nat) : Int))
theorem bor_succ (n m : Nat) : bor n (m + 1) = bor n m ++ [((be n m : Nat) : Int)] := by simp [bor, List.range_succ]
theorem bor_len (n m : Nat) : (bor n m).length = m := by simp [bor]
theorem be1 (n k : Nat) (h : k < n) : ((be n k : Nat) : Int) = (Pr.T ((n : Int) - ((n : Int) - (k : Int))).toNat : Nat) + 0 := by
  rw [show ((n : Int) - ((n : Int) - (k : Int))).toNat = k by omega]; simp [be, h]
theorem be1' (n k : Nat) (h : k < n) : ((be n (0 + k) : Nat) : Int) = (Pr.T ((n : Int) - ((n : Int) - (k : Int))).toNat : Nat) + 0 := by rw [Nat.zero_add]; exact be1 n k h
theorem be2 (n k : Nat) (h : k < n) : ((be n (n + k) : Nat) : Int) = (Pr.T ((n : Int) - 0).toNat : Nat) + (k : Int) := by
  rw [show ((n : Int) - 0).toNat = n by omega]; simp [be, show ¬ n + k < n by omega, show n + k < 2 * n by omega, show n + k - n = k by omega]
theorem be3 (n k : Nat) (h : k < n) : ((be n (2 * n + k) : Nat) : Int) = (Pr.T ((n : Int) - (k : Int)).toNat : Nat) + ((n : Int) - (k : Int)) := by
  rw [show ((n : Int) - (k : Int)).toNat = n - k by omega]; simp [be, show ¬ 2 * n + k < n by omega, show ¬ 2 * n + k < 2 * n by omega, show 3 * n - (2 * n + k) = n - k by omega]; omega
set_option maxHeartbeats 1000000 in
theorem meBorder_any (n : Nat) (h2 : n ≤ 8) (w : World) :
    Calls Try.prog 120 #[.int .i64 n] w fun e w' => ∃ v, e = .returned v ∧ w'.ownsRow w.heap.size 3 1 v (bor n (3 * n)).length ((bor n (3 * n)).map (Value.int .i64)) ∧ Below w.heap.size w w' := by
  go_enter Try.func120, Try.ntmps120
  go_wp2_with fail
  go_loopw [3, 4] (fun v3 v4 wr => ∃ k : Nat, k ≤ n ∧ v4 = .int .i64 k ∧ wr.ownsRow w.heap.size 3 1 v3 (bor n (0 + k)).length ((bor n (0 + k)).map (Value.int .i64)) ∧ Below w.heap.size w wr) (fun _ v4 _ => n - (intOf v4).toNat)
  case atStart => exact ⟨0, Nat.zero_le _, rfl, World.ownsRow_nil _ _ _ _, Below.refl _ _⟩
  case round =>
    obtain ⟨k, hk, rfl, ho, hb⟩ := hrel
    have hl := bor_len n (0 + k)
    have hz := hb.size
    by_cases hlt : k < n
    · have e := Lib.hid (bor_succ n (0 + k))
      have HE := Lib.hid (be1' n k hlt)
      have HL := Lib.hid hl
      clear hl
      go_wp2_with fail
      refine (meIndex_any n ((n : Int) - k) 0 wr.heap.size 3 (by omega) (by omega) (by omega) (by omega) (by omega) _ (by go_cell) (by go_cell)).mono ?_
      rintro e' w' ⟨rfl, rfl⟩
      rw [← HE.out]
      go_wp2_with (at_builtin; refine append_intg w.heap.size _ _ _ (bor n (0 + k)) _ rfl _ _ rfl rfl rfl (by simp) (ho.alloc _) (by simp; omega) (by have := HL.out; omega) ?_; intro v' w3 ho3 hb3)
      go_roundw
      case rel => exact ⟨k + 1, by omega, by go_num, by rw [show 0 + (k + 1) = 0 + k + 1 by omega, e.out]; simpa only [Nat.zero_add] using ho3, (hb.alloc hz _).trans hb3⟩
      case measure => simp [intOf]; omega
    · have hk2 : n = k := by omega
      subst hk2
      rw [show 0 + n = n + 0 by omega] at ho
      clear hlt hl hk
      go_wp2_with fail
      go_loopw [3, 5] (fun v3 v4 wr => ∃ k : Nat, k ≤ n ∧ v4 = .int .i64 k ∧ wr.ownsRow w.heap.size 3 1 v3 (bor n (n + k)).length ((bor n (n + k)).map (Value.int .i64)) ∧ Below w.heap.size w wr) (fun _ v4 _ => n - (intOf v4).toNat)
      case atStart => exact ⟨0, Nat.zero_le _, rfl, ho, hb⟩
      case round =>
        obtain ⟨k, hk, rfl, ho, hb⟩ := hrel
        have hl := bor_len n (n + k)
        have hz := hb.size
        by_cases hlt : k < n
        · have e := Lib.hid (bor_succ n (n + k))
          have HE := Lib.hid (be2 n k hlt)
          have HL := Lib.hid hl
          clear hl
          go_wp2_with fail
          refine (meIndex_any n 0 k wr.heap.size 3 (by omega) (by omega) (by omega) (by omega) (by omega) _ (by go_cell) (by go_cell)).mono ?_
          rintro e' w' ⟨rfl, rfl⟩
          rw [← HE.out]
          go_wp2_with (at_builtin; refine append_intg w.heap.size _ _ _ (bor n (n + k)) _ rfl _ _ rfl rfl rfl (by simp) (ho.alloc _) (by simp; omega) (by have := HL.out; omega) ?_; intro v' w3 ho3 hb3)
          go_roundw
          case rel => exact ⟨k + 1, by omega, by go_num, by rw [show n + (k + 1) = n + k + 1 by omega, e.out]; exact ho3, (hb.alloc hz _).trans hb3⟩
          case measure => simp [intOf]; omega
        · have hk2 : n = k := by omega
          subst hk2
          rw [show n + n = 2 * n + 0 by omega] at ho
          clear hlt hl hk
          go_wp2_with fail
          go_loopw [3, 6] (fun v3 v4 wr => ∃ k : Nat, k ≤ n ∧ v4 = .int .i64 k ∧ wr.ownsRow w.heap.size 3 1 v3 (bor n (2 * n + k)).length ((bor n (2 * n + k)).map (Value.int .i64)) ∧ Below w.heap.size w wr) (fun _ v4 _ => n - (intOf v4).toNat)
          case atStart => exact ⟨0, Nat.zero_le _, rfl, ho, hb⟩
          case round =>
            obtain ⟨k, hk, rfl, ho, hb⟩ := hrel
            have hl := bor_len n (2 * n + k)
            have hz := hb.size
            by_cases hlt : k < n
            · have e := Lib.hid (bor_succ n (2 * n + k))
              have HE := Lib.hid (be3 n k hlt)
              have HL := Lib.hid hl
              clear hl
              go_wp2_with fail
              refine (meIndex_any n k ((n : Int) - k) wr.heap.size 3 (by omega) (by omega) (by omega) (by omega) (by omega) _ (by go_cell) (by go_cell)).mono ?_
              rintro e' w' ⟨rfl, rfl⟩
              rw [← HE.out]
              go_wp2_with (at_builtin; refine append_intg w.heap.size _ _ _ (bor n (2 * n + k)) _ rfl _ _ rfl rfl rfl (by simp) (ho.alloc _) (by simp; omega) (by have := HL.out; omega) ?_; intro v' w3 ho3 hb3)
              go_roundw
              case rel => exact ⟨k + 1, by omega, by go_num, by rw [show 2 * n + (k + 1) = 2 * n + k + 1 by omega, e.out]; exact ho3, (hb.alloc hz _).trans hb3⟩
              case measure => simp [intOf]; omega
            · have hk2 : n = k := by omega
              subst hk2
              obtain ⟨-, a, cap, b, rfl, -, -⟩ := own_shape ho
              go_wp2_with fail
              go_ret
              rw [show 3 * n = 2 * n + n by omega]
              exact ⟨_, rfl, ho, hb⟩
end Go.Proofs.Ytelchpdlfedleaa

namespace Go.Proofs.Ytelchpdlfedleaa
open Go.RowKit
set_option maxRecDepth 4000
/-- A block of three numbers. -/
def Trb (w : World) (A : Nat) (x y z : Int) : Prop := w.heap[A]? = some (.cells #[.int .i64 x, .int .i64 y, .int .i64 z] 50 (0, 0))
theorem Trb.c0 {w : World} {A : Nat} {x y z : Int} (h : Trb w A x y z) : w.cell? ⟨A, 0, none⟩ = some (.int .i64 x) := by rw [cell_of_row w A 0 _ _ (0, 0) h]; rfl
theorem Trb.c1 {w : World} {A : Nat} {x y z : Int} (h : Trb w A x y z) : w.cell? ⟨A, 1, none⟩ = some (.int .i64 y) := by rw [cell_of_row w A 1 _ _ (0, 0) h]; rfl
theorem Trb.c2 {w : World} {A : Nat} {x y z : Int} (h : Trb w A x y z) : w.cell? ⟨A, 2, none⟩ = some (.int .i64 z) := by rw [cell_of_row w A 2 _ _ (0, 0) h]; rfl
theorem Trb.fr {w : World} {A : Nat} {x y z : Int} (h : Trb w A x y z) (j : Nat) : w.frozen? ⟨A, j, none⟩ = false := frozen_of_row w A j _ _ h
theorem Trb.lt {w : World} {A : Nat} {x y z : Int} (h : Trb w A x y z) : A < w.heap.size := (Array.getElem?_eq_some_iff.1 h).1
theorem Trb.of {w w' : World} {A : Nat} {x y z : Int} (h : Trb w A x y z) (hb : w'.heap[A]? = w.heap[A]?) : Trb w' A x y z := hb.trans h
theorem Trb.s0 {w : World} {A : Nat} {x y z : Int} (h : Trb w A x y z) (u : Int) : Trb (w.setCell ⟨A, 0, none⟩ (.int .i64 u)) A u y z := by
  have := heap_setCell_same w A 0 _ _ (.int .i64 u) h; simpa [Trb] using this
theorem Trb.s1 {w : World} {A : Nat} {x y z : Int} (h : Trb w A x y z) (u : Int) : Trb (w.setCell ⟨A, 1, none⟩ (.int .i64 u)) A x u z := by
  have := heap_setCell_same w A 1 _ _ (.int .i64 u) h; simpa [Trb] using this
theorem Trb.s2 {w : World} {A : Nat} {x y z : Int} (h : Trb w A x y z) (u : Int) : Trb (w.setCell ⟨A, 2, none⟩ (.int .i64 u)) A x y u := by
  have := heap_setCell_same w A 2 _ _ (.int .i64 u) h; simpa [Trb] using this
theorem Trb.cast {w : World} {A : Nat} {x y z x' y' z' : Int} (h : Trb w A x y z) (e1 : x = x') (e2 : y = y') (e3 : z = z') : Trb w A x' y' z' := by subst e1 e2 e3; exact h
theorem own_set {w : World} {base e size n g A cap : Nat} {xs : List Value} (h : w.ownsRow base e size (.slice (some ⟨g, 0, none⟩) n cap) n xs) (hne : g ≠ A) (j : Nat) (u : Value) : (w.setCell ⟨A, j, none⟩ u).ownsRow base e size (.slice (some ⟨g, 0, none⟩) n cap) n xs := by
  obtain ⟨h1, h2⟩ := h
  refine ⟨h1, ?_⟩
  rcases h2 with h2 | ⟨g', cap', cur, hv, hg, hh, r⟩
  · exact .inl h2
  · simp only [Value.slice.injEq, Option.some.injEq, Addr.mk.injEq, and_true, true_and] at hv
    obtain ⟨rfl, rfl⟩ := hv
    exact .inr ⟨g, cap, cur, rfl, hg, by rw [Below.heap_setCell _ _ _ _ hne]; exact hh, r⟩
set_option maxHeartbeats 1000000 in
theorem border_any (n : Nat) (h1 : 1 ≤ n) (h2 : n ≤ 8) (w : World) :
    Calls Try.prog 128 #[.agg #[.int .i64 n]] w fun e w' => ∃ v, e = .returned v ∧ w'.ownsRow w.heap.size 3 1 v (bor n (3 * n)).length ((bor n (3 * n)).map (Value.int .i64)) ∧ Below w.heap.size w w' := by
  obtain ⟨i0, hi, hz0, hz1, hz2⟩ := info_parts intInfo
  go_enter Try.func128, Try.ntmps128
  go_wp2_with (at_make; refine wpList_make_own _ rfl _ _ 27 rfl w.heap.size 3 i0 (.int .i64 0) 1 Try.underlying27 hi hz0 hz1 _ _ _ (3 * n) rfl rfl ?hC ?hb2 ?hb3 ?hb4 ?_)
  case hC => simp
  case hb2 => rw [hz2]; omega
  case hb3 => unfold maxLen; omega
  case hb4 => simp
  intro w1 ho1 hg1
  have hm1 : w1.cell? ⟨w.heap.size, 0, none⟩ = some (.int .i64 n) := hg1.cell (v := .int .i64 n) (by go_cell) (by simp)
  have hB1 : Below w.heap.size w w1 := (Below.alloc (Below.refl _ _) (Nat.le_refl _) _).grown hg1 (by simp) (fun k hk => by cases hk)
  have hlt1 : w.heap.size + 1 < w1.heap.size := by
    have := own_lt ho1 _ rfl
    simpa using this
  have ho1' : w1.ownsRow w.heap.size 3 1 (.slice (some ⟨w.heap.size + 1, 0, none⟩) 0 (3 * n)) 0 ((bor n 0).map (Value.int .i64)) := ho1
  clear ho1
  go_wp2_with fail
  go_loopw [3, 14] (fun v3 v14 wr => ∃ (k : Int) (m x y z : Nat), k ≤ 3 ∧ v14 = .int .i64 k ∧ v3 = .slice (some ⟨w.heap.size + 1, 0, none⟩) m (3 * n) ∧
      ((k = 0 ∧ m = 0 ∧ n = x ∧ y = 0 ∧ z = 0) ∨ (k = 1 ∧ n = m ∧ x = 0 ∧ n = y ∧ z = 0) ∨ (k = 2 ∧ m = 2 * n ∧ x = 0 ∧ y = 0 ∧ n = z) ∨ (k = 3 ∧ m = 3 * n)) ∧ Trb wr w1.heap.size x y z ∧ wr.cell? ⟨w.heap.size, 0, none⟩ = some (.int .i64 n) ∧
      wr.ownsRow w.heap.size 3 1 (.slice (some ⟨w.heap.size + 1, 0, none⟩) m (3 * n)) m ((bor n m).map (Value.int .i64)) ∧ Below w.heap.size w wr) (fun _ v14 _ => 3 - (intOf v14).toNat)
  case atStart =>
    refine ⟨0, 0, n, 0, 0, by omega, rfl, rfl, .inl ⟨rfl, rfl, rfl, rfl, rfl⟩, heap_alloc_new _ _, ?_, ?_, balloc hB1 _⟩
    · rw [World.cell?_alloc_past _ _ _ (by show w.heap.size < w1.heap.size; omega)]; exact hm1
    · exact ho1'.alloc _
  case round =>
    obtain ⟨k, m, x, y, z, hk, rfl, rfl, hc, htri, hm, ho, hb⟩ := hrel
    obtain ⟨wo, rfl⟩ : ∃ wo : World, wo = wr := ⟨_, rfl⟩
    rcases hc with ⟨rfl, rfl, rfl, rfl, rfl⟩ | ⟨rfl, rfl, rfl, rfl, rfl⟩ | ⟨rfl, rfl, rfl, rfl, rfl⟩ | ⟨rfl, rfl⟩
    · go_wp2_with fail
      go_loopw [3, 22] (fun v3 v22 wr => ∃ j : Nat, j ≤ n ∧ v22 = .int .i64 j ∧ v3 = .slice (some ⟨w.heap.size + 1, 0, none⟩) (j) (3 * n) ∧ Trb wr w1.heap.size ((n : Int) - (j : Nat)) (j : Nat) 0 ∧ wr.cell? ⟨w.heap.size, 0, none⟩ = some (.int .i64 n) ∧
          wr.ownsRow w.heap.size 3 1 (.slice (some ⟨w.heap.size + 1, 0, none⟩) (j) (3 * n)) (j) ((bor n (j)).map (Value.int .i64)) ∧ Below w.heap.size w wr) (fun _ v22 _ => n - (intOf v22).toNat)
      case atStart => exact ⟨0, Nat.zero_le _, rfl, rfl, htri.cast (by simp) (by simp) (by simp), hm, ho, hb⟩
      case round =>
        clear htri hm ho hb
        obtain ⟨j, hj, rfl, rfl, htri, hm, ho, hb⟩ := hrel
        have hz := hb.size
        by_cases hlt : j < n
        · have HE := Lib.hid (be1 n j hlt)
          have e := Lib.hid (bor_succ n (j))
          have t0 := htri.c0
          have t1 := htri.c1
          have t2 := htri.c2
          have htl := htri.lt
          go_wp2_with fail
          refine (indexOf_any n ((n : Int) - (j : Nat)) (j : Nat) 0 (by omega) (by omega) (by omega) (by omega) (by omega) _).mono ?_
          rintro e' w2 ⟨rfl, hb2⟩
          rw [← HE.out]
          have htri2 := htri.of (hb2.block _ htl)
          have hm2 : w2.cell? ⟨w.heap.size, 0, none⟩ = some (.int .i64 n) := (hb2.cell (by simp; omega)).trans hm
          have ho2 := own_now ho hb2
          have hB2 := bnext hb hb2
          have htl2 := htri2.lt
          have hmlt : w.heap.size < w2.heap.size := by omega
          clear htri hm ho hb hb2 t0 t1 t2
          go_wp2_with (at_builtin; refine append_fit_int w.heap.size (w.heap.size + 1) (3 * n) (j) _ _ (bor n (j)) _ rfl _ _ rfl rfl rfl rfl ho2 (by omega) ?_; intro w3 ho3 hb3 hk3; have htri3 := htri2.of (hk3 _ htl2 (by omega)); have t0 := htri3.c0; have t1 := htri3.c1; have t2 := htri3.c2; have f0 := htri3.fr 0; have f1 := htri3.fr 1; have f2 := htri3.fr 2)
          have hm3 : w3.cell? ⟨w.heap.size, 0, none⟩ = some (.int .i64 n) := (World.cell?_of_block (w := w2) (hk3 w.heap.size hmlt (by omega))).trans hm2
          go_roundw
          case rel =>
            refine ⟨j + 1, by omega, by go_num, rfl, ((htri3.s0 ((n : Int) - (j : Nat) - 1)).s1 ((j : Nat) + 1)).cast (by omega) (by omega) rfl, ?_, ?_, (((hB2.trans hb3).setCell (by show w.heap.size ≤ w1.heap.size; omega) _).setCell (by show w.heap.size ≤ w1.heap.size; omega) _)⟩
            · rw [World.cell?_setCell_other _ _ _ _ (by simp), World.cell?_setCell_other _ _ _ _ (by simp)]; exact hm3
            · have h' : w3.ownsRow w.heap.size 3 1 (.slice (some ⟨w.heap.size + 1, 0, none⟩) (j + 1) (3 * n)) (j + 1) ((bor n (j + 1)).map (Value.int .i64)) := by rw [e.out]; exact ho3
              exact own_set (own_set h' (by omega) _ _) (by omega) _ _
          case measure => simp [intOf]; omega
        · have hj2 : n = j := by omega
          subst hj2
          have h3 : 2 * n + n = 3 * n := by omega
          have H3 := Lib.hid h3
          clear h3
          go_wp2_with fail
          have h3 := H3.out
          go_roundw
          case rel => exact ⟨1, n, 0, n, 0, by omega, rfl, rfl, .inr (.inl ⟨rfl, rfl, rfl, rfl, rfl⟩), htri.cast (by simp) rfl rfl, hm, ho, hb⟩
          case measure => simp [intOf]
    · go_wp2_with fail
      go_loopw [3, 22] (fun v3 v22 wr => ∃ j : Nat, j ≤ n ∧ v22 = .int .i64 j ∧ v3 = .slice (some ⟨w.heap.size + 1, 0, none⟩) (n + j) (3 * n) ∧ Trb wr w1.heap.size 0 ((n : Int) - (j : Nat)) (j : Nat) ∧ wr.cell? ⟨w.heap.size, 0, none⟩ = some (.int .i64 n) ∧
          wr.ownsRow w.heap.size 3 1 (.slice (some ⟨w.heap.size + 1, 0, none⟩) (n + j) (3 * n)) (n + j) ((bor n (n + j)).map (Value.int .i64)) ∧ Below w.heap.size w wr) (fun _ v22 _ => n - (intOf v22).toNat)
      case atStart => exact ⟨0, Nat.zero_le _, rfl, rfl, htri.cast (by simp) (by simp) (by simp), hm, ho, hb⟩
      case round =>
        clear htri hm ho hb
        obtain ⟨j, hj, rfl, rfl, htri, hm, ho, hb⟩ := hrel
        have hz := hb.size
        by_cases hlt : j < n
        · have HE := Lib.hid (be2 n j hlt)
          have e := Lib.hid (bor_succ n (n + j))
          have t0 := htri.c0
          have t1 := htri.c1
          have t2 := htri.c2
          have htl := htri.lt
          go_wp2_with fail
          refine (indexOf_any n 0 ((n : Int) - (j : Nat)) (j : Nat) (by omega) (by omega) (by omega) (by omega) (by omega) _).mono ?_
          rintro e' w2 ⟨rfl, hb2⟩
          rw [← HE.out]
          have htri2 := htri.of (hb2.block _ htl)
          have hm2 : w2.cell? ⟨w.heap.size, 0, none⟩ = some (.int .i64 n) := (hb2.cell (by simp; omega)).trans hm
          have ho2 := own_now ho hb2
          have hB2 := bnext hb hb2
          have htl2 := htri2.lt
          have hmlt : w.heap.size < w2.heap.size := by omega
          clear htri hm ho hb hb2 t0 t1 t2
          go_wp2_with (at_builtin; refine append_fit_int w.heap.size (w.heap.size + 1) (3 * n) (n + j) _ _ (bor n (n + j)) _ rfl _ _ rfl rfl rfl rfl ho2 (by omega) ?_; intro w3 ho3 hb3 hk3; have htri3 := htri2.of (hk3 _ htl2 (by omega)); have t0 := htri3.c0; have t1 := htri3.c1; have t2 := htri3.c2; have f0 := htri3.fr 0; have f1 := htri3.fr 1; have f2 := htri3.fr 2)
          have hm3 : w3.cell? ⟨w.heap.size, 0, none⟩ = some (.int .i64 n) := (World.cell?_of_block (w := w2) (hk3 w.heap.size hmlt (by omega))).trans hm2
          go_roundw
          case rel =>
            refine ⟨j + 1, by omega, by go_num, rfl, ((htri3.s1 ((n : Int) - (j : Nat) - 1)).s2 ((j : Nat) + 1)).cast rfl (by omega) (by omega), ?_, ?_, (((hB2.trans hb3).setCell (by show w.heap.size ≤ w1.heap.size; omega) _).setCell (by show w.heap.size ≤ w1.heap.size; omega) _)⟩
            · rw [World.cell?_setCell_other _ _ _ _ (by simp), World.cell?_setCell_other _ _ _ _ (by simp)]; exact hm3
            · have h' : w3.ownsRow w.heap.size 3 1 (.slice (some ⟨w.heap.size + 1, 0, none⟩) (n + j + 1) (3 * n)) (n + j + 1) ((bor n (n + j + 1)).map (Value.int .i64)) := by rw [e.out]; exact ho3
              exact own_set (own_set h' (by omega) _ _) (by omega) _ _
          case measure => simp [intOf]; omega
        · have hj2 : n = j := by omega
          subst hj2
          have h3 : 2 * n + n = 3 * n := by omega
          have H3 := Lib.hid h3
          clear h3
          go_wp2_with fail
          have h3 := H3.out
          go_roundw
          case rel => exact ⟨2, 2 * n, 0, 0, n, by omega, rfl, by rw [show 2 * n = n + n by omega], .inr (.inr (.inl ⟨rfl, rfl, rfl, rfl, rfl⟩)), htri.cast rfl (by simp) rfl, hm, by rw [show 2 * n = n + n by omega]; exact ho, hb⟩
          case measure => simp [intOf]
    · go_wp2_with fail
      go_loopw [3, 22] (fun v3 v22 wr => ∃ j : Nat, j ≤ n ∧ v22 = .int .i64 j ∧ v3 = .slice (some ⟨w.heap.size + 1, 0, none⟩) (2 * n + j) (3 * n) ∧ Trb wr w1.heap.size (j : Nat) 0 ((n : Int) - (j : Nat)) ∧ wr.cell? ⟨w.heap.size, 0, none⟩ = some (.int .i64 n) ∧
          wr.ownsRow w.heap.size 3 1 (.slice (some ⟨w.heap.size + 1, 0, none⟩) (2 * n + j) (3 * n)) (2 * n + j) ((bor n (2 * n + j)).map (Value.int .i64)) ∧ Below w.heap.size w wr) (fun _ v22 _ => n - (intOf v22).toNat)
      case atStart => exact ⟨0, Nat.zero_le _, rfl, rfl, htri.cast (by simp) (by simp) (by simp), hm, ho, hb⟩
      case round =>
        clear htri hm ho hb
        obtain ⟨j, hj, rfl, rfl, htri, hm, ho, hb⟩ := hrel
        have hz := hb.size
        by_cases hlt : j < n
        · have HE := Lib.hid (be3 n j hlt)
          have e := Lib.hid (bor_succ n (2 * n + j))
          have t0 := htri.c0
          have t1 := htri.c1
          have t2 := htri.c2
          have htl := htri.lt
          go_wp2_with fail
          refine (indexOf_any n (j : Nat) 0 ((n : Int) - (j : Nat)) (by omega) (by omega) (by omega) (by omega) (by omega) _).mono ?_
          rintro e' w2 ⟨rfl, hb2⟩
          rw [← HE.out]
          have htri2 := htri.of (hb2.block _ htl)
          have hm2 : w2.cell? ⟨w.heap.size, 0, none⟩ = some (.int .i64 n) := (hb2.cell (by simp; omega)).trans hm
          have ho2 := own_now ho hb2
          have hB2 := bnext hb hb2
          have htl2 := htri2.lt
          have hmlt : w.heap.size < w2.heap.size := by omega
          clear htri hm ho hb hb2 t0 t1 t2
          go_wp2_with (at_builtin; refine append_fit_int w.heap.size (w.heap.size + 1) (3 * n) (2 * n + j) _ _ (bor n (2 * n + j)) _ rfl _ _ rfl rfl rfl rfl ho2 (by omega) ?_; intro w3 ho3 hb3 hk3; have htri3 := htri2.of (hk3 _ htl2 (by omega)); have t0 := htri3.c0; have t1 := htri3.c1; have t2 := htri3.c2; have f0 := htri3.fr 0; have f1 := htri3.fr 1; have f2 := htri3.fr 2)
          have hm3 : w3.cell? ⟨w.heap.size, 0, none⟩ = some (.int .i64 n) := (World.cell?_of_block (w := w2) (hk3 w.heap.size hmlt (by omega))).trans hm2
          go_roundw
          case rel =>
            refine ⟨j + 1, by omega, by go_num, rfl, ((htri3.s2 ((n : Int) - (j : Nat) - 1)).s0 ((j : Nat) + 1)).cast (by omega) rfl (by omega), ?_, ?_, (((hB2.trans hb3).setCell (by show w.heap.size ≤ w1.heap.size; omega) _).setCell (by show w.heap.size ≤ w1.heap.size; omega) _)⟩
            · rw [World.cell?_setCell_other _ _ _ _ (by simp), World.cell?_setCell_other _ _ _ _ (by simp)]; exact hm3
            · have h' : w3.ownsRow w.heap.size 3 1 (.slice (some ⟨w.heap.size + 1, 0, none⟩) (2 * n + j + 1) (3 * n)) (2 * n + j + 1) ((bor n (2 * n + j + 1)).map (Value.int .i64)) := by rw [e.out]; exact ho3
              exact own_set (own_set h' (by omega) _ _) (by omega) _ _
          case measure => simp [intOf]; omega
        · have hj2 : n = j := by omega
          subst hj2
          have h3 : 2 * n + n = 3 * n := by omega
          have H3 := Lib.hid h3
          clear h3
          go_wp2_with fail
          have h3 := H3.out
          go_roundw
          case rel => exact ⟨3, 3 * n, n, 0, 0, by omega, rfl, by rw [h3], .inr (.inr (.inr ⟨rfl, rfl⟩)), htri.cast rfl rfl (by simp), hm, by rw [h3] at ho; exact ho, hb⟩
          case measure => simp [intOf]
    · obtain ⟨-, a', cap', b', hv, -, -⟩ := own_shape ho
      have hl := bor_len n (3 * n)
      go_wp2_with fail
      go_ret
      exact ⟨_, rfl, by rw [hl]; exact ho, hb⟩
end Go.Proofs.Ytelchpdlfedleaa

namespace Go.Proofs.Ytelchpdlfedleaa
open Go.RowKit
set_option maxRecDepth 4000
theorem be_lt : ∀ n, n < 9 → ∀ q, q < 3 * n → be n q < Pr.cnt n := by decide +kernel
/-- A step of the border. -/
def bp (n k : Nat) : Int × Int := (((be n k : Nat) : Int), ((be n ((k + 1) % (3 * n)) : Nat) : Int))
def bps (n m : Nat) : List (Int × Int) := (List.range m).map (bp n)
theorem bps_succ (n m : Nat) : bps n (m + 1) = bps n m ++ [bp n m] := by simp [bps, List.range_succ]
theorem bps_len (n m : Nat) : (bps n m).length = m := by simp [bps]
theorem bor_at (n m k : Nat) (hk : k < m) : (bor n m).getD k 0 = ((be n k : Nat) : Int) := by
  simp [bor, List.getD, hk]
set_option maxHeartbeats 1600000 in
theorem doBorder_any (n : Nat) (xs : List Int) (a : Option Addr) (b len cap : Nat) (w : World) (hn : xs.length = len) (h : Rd w a b 0 xs) (hb0 : len = 0 ∨ b < w.heap.size) (hL : labB n xs = true) :
    Calls Try.prog 93 #[.int .i64 n, .slice a len cap] w fun e w' => ∃ v, e = .returned v ∧ CellsV w' w.heap.size v (outp xs (bps n (3 * n))) ∧ Below w.heap.size w w' := by
  obtain ⟨h1, h2, hl, hA⟩ := labB_yes hL
  have HD := Lib.hid (fun i j w' (hb : Below w.heap.size w w') (hi : i < xs.length) (hj : j < xs.length) => doDoor_any xs i j a b len cap w' hn (h.later hn hb0 hb) hA hi hj)
  have HBE := Lib.hid (fun q (hq : q < 3 * n) => (by have := be_lt n (by omega) q hq; omega : be n q < xs.length))
  clear h hL hA hl hn
  go_enter Try.func93, Try.ntmps93
  go_wp2_with fail
  refine (meBorder_any n h2 _).mono ?_
  rintro e w1 ⟨v, rfl, ho1, hb1⟩
  obtain ⟨hlen, ba, bc, bb, rfl, hx, hrd⟩ := own_shape ho1
  have hbl := hx.imp_right fun h => own_lt ho1 bb (by rw [h]; rfl)
  have HRD := Lib.hid hrd
  have hbo := bor_len n (3 * n)
  rw [hbo] at ho1
  have HBO := Lib.hid hbo
  clear hlen hrd hx ho1
  rw [HBO.out]
  go_wp2_with fail
  go_loopw [6, 14] (fun v6 v14 wr => ∃ k : Nat, k ≤ 3 * n ∧ v14 = .int .i64 k ∧ CellsV wr w1.heap.size v6 (outp xs (bps n k)) ∧ Below w1.heap.size w1 wr) (fun _ v14 _ => 3 * n - (intOf v14).toNat)
  case atStart => exact ⟨0, Nat.zero_le _, rfl, cells_nil _ _, Below.refl _ _⟩
  case round =>
    obtain ⟨k, hk, rfl, hcv, hb⟩ := hrel
    by_cases hlt : k < 3 * n
    · have hr1 := HRD.out.below hb hbl
      obtain ⟨rfl, c0⟩ := hr1.2 k (by rw [HBO.out]; exact hlt)
      have hmod : (k + 1) % (3 * n) < 3 * n := Nat.mod_lt _ (by omega)
      have c1 := (hr1.2 ((k + 1) % (3 * n)) (by rw [HBO.out]; exact hmod)).2
      rw [bor_at _ _ _ hlt, Nat.zero_add] at c0
      rw [bor_at _ _ _ hmod, Nat.zero_add] at c1
      have hi := HBE.out k hlt
      have hj := HBE.out _ hmod
      have hrem := rem_nat k (3 * n)
      have hmi2 : ((k : Int) + 1) % (3 * (n : Int)) < 3 * (n : Int) := Int.emod_lt_of_pos _ (by omega)
      have hmi3 : 0 ≤ ((k : Int) + 1) % (3 * (n : Int)) := Int.emod_nonneg _ (by omega)
      have HS : Hid (bps n (k + 1) = bps n k ++ [(((be n k : Nat) : Int), ((be n ((k + 1) % (3 * n)) : Nat) : Int))]) := Lib.hid (bps_succ n k)
      have hbl2 := bps_len n k
      have hol := outp_len xs (bps n k)
      have hki : (k : Int) < ((3 * n : Nat) : Int) := by omega
      have hmi : (((k + 1) % (3 * n) : Nat) : Int) < ((3 * n : Nat) : Int) := by omega
      have HW := Lib.hid (bnext hb1 hb)
      clear hr1 hbl
      generalize be n k = i at c0 hi HS
      generalize be n ((k + 1) % (3 * n)) = j at c1 hj HS
      obtain ⟨wi, hwi⟩ : ∃ wi : World, wi = wr := ⟨_, rfl⟩
      subst hwi
      go_wp2_with fail
      refine (HD.out i j _ HW.out hi hj).mono ?_
      rintro e w2 ⟨rfl, mm, rfl⟩
      have hB2 := below_drewN hb mm
      have hc2 : CellsV (wi.drewN mm) w1.heap.size u6 (outp xs (bps n k)) := cells_now hcv (below_drewN (Below.refl _ _) mm)
      have hz2 := hB2.size
      clear hcv hb c0 c1
      generalize wi.drewN mm = w3 at hB2 hc2 hz2 ⊢
      cases hN : doorB xs i j
      · have e := Lib.hid (outp_no xs (bps n k) i j hN)
        rw [← HS.out] at e
        clear hN
        go_wp2_with fail
        go_roundw
        case rel => exact ⟨k + 1, by omega, by go_num, by rw [e.out]; exact hc2, hB2⟩
        case measure => simp [intOf]; omega
      · have e := Lib.hid (outp_yes xs (bps n k) i j hN)
        rw [← HS.out] at e
        clear hN
        have hbw := balloc (Below.refl w3.heap.size w3) (.cells #[.int .i64 i, .int .i64 j] 3)
        have hu : (w3.alloc (.cells #[.int .i64 i, .int .i64 j] 3)).ownsRow w3.heap.size 3 1 (.slice (some ⟨w3.heap.size, 0, none⟩) 2 2) [(i : Int), (j : Int)].length ([(i : Int), (j : Int)].map (Value.int .i64)) :=
          own_block (Nat.le_refl _) (heap_alloc_new _ _) (by simp) rfl (by simp [maxLen])
        go_wp2_with (at_builtin; refine append_row w1.heap.size _ w3 _ _ _ (outp xs (bps n k)) _ rfl _ _ rfl rfl rfl (by simp) hc2 hbw hu rfl hz2 (by omega) ?_; intro v' w5 hc5 hb5)
        go_roundw
        case rel => exact ⟨k + 1, by omega, by go_num, by rw [e.out]; exact hc5, (balloc hB2 _).trans hb5⟩
        case measure => simp [intOf]; omega
    · have hk2 : k = 3 * n := by omega
      rw [hk2] at hcv
      clear hk2
      obtain ⟨sa, sm, sc, rfl⟩ := cells_shape hcv
      go_wp2_with fail
      go_ret
      exact ⟨_, rfl, cells_base hcv hb1.size, bnext hb1 hb⟩
end Go.Proofs.Ytelchpdlfedleaa

namespace Go.Proofs.Ytelchpdlfedleaa
open Go.RowKit
set_option maxRecDepth 4000
def outBorderDoors (n : Int) (xs : List Int) : List (List Int) := if labB n xs then outp xs (bps n.toNat (3 * n.toNat)) else []
theorem outBorder_len (n : Int) (xs : List Int) : (outBorderDoors n xs).length ≤ 100000 := by
  unfold outBorderDoors
  cases hL : labB n xs
  · simp
  · obtain ⟨n, rfl⟩ := labB_nat hL
    obtain ⟨h1, h2, -, -⟩ := labB_yes hL
    have e := outp_len xs (bps n (3 * n))
    rw [bps_len] at e
    simp only [if_true, Int.toNat_natCast]
    omega
theorem outBorder_row (n : Int) (xs : List Int) : ∀ i, i < (outBorderDoors n xs).length → ((outBorderDoors n xs).getD i []).length ≤ 1000 := by
  intro i hi
  unfold outBorderDoors at hi ⊢
  split
  · rename_i h; rw [if_pos h] at hi; exact outp_row _ _ i hi
  · rename_i h; rw [if_neg h] at hi; simp at hi
end Go.Proofs.Ytelchpdlfedleaa

namespace Go.Proofs.Ytelchpdlfedleaa
open Go.RowKit
set_option maxRecDepth 4000
/-- The turns of the first k doors. -/
def tn (xs : List Int) (ds : List (Int × Int)) : Nat → Int
  | 0 => 0
  | k + 1 => tn xs ds k + (xs.getD (ds.getD k (0, 0)).2.toNat 0 - xs.getD (ds.getD k (0, 0)).1.toNat 0)
theorem pts_filter {m : Nat} {ps : List (Int × Int)} {f : Int × Int → Bool} (h : Pts m ps) : Pts m (ps.filter f) := by
  intro k hk
  have hm : (ps.filter f).getD k (0, 0) ∈ ps := by
    rw [List.getD_eq_getElem?_getD, List.getElem?_eq_getElem hk]
    exact (List.mem_filter.1 (List.getElem_mem hk)).1
  obtain ⟨i, hi, e⟩ := List.mem_iff_getElem.1 hm
  have := h i hi
  rw [List.getD_eq_getElem?_getD, List.getElem?_eq_getElem hi] at this
  simp only [Option.getD_some] at this
  rw [e] at this
  exact this
theorem bps_pts (n : Nat) (xs : List Int) (hL : labB n xs = true) : Pts xs.length (bps n (3 * n)) := by
  obtain ⟨h1, h2, hl, -⟩ := labB_yes hL
  intro t ht
  rw [bps_len] at ht
  refine ⟨be n t, be n ((t + 1) % (3 * n)), ?_, ?_, ?_⟩
  · simp [bps, bp, List.getD, ht]
  · have := be_lt n (by omega) t ht; omega
  · have := be_lt n (by omega) ((t + 1) % (3 * n)) (Nat.mod_lt _ (by omega)); omega
theorem tn_bd (xs : List Int) (ds : List (Int × Int)) (hA : allB 0 2 xs = true) (hp : Pts xs.length ds) : ∀ k, k ≤ ds.length → -(2 * (k : Int)) ≤ tn xs ds k ∧ tn xs ds k ≤ 2 * (k : Int)
  | 0, _ => by simp [tn]
  | k + 1, hk => by
    have ih := tn_bd xs ds hA hp k (by omega)
    obtain ⟨i, j, e, hi, hj⟩ := hp k (by omega)
    have a := allB_at hA i hi
    have b := allB_at hA j hj
    simp only [tn, e, Int.toNat_natCast]
    omega
def bds (n : Nat) (xs : List Int) : List (Int × Int) := (bps n (3 * n)).filter (drB xs)
theorem bds_len (n : Nat) (xs : List Int) : (bds n xs).length ≤ 3 * n := Nat.le_trans (List.length_filter_le _ _) (by rw [bps_len]; exact Nat.le_refl _)
def okTurnsOfBorder (n : Int) (xs : List Int) : Bool := labB n xs
def valTurnsOfBorder (n : Int) (xs : List Int) : Int := if labB n xs then tn xs (bds n.toNat xs) (bds n.toNat xs).length else 0
end Go.Proofs.Ytelchpdlfedleaa
