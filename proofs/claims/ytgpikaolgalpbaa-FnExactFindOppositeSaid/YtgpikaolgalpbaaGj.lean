import Derived.Test.YtgpikaolgalpbaaGi
import Derived.Test.YtgpikaolgalpbaaYu
namespace Go.Proofs.Ytgpikaolgalpbaa
open Go.RowKit
set_option maxRecDepth 4000
/-- The door of the border with these points, its walk, and the lists that SquareWalk answers. -/
def swF (n : Nat) (xs : List Int) (i j : Int) : Option (Int × Int) := ((sqPs n).filter (sumB xs 3)).find? (fun q => sameB q (i, j))
def swW (n : Nat) (xs : List Int) (p : Int × Int) : List Nat × (Int × Int) × Bool := gFrom (sqC n).length (cpr (sqC n)) (sumB xs 3) (-1) p
def edL : Option (Int × Int) → List Int
  | none => []
  | some p => [p.1, p.2]
def okSW (n : Int) (xs : List Int) (i j : Int) : Bool := sqB n xs && (swF n.toNat xs i j).isSome
def val1 (n : Int) (xs : List Int) (i j : Int) : List Int := if sqB n xs then (match swF n.toNat xs i j with | none => [] | some p => ints (swW n.toNat xs p).1) else []
def val2 (n : Int) (xs : List Int) (i j : Int) : List Int := if sqB n xs then (match swF n.toNat xs i j with | none => [] | some p => edL (edgeP xs n.toNat (swW n.toNat xs p))) else []
theorem sw_no {n : Int} {xs : List Int} (i j : Int) (h : sqB n xs = false) : val1 n xs i j = [] ∧ val2 n xs i j = [] ∧ okSW n xs i j = false := by simp [val1, val2, okSW, h]
theorem sw_none {n : Nat} {xs : List Int} {i j : Int} (h : swF n xs i j = none) : val1 n xs i j = [] ∧ val2 n xs i j = [] ∧ okSW n xs i j = false := by simp [val1, val2, okSW, h]
theorem sw_some {n : Nat} {xs : List Int} {i j : Int} {p : Int × Int} (hL : sqB n xs = true) (h : swF n xs i j = some p) : val1 n xs i j = ints (swW n xs p).1 ∧ val2 n xs i j = edL (edgeP xs n (swW n xs p)) ∧ okSW n xs i j = true := by simp [val1, val2, okSW, h, hL]
theorem gWlk_len (M : Nat) (cp : Nat → List (Int × Int)) (d : Int × Int → Bool) : ∀ f s, (gWlk M cp d f s).1.length ≤ f
  | 0, s => by simp [gWlk]
  | f + 1, s => by
    rw [gWlk]
    split
    · simp
    · split
      · simp
      · rename_i k _
        have := gWlk_len M cp d f
        simp only [List.length_cons]
        exact Nat.succ_le_succ (this _)
theorem gFrom_len (M : Nat) (cp : Nat → List (Int × Int)) (d : Int × Int → Bool) (fr : Int) (p : Int × Int) : (gFrom M cp d fr p).1.length ≤ M := by
  unfold gFrom
  split
  · simp
  · exact gWlk_len M cp d M _
/-- Two lists of the call's own, each in a block of its own, and a flag. -/
def Gives2 (w : World) (e1 e2 : TypeId) (L1 L2 : List Int) (ok : Bool) (e : Ending) (w' : World) : Prop :=
  ∃ v1 v2, e = .returned (.tuple #[v1, v2, .bool ok]) ∧ w'.ownsRow w.heap.size e1 1 v1 L1.length (L1.map (Value.int .i64)) ∧ w'.ownsRow w.heap.size e2 1 v2 L2.length (L2.map (Value.int .i64)) ∧ (∀ k, v1.ownBlock = some k → v2.ownBlock = some k → False) ∧ Below w.heap.size w w'
theorem gives2_none {w w' : World} {e1 e2 : TypeId} {L1 L2 : List Int} {ok : Bool} (h : L1 = [] ∧ L2 = [] ∧ ok = false) (hb : Below w.heap.size w w') : Gives2 w e1 e2 L1 L2 ok (.returned (.tuple #[.slice none 0 0, .slice none 0 0, .bool false])) w' := by
  obtain ⟨rfl, rfl, rfl⟩ := h
  exact ⟨_, _, rfl, World.ownsRow_nil _ _ _ _, World.ownsRow_nil _ _ _ _, (fun k h _ => by cases h), hb⟩
theorem gives2_one {w w' : World} {e1 e2 : TypeId} {L1 L2 M1 : List Int} {ok : Bool} {v : Value} (h : L1 = M1 ∧ L2 = [] ∧ ok = true) (ho : w'.ownsRow w.heap.size e1 1 v M1.length (M1.map (Value.int .i64))) (hb : Below w.heap.size w w') : Gives2 w e1 e2 L1 L2 ok (.returned (.tuple #[v, .slice none 0 0, .bool true])) w' := by
  obtain ⟨rfl, rfl, rfl⟩ := h
  exact ⟨_, _, rfl, ho, World.ownsRow_nil _ _ _ _, (fun k _ h => by cases h), hb⟩
theorem gives2_two {w w' : World} {e1 e2 : TypeId} {L1 L2 M1 M2 : List Int} {ok : Bool} {v u : Value} (h : L1 = M1 ∧ L2 = M2 ∧ ok = true) (ho : w'.ownsRow w.heap.size e1 1 v M1.length (M1.map (Value.int .i64))) (ho2 : w'.ownsRow w.heap.size e2 1 u M2.length (M2.map (Value.int .i64))) (hd : ∀ k, v.ownBlock = some k → u.ownBlock = some k → False) (hb : Below w.heap.size w w') : Gives2 w e1 e2 L1 L2 ok (.returned (.tuple #[v, u, .bool true])) w' := by
  obtain ⟨rfl, rfl, rfl⟩ := h
  exact ⟨_, _, rfl, ho, ho2, hd, hb⟩
set_option maxHeartbeats 3200000 in
theorem implSquareWalk (n : Int) (xs : List Int) (i j : Int) (a : Option Addr) (b len cap : Nat) (w : World) (hn : xs.length = len) (hsm : len ≤ 1048576) (h : Rd w a b 0 xs) (hb0 : len = 0 ∨ b < w.heap.size) :
    Calls Try.prog 39 #[.int .i64 n, .slice a len cap, .int .i64 i, .int .i64 j] w (Gives2 w 3 89 (val1 n xs i j) (val2 n xs i j) (okSW n xs i j)) := by
  cases hL : sqB n xs
  · have H1 := Lib.hid (sw_no i j hL)
    have HR := Lib.hid (lsqOf_no n xs a b len cap w hn h hb0 hsm hL)
    clear hL hn h hb0
    go_enter Try.func39, Try.ntmps39
    go_wp2_with fail
    refine HR.out.mono ?_
    rintro e w1 ⟨rfl, hb1⟩
    have hB1 := balloc hb1 (.cells lq0 69)
    unfold lq0 at hB1 ⊢
    go_wp2_with fail
    go_returns
    exact gives2_none H1.out hB1
  · have HR := Lib.hid (lsqOf_yes n xs a b len cap w hn h hb0 hsm hL)
    obtain ⟨n, rfl, h1, h2, -, -⟩ := sqB_nat hL
    have HRD := Lib.hid (fun W (hB : Below w.heap.size w W) => h.later hn hb0 hB)
    have HB0 := Lib.hid hb0
    have HL := Lib.hid hL
    have HN := Lib.hid hn
    have HFG := Lib.hid (sq_fgr hL)
    have HS : Hid (swF n xs i j = ((sqPs n).filter (sumB xs 3)).find? (fun q => sameB q (i, j))) := Lib.hid rfl
    clear hn h hb0
    go_enter Try.func39, Try.ntmps39
    go_wp2_with fail
    refine HR.out.mono ?_
    rintro e w1 ⟨rfl, hb1⟩
    have hg1 := heap_alloc_new w1 (.cells (lqA n a len cap) 69)
    have hB1 := balloc hb1 (.cells (lqA n a len cap) 69)
    have hs1 : (w1.alloc (.cells (lqA n a len cap) 69)).heap.size = w1.heap.size + 1 := by simp
    have hwz := hb1.size
    clear hb1
    generalize hlq : lqA (n : Int) a len cap = q at hg1 hB1 hs1 ⊢
    have hq2 : q = #[.int .i64 n, .iface 101 (.slice a len cap)] := hlq.symm
    rw [hq2] at hg1 hB1 hs1 ⊢
    clear hlq hq2 q
    go_wp2_with fail
    refine (sqRooms_any n a len cap h1 h2 _).mono ?_
    rintro e w2 ⟨r, rfl, hv2, hb2⟩
    have hv2 : RmsV w2 _ (sqC n) (sqPs n) (doorV n a len cap) r := hv2
    have hg2 := (hb2.block w1.heap.size (by omega)).trans hg1
    have hB2 := bnext hB1 hb2
    have hs2 := hb2.size
    have hrw : RmW 88 #[.agg (lqA n a len cap)] #[] (sumB xs 3) (sqC n) (sqPs n) _ r w2 := sq_rmw HN.out (HRD.out _ hB2) (by have := HB0.out; have := hB2.size; omega) HL.out hv2
    obtain ⟨hsz, hone⟩ := rm_size hrw
    clear hg1 hB1 hb2
    cases hF : swF n xs i j with
    | none =>
      have H1 := Lib.hid (sw_none hF)
      have HNO : Hid (((sqPs n).filter (sumB xs 3)).find? (fun q => sameB q (i, j)) = none) := Lib.hid (HS.out.symm.trans hF)
      clear hF hL
      go_wp2_with fail
      refine (walkFromBorder_none _ _ _ _ _ _ _ _ r i j w2 HFG.out hrw HNO.out).mono ?_
      rintro e w3 ⟨rfl, hb3⟩
      have hB3 := bnext hB2 hb3
      clear hrw hv2 hg2 hb3
      go_wp2_with (first
        | (with_reducible refine alloc_blk zeroW run_alloc_wk rfl rfl ?_)
        | ((with_reducible refine store_blk blkWalk rfl _ _ rfl w3.heap.size zeroW zeroW ?_ ?_ ?_ zeroW_size zeroW_size zeroW_one w3.heap.size (Nat.le_refl _) ?_); exact rfl; exact rfl; exact heap_alloc_new _ _; intro w4 hg4 hb4 hk4 hs4; have hB4 := bnext hB3 ((balloc (Below.refl w3.heap.size w3) (.cells zeroW 91)).trans hb4)))
      go_returns
      exact gives2_none H1.out hB4
    | some p =>
      have H1 := Lib.hid (sw_some hL hF)
      have HSO : Hid (((sqPs n).filter (sumB xs 3)).find? (fun q => sameB q (i, j)) = some p) := Lib.hid (HS.out.symm.trans hF)
      have hmem : p ∈ (sqPs n).filter (sumB xs 3) := List.mem_of_find?_eq_some HSO.out
      obtain ⟨pre, l, e1, e2, e3⟩ := sq_edge hL hmem
      have HGO := Lib.hid (sq_goes hL hmem).1
      have hwl : (swW n xs p).1 = pre ++ [l] := e1
      have HWL : Hid (pre.length ≤ 1000) := Lib.hid (by
        have e4 := gFrom_len (sqC n).length (cpr (sqC n)) (sumB xs 3) (-1) p
        have := HFG.out.clen
        rw [e1, List.length_append] at e4
        simp only [List.length_cons, List.length_nil] at e4
        omega)
      have HED : Hid ((swW n xs p).2.2 = true → ∃ e rest, oppAt xs n l = e :: rest) := Lib.hid e3
      have HE0 : Hid ((swW n xs p).2.2 = false → edgeP xs n (swW n xs p) = none) := Lib.hid (fun h => by simp [edgeP, h])
      have HE1 : Hid ((swW n xs p).2.2 = true → edgeP xs n (swW n xs p) = (oppAt xs n l).head?) := Lib.hid (fun h => by rw [edgeP, if_pos h, hwl, lastG_app])
      have HWW : Hid (gFrom (sqC n).length (cpr (sqC n)) (sumB xs 3) (-1) p = swW n xs p) := Lib.hid rfl
      clear hF hL hmem e1 e3
      generalize swW n xs p = W at H1 hwl HED HE0 HE1 HWW
      obtain ⟨L, D, f⟩ := W
      simp only at hwl H1 HED HE0 HE1
      subst hwl
      go_wp2_with fail
      refine (walkFromBorder_some _ _ _ _ _ _ _ _ r i j p w2 HFG.out hrw HSO.out HGO.out).mono ?_
      rw [HWW.out]
      rintro e w3 ⟨pv, u, v, rfl, ho3, -, hb3⟩
      simp only at ho3
      have ho3 := own_num ho3 (ints_len (pre ++ [l])).symm
      obtain ⟨-, pa, pc, pb, rfl, -⟩ := own_shape ho3
      have hwz2 : Hid ((wkA r (.slice pa (ints (pre ++ [l])).length pc) u v f).size = 7 ∧ (wkA r (.slice pa (ints (pre ++ [l])).length pc) u v f).all (·.oneCell') = true) := Lib.hid ⟨wkA_size _ _ _ _ _ hsz, wkA_one _ _ _ _ _ _ _ hone⟩
      have hg3 := (hb3.block w1.heap.size (by omega)).trans hg2
      have hB3 := bnext hB2 hb3
      have hv3 := rms_now hv2 hb3
      have hs3 := hb3.size
      clear hrw hv2 hg2 hb3 hone
      have hg3a := (Below.heap_alloc w3 (.cells zeroW 91) w1.heap.size (by omega)).trans hg3
      go_wp2_with (first
        | (with_reducible refine alloc_blk zeroW run_alloc_wk rfl rfl ?_)
        | ((with_reducible refine store_blk blkWalk rfl _ _ rfl w3.heap.size (wkA r (.slice pa (ints (pre ++ [l])).length pc) u v f) zeroW ?_ ?_ ?_ zeroW_size hwz2.out.1 hwz2.out.2 w3.heap.size (Nat.le_refl _) ?_); exact rfl; exact rfl; exact heap_alloc_new _ _; intro w4 hg4 hb4 hk4 hs4; have hb34 := (balloc (Below.refl w3.heap.size w3) (.cells zeroW 91)).trans hb4; have hgq := (hk4 w1.heap.size (by omega)).trans hg3a; have q0 := blk_cell hgq 0 (.int .i64 n) rfl; have q1 := blk_cell hgq 1 (.iface 101 (.slice a len cap)) rfl)
        | ((with_reducible refine load_blk blkWalk ?_ _ rfl w3.heap.size ?_ _ hg4 hwz2.out.1 ?_); exact rfl; exact rfl; simp only [Act.put, List.setIfInBounds_toArray, List.set_cons_zero, List.set_cons_succ]))
      have hB4 := bnext hB3 hb34
      have ho4 := own_now ho3 hb34
      have hv4 := rms_now hv3 hb34
      have hsz4 : w3.heap.size < w4.heap.size := by have e := (Array.getElem?_eq_some_iff.1 hg4).1; omega
      clear hg3 hg3a ho3 hv3 hb4 hk4 hs4 hgq q0 q1 hb34
      cases f
      · have H2 := Lib.hid (HE0.out rfl)
        refine (edgeBehind_no n a len cap r _ u v w4 hsz).mono ?_
        rintro e w5 ⟨rfl, hb5⟩
        have hg5 := (hb5.block w3.heap.size (by omega)).trans hg4
        have hB5 := bnext hB4 hb5
        have ho5 := own_now ho4 hb5
        have hs5 := hb5.size
        have hB5a := balloc hB5 (.cells #[.int .i64 0, .int .i64 0] 89)
        have ho5a := own_now ho5 (balloc (Below.refl w5.heap.size w5) (.cells #[.int .i64 0, .int .i64 0] 89))
        have q3 : (w5.alloc (.cells #[.int .i64 0, .int .i64 0] 89)).cell? ⟨w3.heap.size, 3, none⟩ = some (.slice pa (ints (pre ++ [l])).length pc) := blk_cell ((Below.heap_alloc w5 (.cells #[.int .i64 0, .int .i64 0] 89) w3.heap.size (by omega)).trans hg5) 3 _ (wk_at hsz _ _ _ _ 0)
        rw [show fp none = .tuple #[.agg #[.int .i64 0, .int .i64 0], .bool false] from rfl]
        clear hg4 hg5 ho4 ho5 hB4 hB5 hb5 hv4
        go_wp2_with fail
        go_returns
        exact gives2_one ⟨H1.out.1, by rw [H1.out.2.1, H2.out]; rfl, H1.out.2.2⟩ (own_base ho5a (by omega)) hB5a
      · obtain ⟨pe, rest, he⟩ := HED.out rfl
        obtain ⟨x, y⟩ := pe
        have H2 : Hid (edgeP xs n (pre ++ [l], D, true) = some (x, y)) := Lib.hid (by rw [HE1.out rfl, he]; rfl)
        refine (edgeBehind_yes n xs a b len cap _ _ r _ _ u v pre l (x, y) rest w4 HN.out (HRD.out _ hB4) (by have := HB0.out; have := hB4.size; omega) HL.out hv4 hsz ho4 HWL.out e2 he).mono ?_
        rintro e w5 ⟨rfl, hb5⟩
        have hg5 := (hb5.block w3.heap.size (by omega)).trans hg4
        have hB5 := bnext hB4 hb5
        have ho5 := own_now ho4 hb5
        have hs5 := hb5.size
        have hB5a := balloc hB5 (.cells #[.int .i64 x, .int .i64 y] 89)
        have ho5a := own_now ho5 (balloc (Below.refl w5.heap.size w5) (.cells #[.int .i64 x, .int .i64 y] 89))
        have hn5a := heap_alloc_new w5 (.cells #[.int .i64 x, .int .i64 y] 89)
        have q3 : (w5.alloc (.cells #[.int .i64 x, .int .i64 y] 89)).cell? ⟨w3.heap.size, 3, none⟩ = some (.slice pa (ints (pre ++ [l])).length pc) := blk_cell ((Below.heap_alloc w5 (.cells #[.int .i64 x, .int .i64 y] 89) w3.heap.size (by omega)).trans hg5) 3 _ (wk_at hsz _ _ _ _ 0)
        have HDJ : Hid (∀ k, (Value.slice pa (ints (pre ++ [l])).length pc).ownBlock = some k → k < w5.heap.size) := Lib.hid (fun k hk => own_lt ho5 k hk)
        rw [show fp (some (x, y)) = .tuple #[.agg #[.int .i64 x, .int .i64 y], .bool true] from rfl]
        clear hg4 hg5 ho4 ho5 hB4 hB5 hb5 hv4 he
        go_wp2_with fail
        go_quiet (fail)
        go_wp2_with fail
        go_returns
        have hbq := sub_drewN (Below.refl (w5.alloc (.cells #[.int .i64 x, .int .i64 y] 89)).heap.size (w5.alloc (.cells #[.int .i64 x, .int .i64 y] 89))) nq
        exact gives2_two (M1 := ints (pre ++ [l])) (M2 := [x, y]) ⟨H1.out.1, by rw [H1.out.2.1, H2.out]; rfl, H1.out.2.2⟩ (own_base (own_now ho5a hbq) (by omega)) (own_block (xs := [x, y]) (cur := #[.int .i64 x, .int .i64 y]) (by omega) ((hbq.block _ (by simp)).trans hn5a) rfl rfl (by simp [maxLen])) (fun k h1 h2 => by have := HDJ.out k h1; simp [Value.ownBlock] at h2; omega) (sub_drewN hB5a nq)
end Go.Proofs.Ytgpikaolgalpbaa
