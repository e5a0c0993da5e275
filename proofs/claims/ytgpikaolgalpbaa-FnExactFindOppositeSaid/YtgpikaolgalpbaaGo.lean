import Derived.Test.YtgpikaolgalpbaaGj
import Derived.Test.YtgpikaolgalpbaaYn
namespace Go.Proofs.Ytgpikaolgalpbaa
open Go.RowKit
set_option maxRecDepth 4000
/-- The opposite edge that FindOpposite answers: the first one along the border, or that behind the first walk that ends inside. -/
def foV (n : Nat) (xs : List Int) : Option (Int × Int) :=
  match (sqPs n).filter (sumB xs 0) with
  | p :: _ => some p
  | [] => match ((sqPs n).filter (sumB xs 3)).find? (ffG (sqC n).length (cpr (sqC n)) (sumB xs 3)) with
    | some p => edgeP xs n (swW n xs p)
    | none => none
def okFO (n : Int) (xs : List Int) : Bool := sqB n xs && oppB n.toNat xs && (foV n.toNat xs).isSome
def valFO (n : Int) (xs : List Int) : List Int := if sqB n xs && oppB n.toNat xs then edL (foV n.toNat xs) else []
theorem fo_no {n : Int} {xs : List Int} (h : (sqB n xs && oppB n.toNat xs) = false) : valFO n xs = [] ∧ okFO n xs = false := by simp [valFO, okFO, h]
theorem fo_yes {n : Nat} {xs : List Int} (h : sqB n xs = true) (k : oppB n xs = true) : valFO n xs = edL (foV n xs) ∧ okFO n xs = (foV n xs).isSome := by simp [valFO, okFO, h, k]
theorem foV_border {n : Nat} {xs : List Int} {p : Int × Int} {l : List (Int × Int)} (h : (sqPs n).filter (sumB xs 0) = p :: l) : foV n xs = some p := by simp [foV, h]
theorem foV_walk {n : Nat} {xs : List Int} {p : Int × Int} (h : (sqPs n).filter (sumB xs 0) = []) (k : ((sqPs n).filter (sumB xs 3)).find? (ffG (sqC n).length (cpr (sqC n)) (sumB xs 3)) = some p) : foV n xs = edgeP xs n (swW n xs p) := by simp [foV, h, k]
theorem foV_none {n : Nat} {xs : List Int} (h : (sqPs n).filter (sumB xs 0) = []) (k : ((sqPs n).filter (sumB xs 3)).find? (ffG (sqC n).length (cpr (sqC n)) (sumB xs 3)) = none) : foV n xs = none := by simp [foV, h, k]
set_option maxHeartbeats 3200000 in
theorem findOpposite_any (n : Nat) (xs : List Int) (a : Option Addr) (b len cap : Nat) (w : World) (hn : xs.length = len) (h : Rd w a b 0 xs) (hb0 : len = 0 ∨ b < w.heap.size) (hL : sqB n xs = true) :
    Calls Try.prog 78 #[.agg (lqA n a len cap)] w fun e w' => e = .returned (fp (foV n xs)) ∧ Below w.heap.size w w' := by
  obtain ⟨n', hnn, h1, h2, -, -⟩ := sqB_nat hL
  obtain rfl : n = n' := by omega
  clear hnn
  have hB0 := balloc (balloc (Below.refl w.heap.size w) (.cells (lqA n a len cap) 69)) (.cells #[.int .i64 0, .int .i64 0] 89)
  have hg0 : ((w.alloc (.cells (lqA n a len cap) 69)).alloc (.cells #[.int .i64 0, .int .i64 0] 89)).heap[w.heap.size]? = some (.cells (lqA n a len cap) 69 (0, 0)) := by
    rw [Below.heap_alloc _ _ _ (by simp)]
    exact heap_alloc_new w _
  have hz0 : ((w.alloc (.cells (lqA n a len cap) 69)).alloc (.cells #[.int .i64 0, .int .i64 0] 89)).heap[w.heap.size + 1]? = some (.cells #[.int .i64 0, .int .i64 0] 89 (0, 0)) := by
    have e := heap_alloc_new (w.alloc (.cells (lqA n a len cap) 69)) (.cells #[.int .i64 0, .int .i64 0] 89)
    rwa [World.size_alloc] at e
  have hs0 : ((w.alloc (.cells (lqA n a len cap) 69)).alloc (.cells #[.int .i64 0, .int .i64 0] 89)).heap.size = w.heap.size + 2 := by simp
  have HRD := Lib.hid (fun W (hB : Below w.heap.size w W) => h.later hn hb0 hB)
  have HB0 := Lib.hid hb0
  have HL := Lib.hid hL
  have HN := Lib.hid hn
  have HFG := Lib.hid (sq_fgr hL)
  have HOB := Lib.hid (fun W (hB : Below w.heap.size w W) => oppOnBorder_any n xs a b len cap W hn (h.later hn hb0 hB) (by have := hB.size; omega) hL)
  have HGO := Lib.hid (fun p hp => (sq_goes (p := p) hL hp).1)
  have HED := Lib.hid (fun p hp => sq_edge (p := p) hL hp)
  have HLE := Lib.hid (by have e := sqPs_len n; have := List.length_filter_le (sumB xs 0) (sqPs n); omega : ((sqPs n).filter (sumB xs 0)).length ≤ 32)
  have q0 : ((w.alloc (.cells (lqA n a len cap) 69)).alloc (.cells #[.int .i64 0, .int .i64 0] 89)).cell? ⟨w.heap.size, 0, none⟩ = some (.int .i64 n) := blk_cell hg0 0 _ rfl
  have q1 : ((w.alloc (.cells (lqA n a len cap) 69)).alloc (.cells #[.int .i64 0, .int .i64 0] 89)).cell? ⟨w.heap.size, 1, none⟩ = some (.iface 101 (.slice a len cap)) := blk_cell hg0 1 _ rfl
  clear hL hn h hb0
  go_enter Try.func78, Try.ntmps78
  go_wp2_with fail
  generalize (w.alloc (.cells (lqA n a len cap) 69)).alloc (.cells #[.int .i64 0, .int .i64 0] 89) = w1 at hB0 hg0 hz0 hs0 q0 q1 ⊢
  (try go_wp2_with fail)
  refine (HOB.out _ hB0).mono ?_
  rintro e w2 ⟨v, rfl, hp2, hb2⟩
  obtain ⟨pa, pc, pb, rfl, hpr⟩ := pair_shape hp2
  have hg2 := (hb2.block w.heap.size (by omega)).trans hg0
  have hz2 := (hb2.block (w.heap.size + 1) (by omega)).trans hz0
  have p0 : w2.cell? ⟨w.heap.size, 0, none⟩ = some (.int .i64 n) := blk_cell hg2 0 _ rfl
  have p1 : w2.cell? ⟨w.heap.size, 1, none⟩ = some (.iface 101 (.slice a len cap)) := blk_cell hg2 1 _ rfl
  have hB2 := bnext hB0 hb2
  have hs2 := hb2.size
  have hle := HLE.out
  clear hp2 hb2 hB0 hg0 hz0 q0 q1
  cases hF : (sqPs n).filter (sumB xs 0) with
  | cons p l =>
    have HV := Lib.hid (foV_border hF)
    rw [hF] at hpr hle
    rw [List.length_cons] at hle ⊢
    obtain ⟨rfl, hpl, c0, c1⟩ := hpr 0 (by simp)
    rw [Nat.zero_mul] at c0 c1
    simp only [List.getD_cons_zero, Nat.zero_add] at c0 c1
    clear hF hpr
    obtain ⟨x, y⟩ := p
    simp only at c0 c1
    generalize hm : l.length = m at hle ⊢
    clear hm
    have hpos : (0 : Int) < ((m + 1 : Nat) : Int) := by omega
    go_wp2_with ((with_reducible refine store_blk blkPair rfl _ _ rfl (w.heap.size + 1) #[.int .i64 x, .int .i64 y] #[.int .i64 0, .int .i64 0] ?_ ?_ hz2 (pair_size _ _) (pair_size _ _) (pair_one _ _) w.heap.size (by omega) ?_); exact rfl; exact rfl; intro w9 hg9 hb9 _ _)
    exact bodyPost_ret (results_blk blkPair rfl _ _ (w.heap.size + 1) _ (.bool true) rfl rfl hg9 rfl) rfl ⟨ret_fp HV.out, hB2.trans hb9⟩
  | nil =>
    have HVW := Lib.hid (fun p k => foV_walk (p := p) hF k)
    have HVN := Lib.hid (fun k => foV_none hF k)
    rw [List.length_nil]
    clear hF hle hpr
    go_wp2_with fail
    refine (sqRooms_any n a len cap h1 h2 _).mono ?_
    rintro e w3 ⟨r, rfl, hv3, hb3⟩
    have hv3 : RmsV w3 _ (sqC n) (sqPs n) (doorV n a len cap) r := hv3
    have hB3 := bnext hB2 hb3
    have hg3 := (hb3.block w.heap.size (by omega)).trans hg2
    have hz3 := (hb3.block (w.heap.size + 1) (by omega)).trans hz2
    have hs3 := hb3.size
    have hrw : RmW 88 #[.agg (lqA n a len cap)] #[] (sumB xs 3) (sqC n) (sqPs n) _ r w3 := sq_rmw HN.out (HRD.out _ hB3) (by have := HB0.out; have := hB3.size; omega) HL.out hv3
    obtain ⟨hsz, hone⟩ := rm_size hrw
    clear hg2 hz2 hB2 hb3 p0 p1
    go_wp2_with fail
    refine (firstInside_any _ _ _ _ _ _ _ _ r w3 HFG.out hrw HGO.out).mono ?_
    rintro e w4 (⟨rfl, hno, hb4⟩ | ⟨p, hso, hmem, pv, u, v, rfl, ho4, -, hb4⟩)
    · have HV := Lib.hid (HVN.out hno)
      have hB4 := bnext hB3 hb4
      have hz4 := (hb4.block (w.heap.size + 1) (by omega)).trans hz3
      have hs4 := hb4.size
      have hz4a := (Below.heap_alloc w4 (.cells zeroW 91) (w.heap.size + 1) (by omega)).trans hz4
      clear hrw hv3 hb4 hno hg3 hz3
      go_wp2_with (first
        | (with_reducible refine alloc_blk zeroW run_alloc_wk rfl rfl ?_)
        | ((with_reducible refine store_blk blkWalk rfl _ _ rfl w4.heap.size zeroW zeroW ?_ ?_ ?_ zeroW_size zeroW_size zeroW_one w4.heap.size (Nat.le_refl _) ?_); exact rfl; exact rfl; exact heap_alloc_new _ _; intro w5 hg5 hb5 hk5 hs5; have hB5 := bnext hB4 ((balloc (Below.refl w4.heap.size w4) (.cells zeroW 91)).trans hb5); have hz5 := (hk5 (w.heap.size + 1) (by omega)).trans hz4a)
        | ((with_reducible refine store_blk blkPair rfl _ _ rfl (w.heap.size + 1) #[.int .i64 0, .int .i64 0] #[.int .i64 0, .int .i64 0] ?_ ?_ hz5 (pair_size _ _) (pair_size _ _) (pair_one _ _) w.heap.size (by omega) ?_); exact rfl; exact rfl; intro w9 hg9 hb9 _ _))
      exact bodyPost_ret (results_blk blkPair rfl _ _ (w.heap.size + 1) _ (.bool false) rfl rfl hg9 rfl) rfl ⟨ret_fn HV.out, hB5.trans hb9⟩
    · have HV := Lib.hid (HVW.out p hso)
      obtain ⟨pre, l, e1, e2, e3⟩ := HED.out p hmem
      have hff : (swW n xs p).2.2 = true := by
        have e := List.find?_some hso
        exact e
      have hwl : (swW n xs p).1 = pre ++ [l] := e1
      obtain ⟨pe, rest, he⟩ := e3 hff
      have HE1 : Hid (edgeP xs n (swW n xs p) = some pe) := Lib.hid (by rw [edgeP, if_pos hff, hwl, lastG_app, he]; rfl)
      have HWL : Hid (pre.length ≤ 1000) := Lib.hid (by
        have e4 := gFrom_len (sqC n).length (cpr (sqC n)) (sumB xs 3) (-1) p
        have := HFG.out.clen
        rw [e1, List.length_append] at e4
        simp only [List.length_cons, List.length_nil] at e4
        omega)
      have hff2 : (gFrom (sqC n).length (cpr (sqC n)) (sumB xs 3) (-1) p).2.2 = true := hff
      rw [hff2]
      rw [e1] at ho4
      have ho4 := own_num ho4 (ints_len (pre ++ [l])).symm
      obtain ⟨-, va, vc, vb, rfl, -⟩ := own_shape ho4
      obtain ⟨x, y⟩ := pe
      have hwz2 : Hid ((wkA r (.slice va (ints (pre ++ [l])).length vc) u v true).size = 7 ∧ (wkA r (.slice va (ints (pre ++ [l])).length vc) u v true).all (·.oneCell') = true) := Lib.hid ⟨wkA_size _ _ _ _ _ hsz, wkA_one _ _ _ _ _ _ _ hone⟩
      have hB4 := bnext hB3 hb4
      have hg4 := (hb4.block w.heap.size (by omega)).trans hg3
      have hz4 := (hb4.block (w.heap.size + 1) (by omega)).trans hz3
      have hv4 := rms_now hv3 hb4
      have hs4 := hb4.size
      have hg4a := (Below.heap_alloc w4 (.cells zeroW 91) w.heap.size (by omega)).trans hg4
      have hz4a := (Below.heap_alloc w4 (.cells zeroW 91) (w.heap.size + 1) (by omega)).trans hz4
      clear hrw hv3 hb4 hso hmem e1 e3 hff hff2 hwl hone hg3 hz3 hg4 hz4
      go_wp2_with (first
        | (with_reducible refine alloc_blk zeroW run_alloc_wk rfl rfl ?_)
        | ((with_reducible refine store_blk blkWalk rfl _ _ rfl w4.heap.size (wkA r (.slice va (ints (pre ++ [l])).length vc) u v true) zeroW ?_ ?_ ?_ zeroW_size hwz2.out.1 hwz2.out.2 w4.heap.size (Nat.le_refl _) ?_); exact rfl; exact rfl; exact heap_alloc_new _ _; intro w5 hg5 hb5 hk5 hs5; have hb45 := (balloc (Below.refl w4.heap.size w4) (.cells zeroW 91)).trans hb5; have hgq := (hk5 w.heap.size (by omega)).trans hg4a; have hz5 := (hk5 (w.heap.size + 1) (by omega)).trans hz4a; have q0 := blk_cell hgq 0 (.int .i64 n) rfl; have q1 := blk_cell hgq 1 (.iface 101 (.slice a len cap)) rfl)
        | ((with_reducible refine load_blk blkWalk ?_ _ rfl w4.heap.size ?_ _ hg5 hwz2.out.1 ?_); exact rfl; exact rfl; simp only [Act.put, List.setIfInBounds_toArray, List.set_cons_zero, List.set_cons_succ]))
      have hB5 := bnext hB4 hb45
      refine (edgeBehind_yes n xs a b len cap _ _ r _ _ u v pre l (x, y) rest w5 HN.out (HRD.out _ hB5) (by have := HB0.out; have := hB5.size; omega) HL.out (rms_now hv4 hb45) hsz (own_now ho4 hb45) HWL.out e2 he).mono ?_
      rintro e w6 ⟨rfl, hb6⟩
      have hs5' : w4.heap.size ≤ w5.heap.size := hb45.size
      have hz6 := (hb6.block (w.heap.size + 1) (by omega)).trans hz5
      have hB6 := bnext hB5 hb6
      have hs6 := hb6.size
      rw [show fp (some (x, y)) = .tuple #[.agg #[.int .i64 x, .int .i64 y], .bool true] from rfl]
      clear hg5 hb5 hk5 hs5 hgq hz5 q0 q1 hb45 hb6 ho4 hv4 he
      go_wp2_with ((with_reducible refine store_blk blkPair rfl _ _ rfl (w.heap.size + 1) #[.int .i64 x, .int .i64 y] #[.int .i64 0, .int .i64 0] ?_ ?_ hz6 (pair_size _ _) (pair_size _ _) (pair_one _ _) w.heap.size (by omega) ?_); exact rfl; exact rfl; intro w9 hg9 hb9 _ _)
      exact bodyPost_ret (results_blk blkPair rfl _ _ (w.heap.size + 1) _ (.bool true) rfl rfl hg9 rfl) rfl ⟨ret_fp (p := (x, y)) (HV.out.trans HE1.out), hB6.trans hb9⟩
end Go.Proofs.Ytgpikaolgalpbaa
