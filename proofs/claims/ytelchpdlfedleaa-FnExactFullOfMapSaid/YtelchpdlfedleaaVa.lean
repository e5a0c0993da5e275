import Derived.Test.YtelchpdlfedleaaWw
import Derived.Test.YtelchpdlfedleaaZj
namespace Go.Proofs.Ytelchpdlfedleaa
open Go.RowKit
set_option maxRecDepth 4000
theorem rd2 {w : World} {g : Nat} {x y : Int} {ty : TypeId} (h : w.heap[g]? = some (.cells #[.int .i64 x, .int .i64 y] ty (0, 0))) : Rd w (some ⟨g, 0, none⟩) g 0 [x, y] :=
  ⟨by simp [maxLen], fun j hj => by
    match j, hj with
    | 0, _ => exact ⟨rfl, blk_cell h 0 _ rfl⟩
    | 1, _ => exact ⟨rfl, blk_cell h 1 _ rfl⟩
    | j + 2, hj => exact absurd hj (by simp)⟩
theorem lg_same (a b c d : Int) : (lsI a b == lsI c d && gtI a b == gtI c d) = sameB (a, b) (c, d) := by
  rw [same_inner, inner_eq, inner_eq, Bool.eq_iff_iff]
  simp only [Bool.and_eq_true, beq_iff_eq, decide_eq_true_eq, Prod.mk.injEq]
theorem inner_inner (p : Int × Int) (h : p.1 ≠ p.2) : inner (inner p) = inner p := inner_sorted (inner_lt h)
/-- Whether two points are a door of the border. -/
def okW (n : Int) (xs : List Int) (i j : Int) : Bool := labB n xs && ((bds n.toNat xs).find? (fun d => sameB d (i, j))).isSome
theorem bds_lst (n : Nat) (xs : List Int) : outp xs (bps n (3 * n)) = (bds n xs).map lst := rfl
set_option maxHeartbeats 800000 in
theorem doFrom_any (n : Nat) (xs : List Int) (i j : Int) (a : Option Addr) (b len cap : Nat) (w : World) (hL : labB n xs = true) (hn : xs.length = len) (h : Rd w a b 0 xs) (hb0 : len = 0 ∨ b < w.heap.size) (hgo : Goes xs n (-1) (inner (i, j))) (hij : i ≠ j) :
    Calls Try.prog 94 #[.int .i64 n, .slice a len cap, .int .i64 i, .int .i64 j] w (DWalked w (wfrom xs n (-1) (inner (i, j))).1 (wfrom xs n (-1) (inner (i, j))).2.1) := by
  obtain ⟨h1, h2, -⟩ := labB_yes hL
  obtain ⟨s0, L, R, hLR, hat⟩ := goes_at hgo
  have hii := inner_inner (i, j) hij
  have hlt : lsI i j < gtI i j := inner_lt (p := (i, j)) hij
  rw [hLR]
  rw [hii] at hat
  have hcell : inner (lsI i j, gtI i j) = inner (i, j) := hii
  have HL := Lib.hid hL
  have HRD := Lib.hid (fun w' (hb : Below w.heap.size w w') => h.later hn hb0 hb)
  have HRB := Lib.hid (fun w' (hb : Below w.heap.size w w') => lt_later hb0 hb)
  have HN := Lib.hid hn
  have HAT : Hid (At xs n s0 L R [] (beyI (acrossI n (-1) (inner (i, j)))) (lsI i j, gtI i j)) := Lib.hid hat
  have HE := Lib.hid (ci_eq n (by omega) h1)
  have HCI := Lib.hid hcell
  clear hL h hat hLR hgo hcell hii hn hb0
  go_enter Try.func94, Try.ntmps94
  go_wp2_with fail
  refine (meCells_any n h1 h2 _).mono ?_
  rintro e w2 ⟨v, rfl, hc, hb2⟩
  rw [← HE.out] at hc
  obtain ⟨sa, sm, sc, rfl⟩ := cells_shape hc
  go_wp2_with fail
  refine (doInner_any i j _).mono ?_
  rintro e w3 ⟨rfl, rfl⟩
  go_wp2_with fail
  refine (doInner_any i j _).mono ?_
  rintro e w5 ⟨rfl, rfl⟩
  have hB5 : Below w2.heap.size w2 ((w2.alloc (.cells #[.int .i64 (lsI i j), .int .i64 (gtI i j)] 3)).alloc (.cells #[.int .i64 (lsI i j), .int .i64 (gtI i j)] 3)) := balloc (balloc (Below.refl _ _) _) _
  have hg5 := heap_alloc_new (w2.alloc (.cells #[.int .i64 (lsI i j), .int .i64 (gtI i j)] 3)) (.cells #[.int .i64 (lsI i j), .int .i64 (gtI i j)] 3)
  have hg4 := (Below.heap_alloc (w2.alloc (.cells #[.int .i64 (lsI i j), .int .i64 (gtI i j)] 3)) (.cells #[.int .i64 (lsI i j), .int .i64 (gtI i j)] 3) w2.heap.size (by simp)).trans (heap_alloc_new w2 _)
  have hs5 : ((w2.alloc (.cells #[.int .i64 (lsI i j), .int .i64 (gtI i j)] 3)).alloc (.cells #[.int .i64 (lsI i j), .int .i64 (gtI i j)] 3)).heap.size = w2.heap.size + 2 := by simp
  have hs4 : (w2.alloc (.cells #[.int .i64 (lsI i j), .int .i64 (gtI i j)] 3)).heap.size = w2.heap.size + 1 := by simp
  rw [hs4] at hg5
  go_wp2_with fail
  (try rw [hs4])
  generalize (w2.alloc (.cells #[.int .i64 (lsI i j), .int .i64 (gtI i j)] 3)).alloc (.cells #[.int .i64 (lsI i j), .int .i64 (gtI i j)] 3) = w6 at hB5 hg5 hg4 hs5 ⊢
  refine (doNextT_any n (lsI i j) (gtI i j) (-1) sa _ w.heap.size _ _ sc 2 w6 h2 (cells_now hc hB5) (rd2 hg5) (by omega) (by omega)).mono ?_
  rintro e w7 ⟨rfl, hb7⟩
  rw [HCI.out]
  have hB7 := bnext hB5 hb7
  have hB27 := bnext hb2 hB7
  have hg7 := (hb7.block w2.heap.size (by omega)).trans hg4
  have hs7 := hb7.size
  have hs2 := hb2.size
  have HC7 := cells_now hc hB7
  clear hg5 hg4 hs4 hB5 hb7 hc hb2
  go_wp2_with fail
  refine (doWalk_any n xs w.heap.size sa _ sc a b len cap _ w2.heap.size 2 _ _ _ s0 L R w7 HL.out HC7 HN.out (HRD.out w7 hB27) (HRB.out w7 hB27) (rd2 hg7) (by omega) hlt HAT.out).mono ?_
  rintro e w8 ⟨v, pd, bd, cd, rfl, ho8, hr8, hbd8, hb8⟩
  go_wp2_with fail
  go_ret2
  exact ⟨v, pd, bd, cd, rfl, own_base ho8 (by have := hB27.size; omega), hr8, hbd8, bnext hB27 hb8⟩
end Go.Proofs.Ytelchpdlfedleaa
