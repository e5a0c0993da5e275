import Derived.Test.YtpabplnmjkjbnabLc
import Derived.Shelf.Strings.BuilderK
namespace Go.Proofs.Ytpabplnmjkjbnab
open Go.RowKit
set_option maxRecDepth 4000
abbrev BldF (w : World) (B b : Nat) (l : List UInt8) : Prop := Lib.IsBuilderF 54 5 B b (Lib.byteCells l) w
theorem bld_at {w w' : World} {B b : Nat} {q : Value} {l : List Value} (h : Lib.BuilderAtF 54 5 B b q l w) (hb : Below w.heap.size w w') : Lib.BuilderAtF 54 5 B b q l w' := by
  have hl := h.lt
  rcases h with ⟨h1, v, h2, h3, h4⟩
  refine ⟨h1, v, (hb.block b hl).trans h2, ?_, h4⟩
  exact h3.kept (row := none) ⟨hb.os, hb.tape, hb.output, hb.size, fun k hk _ => hb.block k hk⟩ (Classical.em _)
theorem bld_now {w w' : World} {B b : Nat} {l : List UInt8} (h : BldF w B b l) (hb : Below w.heap.size w w') : BldF w' B b l := by
  rcases h with h | h
  · exact .inl (bld_at h hb)
  · exact .inr (bld_at h hb)
theorem writeByteK (B b : Nat) (l : List UInt8) (c : UInt8) (w : World) (h : BldF w B b l) (hlen : l.length ≤ 1000) (hBw : B ≤ w.heap.size) :
    Calls Try.prog 28 #[.pointer (some ⟨b, 0, none⟩), .int .u8 (c.toNat : Int)] w fun e w' => e = .returned .nilIface ∧ BldF w' B b (l ++ [c]) ∧ Below B w w' ∧ Lib.OthersKept 5 (some b) w w' := by
  refine (Any.Builder_WriteByte_k laysB extraB B b _ _ w h (by rw [Lib.byteCells_length]; omega) hBw).mono ?_
  rintro e w' ⟨he, hb, h1, h2⟩
  refine ⟨he, .inr ?_, h1, h2⟩
  have e2 : Lib.byteCells (l ++ [c]) = Lib.byteCells l ++ [Value.int .u8 (c.toNat : Int)] := by simp [Lib.byteCells]
  rw [e2]
  exact hb
theorem stringK (B b : Nat) (l : List UInt8) (w : World) (h : BldF w B b l) (hBw : B ≤ w.heap.size) :
    Calls Try.prog 29 #[.pointer (some ⟨b, 0, none⟩)] w fun e w' => e = .returned (.string ⟨l.toArray⟩) ∧ Below B w w' := by
  refine (Any.Builder_String_any_k laysS extraS B b l w h hBw).mono ?_
  rintro e w' ⟨he, -, h1, -⟩
  exact ⟨he, h1⟩
theorem dgt_nat (x : Int) (h0 : 0 ≤ x) (h2 : x ≤ 2) : ((dgt x).toNat : Int) = 48 + x := by
  have h : x = 0 ∨ x = 1 ∨ x = 2 := by omega
  rcases h with rfl | rfl | rfl <;> rfl
theorem writeDig (x : Int) (h0 : 0 ≤ x) (h2 : x ≤ 2) (B b : Nat) (l : List UInt8) (w : World) (h : BldF w B b l) (hlen : l.length ≤ 1000) (hBw : B ≤ w.heap.size) :
    Calls Try.prog 28 #[.pointer (some ⟨b, 0, none⟩), .int .u8 (48 + x)] w fun e w' => e = .returned .nilIface ∧ BldF w' B b (l ++ [dgt x]) ∧ Below B w w' ∧ Lib.OthersKept 5 (some b) w w' := by
  have := writeByteK B b l (dgt x) w h hlen hBw
  rwa [dgt_nat x h0 h2] at this
theorem writeSep (B b : Nat) (l : List UInt8) (w : World) (h : BldF w B b l) (hlen : l.length ≤ 1000) (hBw : B ≤ w.heap.size) :
    Calls Try.prog 28 #[.pointer (some ⟨b, 0, none⟩), .int .u8 47] w fun e w' => e = .returned .nilIface ∧ BldF w' B b (l ++ [47]) ∧ Below B w w' ∧ Lib.OthersKept 5 (some b) w w' :=
  writeByteK B b l 47 w h hlen hBw
theorem own_oth {w w' : World} {base n b : Nat} {v : Value} {xs : List Value} (h : w.ownsRow base 3 1 v n xs) (hk : Lib.OthersKept 5 (some b) w w') (hb : b < base) : w'.ownsRow base 3 1 v n xs := own_keep h (fun q hq => by
  rcases h.2 with ⟨rfl, -⟩ | ⟨g, cap, cur, rfl, hg, hh, -⟩
  · cases hq
  · have e : g = q := by simpa [Value.ownBlock] using hq
    subst e
    rw [hh]
    exact hk g _ hh (by simp; omega) (by intro c fz he; simp at he))
theorem bld_lt {w : World} {B b : Nat} {l : List UInt8} (h : BldF w B b l) : b < w.heap.size := by
  rcases h with h | h <;> exact h.lt
set_option maxHeartbeats 1600000 in
theorem text_any (n m s : Nat) (xs : List Int) (w : World) (hnm : n * m = s) (h30 : s ≤ 30) (hl : xs.length = s) (h2 : 1 ≤ m) (hA : allB 0 2 xs = true) :
    Calls Try.prog 16 #[.agg (hbL n m xs).toArray] w fun e w' => e = .returned (.string ⟨(txB m xs s).toArray⟩) ∧ Below w.heap.size w w' := by
  have hB0 := balloc (Below.refl w.heap.size w) (.cells (hbL n m xs).toArray 37)
  have hg0 := heap_alloc_new w (.cells (hbL n m xs).toArray 37)
  have hs0 : (w.alloc (.cells (hbL n m xs).toArray 37)).heap.size = w.heap.size + 1 := by simp
  have HF := Lib.IsBuilderF.of (Lib.fresh_isBuilder 54 5 (w.alloc (.cells (hbL n m xs).toArray 37)))
  have hB1 := balloc hB0 (.cells #[.pointer none, .slice none 0 0] 54)
  have hg1 := (Below.heap_alloc (w.alloc (.cells (hbL n m xs).toArray 37)) (.cells #[.pointer none, .slice none 0 0] 54) w.heap.size (by omega)).trans hg0
  rw [hs0] at HF
  have hs1 : ((w.alloc (.cells (hbL n m xs).toArray 37)).alloc (.cells #[.pointer none, .slice none 0 0] 54)).heap.size = w.heap.size + 2 := by simp
  have HNM := Lib.hid hnm
  have HL := Lib.hid hl
  have HA := Lib.hid hA
  have hsz : (hbL n m xs).toArray.size = 32 := hbL_size n m xs (by omega)
  clear hg0 hB0 hnm hl hA hs0
  go_enter Try.func16, Try.ntmps16
  go_wp2_with (first
    | (with_reducible refine alloc_blk #[.pointer none, .slice none 0 0] (by intro w; kernel_rfl) rfl rfl ?_)
    | ((with_reducible refine load_blk blkHex ?_ _ rfl w.heap.size ?_ _ hg1 hsz ?_); exact rfl; exact rfl; simp only [Act.put, List.setIfInBounds_toArray, List.set_cons_zero, List.set_cons_succ]))
  generalize (w.alloc (.cells (hbL n m xs).toArray 37)).alloc (.cells #[.pointer none, .slice none 0 0] 54) = w1 at HF hB1 hg1 hs1 ⊢
  refine (list_any n m s xs w1 HNM.out h30 HL.out).mono ?_
  rintro e w2 ⟨v, rfl, ho, -, hb2⟩
  obtain ⟨-, la, lc, lb, rfl, hx, -⟩ := own_shape ho
  have hF2 := bld_now (l := []) HF hb2
  have hg2 := (hb2.block w.heap.size (by omega)).trans hg1
  have hB2 := bnext hB1 hb2
  clear hB1 hg1 hb2 HF
  go_wp2_with fail
  go_loopw [9] (fun v9 wr => ∃ k : Nat, k ≤ s ∧ v9 = .int .i64 k ∧ BldF wr (w.heap.size + 1) (w.heap.size + 1) (txB m xs k) ∧ wr.heap[w.heap.size]? = some (.cells (hbL n m xs).toArray 37 (0, 0)) ∧ wr.ownsRow w1.heap.size 3 1 (.slice la s lc) s (xs.map (Value.int .i64)) ∧ Below w.heap.size w wr) (fun v9 _ => s - (intOf v9).toNat)
  case atStart => exact ⟨0, Nat.zero_le _, rfl, hF2, hg2, ho, hB2⟩
  case round =>
    clear hF2 hg2 ho hB2
    obtain ⟨k, hk, rfl, hF, hg, ho, hb⟩ := hrel
    by_cases hlt : k < s
    · obtain ⟨-, la', lc', lb', hve, -, hrd⟩ := own_shape ho
      simp only [Value.slice.injEq, true_and] at hve
      obtain ⟨rfl, rfl⟩ := hve
      obtain ⟨rfl, c⟩ := hrd.2 k (by rw [HL.out]; exact hlt)
      obtain ⟨l0, l2⟩ := allB_at HA.out k (by rw [HL.out]; exact hlt)
      rw [Nat.zero_add] at c
      have hki : (k : Int) < (s : Int) := by omega
      have HT : Hid (txB m xs (k + 1) = txB m xs k ++ sep m k ++ [dgt (xs.getD k 0)]) := Lib.hid rfl
      obtain ⟨r, hr⟩ : ∃ r : Nat, r = k % m := ⟨_, rfl⟩
      have hrk : r ≤ k := by rw [hr]; exact Nat.mod_le _ _
      have q0 := blk_cell hg 0 (.int .i64 n) rfl
      have q1 := blk_cell hg 1 (.int .i64 m) rfl
      have htl := txB_len m xs k
      have HR := Lib.hid hr
      generalize xs.getD k 0 = x at c l0 l2 HT
      have w1' : IntKind.i64.wrap (48 + x) = 48 + x := IntWalk.i64_in _ ⟨by omega, by omega⟩
      have w2' : wrap64 (48 + x) = 48 + x := IntWalk.wrap64_in _ ⟨by omega, by omega⟩
      have h3 : x = 0 ∨ x = 1 ∨ x = 2 := by omega
      have w3' : IntKind.u8.wrap (48 + x) = 48 + x := by rcases h3 with rfl | rfl | rfl <;> rfl
      clear hr hrd h3
      generalize txB m xs k = t at HT htl hF
      have hblt := bld_lt hF
      by_cases hk0 : 0 < k
      · have hk1 : (0 : Int) < (k : Int) := by omega
        go_wp2_with fail
        refine (gridColumn_any n m k r h2 HR.out wr).mono ?_
        rintro e' w3 ⟨rfl, hb3⟩
        have hF3 := bld_now hF hb3
        have ho3 := own_now ho hb3
        have hg3 := (hb3.block w.heap.size (by omega)).trans hg
        have hB3 := bnext hb hb3
        clear hF ho hg hb hb3 c q0 q1
        by_cases hr0 : r = 0
        · have e := Lib.hid (show sep m k = [47] by rw [sep, if_pos ⟨hk0, by rw [← HR.out]; exact hr0⟩])
          have hr1 : ((r : Int) == 0) = true := by rw [hr0]; rfl
          clear hr0
          go_wp2_with fail
          refine (writeSep _ _ _ _ hF3 (by omega) (by have := bld_lt hF3; omega)).mono ?_
          rintro e' w4 ⟨rfl, hF4, hb4, hk4⟩
          have ho4 := own_oth ho3 hk4 (by omega)
          have hg4 := (hb4.block w.heap.size (by omega)).trans hg3
          have hB4 := hB3.trans (hb4.mono (by omega))
          go_wp2_with fail
          refine (writeDig x l0 l2 _ _ _ _ hF4 (by rw [List.length_append]; simp only [List.length_cons, List.length_nil]; omega) (by have := bld_lt hF4; omega)).mono ?_
          rintro e' w5 ⟨rfl, hF5, hb5, hk5⟩
          have ho5 := own_oth ho4 hk5 (by omega)
          have hg5 := (hb5.block w.heap.size (by omega)).trans hg4
          have hB5 := hB4.trans (hb5.mono (by omega))
          go_wp2_with fail
          go_roundw
          case rel => exact ⟨k + 1, by omega, by go_num, by rw [HT.out, e.out]; exact hF5, hg5, ho5, hB5⟩
          case measure => simp [intOf]; omega
        · have e := Lib.hid (show sep m k = [] by rw [sep, if_neg (by rw [← HR.out]; omega)])
          have hr1 : ((r : Int) == 0) = false := by simp; omega
          go_wp2_with fail
          refine (writeDig x l0 l2 _ _ _ _ hF3 (by omega) (by have := bld_lt hF3; omega)).mono ?_
          rintro e' w5 ⟨rfl, hF5, hb5, hk5⟩
          have ho5 := own_oth ho3 hk5 (by omega)
          have hg5 := (hb5.block w.heap.size (by omega)).trans hg3
          have hB5 := hB3.trans (hb5.mono (by omega))
          go_wp2_with fail
          go_roundw
          case rel => exact ⟨k + 1, by omega, by go_num, by rw [HT.out, e.out, List.append_nil]; exact hF5, hg5, ho5, hB5⟩
          case measure => simp [intOf]; omega
      · have hk1 : ¬ (0 : Int) < (k : Int) := by omega
        have e := Lib.hid (show sep m k = [] by rw [sep, if_neg (by omega)])
        go_wp2_with fail
        refine (writeDig x l0 l2 _ _ _ _ hF (by omega) (by have := bld_lt hF; omega)).mono ?_
        rintro e' w5 ⟨rfl, hF5, hb5, hk5⟩
        have ho5 := own_oth ho hk5 (by omega)
        have hg5 := (hb5.block w.heap.size (by omega)).trans hg
        have hB5 := hb.trans (hb5.mono (by omega))
        go_wp2_with fail
        go_roundw
        case rel => exact ⟨k + 1, by omega, by go_num, by rw [HT.out, e.out, List.append_nil]; exact hF5, hg5, ho5, hB5⟩
        case measure => simp [intOf]; omega
    · have e : k = s := by omega
      subst e
      go_wp2_with fail
      refine (stringK _ _ _ _ hF (by have := bld_lt hF; omega)).mono ?_
      rintro e' w5 ⟨rfl, hb5⟩
      go_wp2_with fail
      go_ret
      exact ⟨rfl, hb.trans (hb5.mono (by omega))⟩
end Go.Proofs.Ytpabplnmjkjbnab
