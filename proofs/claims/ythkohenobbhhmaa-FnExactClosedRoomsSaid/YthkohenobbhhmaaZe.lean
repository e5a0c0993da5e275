import Derived.Test.YthkohenobbhhmaaZa
import Derived.Test.YthkohenobbhhmaaZb
import Derived.Test.YthkohenobbhhmaaZd
namespace Go.Proofs.Ythkohenobbhhmaa
open Go.RowKit
set_option maxRecDepth 4000
def be (n q : Nat) : Nat := if q < n then Pr.T q else if q < 2 * n then Pr.T n + (q - n) else Pr.T (3 * n - q) + (3 * n - q)
def bor (n m : Nat) : List Int := (List.range m).map (fun q => ((be n q : Nat) : Int))
theorem bor_succ (n m : Nat) : bor n (m + 1) = bor n m ++ [((be n m : Nat) : Int)] := by simp [bor, List.range_succ]
theorem bor_len (n m : Nat) : (bor n m).length = m := by simp [bor]
theorem be1 (n k : Nat) (h : k < n) : ((be n k : Nat) : Int) = (Pr.T ((n : Int) - ((n : Int) - (k : Int))).toNat : Nat) + 0 := by
  rw [show ((n : Int) - ((n : Int) - (k : Int))).toNat = k by omega]; simp [be, h]
theorem be1' (n k : Nat) (h : k < n) : ((be n (0 + k) : Nat) : Int) = (Pr.T ((n : Int) - ((n : Int) - (k : Int))).toNat : Nat) + 0 := by rw [Nat.zero_add]; exact be1 n k h
theorem be2 (n k : Nat) (h : k < n) : ((be n (n + k) : Nat) : Int) = (Pr.T ((n : Int) - 0).toNat : Nat) + (k : Int) := by
  rw [show ((n : Int) - 0).toNat = n by omega]; simp [be, show ¬ n + k < n by omega, show n + k < 2 * n by omega, show n + k - n = k by omega]
theorem be3 (n k : Nat) (h : k < n) : ((be n (2 * n + k) : Nat) : Int) = (Pr.T ((n : Int) - (k : Int)).toNat : Nat) + ((n : Int) - (k : Int)) := by
  rw [show ((n : Int) - (k : Int)).toNat = n - k by omega]; simp [be, show ¬ 2 * n + k < n by omega, show ¬ 2 * n + k < 2 * n by omega, show 3 * n - (2 * n + k) = n - k by omega]; omega
set_option maxHeartbeats 1000000 in
theorem meBorder_any (n : Nat) (h2 : n ≤ 8) (w : World) :
    Calls Try.prog 71 #[.int .i64 n] w fun e w' => ∃ v, e = .returned v ∧ w'.ownsRow w.heap.size 3 1 v (bor n (3 * n)).length ((bor n (3 * n)).map (Value.int .i64)) ∧ Below w.heap.size w w' := by
  go_enter Try.func71, Try.ntmps71
  go_wp2_with fail
  go_loopw [3, 4] (fun v3 v4 wr => ∃ k : Nat, k ≤ n ∧ v4 = .int .i64 k ∧ wr.ownsRow w.heap.size 3 1 v3 (bor n (0 + k)).length ((bor n (0 + k)).map (Value.int .i64)) ∧ Below w.heap.size w wr) (fun _ v4 _ => n - (intOf v4).toNat)
  case atStart => exact ⟨0, Nat.zero_le _, rfl, World.ownsRow_nil _ _ _ _, Below.refl _ _⟩
  case round =>
    obtain ⟨k, hk, rfl, ho, hb⟩ := hrel
    have hl := bor_len n (0 + k)
    have hz := hb.size
    by_cases hlt : k < n
    · have e := Lib.hid (bor_succ n (0 + k))
      have HE := Lib.hid (be1' n k hlt)
      have HL := Lib.hid hl
      clear hl
      go_wp2_with fail
      refine (meIndex_any n ((n : Int) - k) 0 wr.heap.size 3 (by omega) (by omega) (by omega) (by omega) (by omega) _ (by go_cell) (by go_cell)).mono ?_
      rintro e' w' ⟨rfl, rfl⟩
      rw [← HE.out]
      go_wp2_with (at_builtin; refine append_intg w.heap.size _ _ _ (bor n (0 + k)) _ rfl _ _ rfl rfl rfl (by simp) (ho.alloc _) (by simp; omega) (by have := HL.out; omega) ?_; intro v' w3 ho3 hb3)
      go_roundw
      case rel => exact ⟨k + 1, by omega, by go_num, by rw [show 0 + (k + 1) = 0 + k + 1 by omega, e.out]; simpa only [Nat.zero_add] using ho3, (hb.alloc hz _).trans hb3⟩
      case measure => simp [intOf]; omega
    · have hk2 : n = k := by omega
      subst hk2
      rw [show 0 + n = n + 0 by omega] at ho
      clear hlt hl hk
      go_wp2_with fail
      go_loopw [3, 5] (fun v3 v4 wr => ∃ k : Nat, k ≤ n ∧ v4 = .int .i64 k ∧ wr.ownsRow w.heap.size 3 1 v3 (bor n (n + k)).length ((bor n (n + k)).map (Value.int .i64)) ∧ Below w.heap.size w wr) (fun _ v4 _ => n - (intOf v4).toNat)
      case atStart => exact ⟨0, Nat.zero_le _, rfl, ho, hb⟩
      case round =>
        obtain ⟨k, hk, rfl, ho, hb⟩ := hrel
        have hl := bor_len n (n + k)
        have hz := hb.size
        by_cases hlt : k < n
        · have e := Lib.hid (bor_succ n (n + k))
          have HE := Lib.hid (be2 n k hlt)
          have HL := Lib.hid hl
          clear hl
          go_wp2_with fail
          refine (meIndex_any n 0 k wr.heap.size 3 (by omega) (by omega) (by omega) (by omega) (by omega) _ (by go_cell) (by go_cell)).mono ?_
          rintro e' w' ⟨rfl, rfl⟩
          rw [← HE.out]
          go_wp2_with (at_builtin; refine append_intg w.heap.size _ _ _ (bor n (n + k)) _ rfl _ _ rfl rfl rfl (by simp) (ho.alloc _) (by simp; omega) (by have := HL.out; omega) ?_; intro v' w3 ho3 hb3)
          go_roundw
          case rel => exact ⟨k + 1, by omega, by go_num, by rw [show n + (k + 1) = n + k + 1 by omega, e.out]; exact ho3, (hb.alloc hz _).trans hb3⟩
          case measure => simp [intOf]; omega
        · have hk2 : n = k := by omega
          subst hk2
          rw [show n + n = 2 * n + 0 by omega] at ho
          clear hlt hl hk
          go_wp2_with fail
          go_loopw [3, 6] (fun v3 v4 wr => ∃ k : Nat, k ≤ n ∧ v4 = .int .i64 k ∧ wr.ownsRow w.heap.size 3 1 v3 (bor n (2 * n + k)).length ((bor n (2 * n + k)).map (Value.int .i64)) ∧ Below w.heap.size w wr) (fun _ v4 _ => n - (intOf v4).toNat)
          case atStart => exact ⟨0, Nat.zero_le _, rfl, ho, hb⟩
          case round =>
            obtain ⟨k, hk, rfl, ho, hb⟩ := hrel
            have hl := bor_len n (2 * n + k)
            have hz := hb.size
            by_cases hlt : k < n
            · have e := Lib.hid (bor_succ n (2 * n + k))
              have HE := Lib.hid (be3 n k hlt)
              have HL := Lib.hid hl
              clear hl
              go_wp2_with fail
              refine (meIndex_any n k ((n : Int) - k) wr.heap.size 3 (by omega) (by omega) (by omega) (by omega) (by omega) _ (by go_cell) (by go_cell)).mono ?_
              rintro e' w' ⟨rfl, rfl⟩
              rw [← HE.out]
              go_wp2_with (at_builtin; refine append_intg w.heap.size _ _ _ (bor n (2 * n + k)) _ rfl _ _ rfl rfl rfl (by simp) (ho.alloc _) (by simp; omega) (by have := HL.out; omega) ?_; intro v' w3 ho3 hb3)
              go_roundw
              case rel => exact ⟨k + 1, by omega, by go_num, by rw [show 2 * n + (k + 1) = 2 * n + k + 1 by omega, e.out]; exact ho3, (hb.alloc hz _).trans hb3⟩
              case measure => simp [intOf]; omega
            · have hk2 : n = k := by omega
              subst hk2
              obtain ⟨-, a, cap, b, rfl, -, -⟩ := own_shape ho
              go_wp2_with fail
              go_ret
              rw [show 3 * n = 2 * n + n by omega]
              exact ⟨_, rfl, ho, hb⟩
end Go.Proofs.Ythkohenobbhhmaa

namespace Go.Proofs.Ythkohenobbhhmaa
open Go.RowKit
set_option maxRecDepth 4000
/-- One number more within the capacity: the slice stays where it is. -/
theorem append_fit_int {ops : Array Oper} {rest : List Oper} {o : Oper} {a : Act} {Q : Exit → Act → World → Prop} (base g cap m gn : Nat) (w0 : World) (xs : List Int) (x : Int)
    (hgd : o.guard = none) (s y : Operand) (ho : o.op = .call { callee := .builtin .append, args := #[s, y], argTypes := #[22, 22] })
    (hs : a.eval s = .slice (some ⟨g, 0, none⟩) m cap) (hx : a.eval y = .slice (some ⟨gn, 0, none⟩) 1 1) (hg : gn = w0.heap.size)
    (hown : w0.ownsRow base 3 1 (.slice (some ⟨g, 0, none⟩) m cap) m (xs.map (Value.int .i64))) (hroom : m + 1 ≤ cap)
    (h : ∀ w', w'.ownsRow base 3 1 (.slice (some ⟨g, 0, none⟩) (m + 1) cap) (m + 1) ((xs ++ [x]).map (Value.int .i64)) → Below base w0 w' → (∀ k, k < w0.heap.size → k ≠ g → w'.heap[k]? = w0.heap[k]?) →
      wpList Try.prog ops Q rest (a.put o.dst (.slice (some ⟨g, 0, none⟩) (m + 1) cap)) w') :
    wpList Try.prog ops Q (o :: rest) a (w0.alloc (.cells #[.int .i64 x] 3)) := by
  subst hg
  obtain ⟨i0, hi, hz0, hz1, hz2⟩ := info_parts intInfo
  have hlt := hown.lt g rfl
  refine wpList_append_fits _ hgd s y 22 ho base 3 i0 1 Try.underlying22 hi hz1 g m cap _ hs (hown.alloc _) ⟨w0.heap.size, 0, none⟩ 1 1 [.int .i64 x] hx rfl ?_ ?_ hroom ?_
  · intro j u hj
    match j, hj with
    | 0, hj => simp at hj; subst hj; simp [Addr.add]
  · intro u hu; simp at hu; subst hu; rfl
  · intro w1 hown' hgrow
    refine h w1 (by simpa using hown') ?_ ?_
    · exact ((Below.refl base w0).alloc (by omega) _).grown hgrow (by simp; omega) (fun k hk => by simp at hk; omega)
    · intro k hk hne
      rw [hgrow.block k (by simp; omega) (by simpa using hne)]
      exact Below.heap_alloc w0 _ k hk
/-- A block of three numbers. -/
def Tri (w : World) (A : Nat) (x y z : Int) : Prop := w.heap[A]? = some (.cells #[.int .i64 x, .int .i64 y, .int .i64 z] 113 (0, 0))
theorem Tri.c0 {w : World} {A : Nat} {x y z : Int} (h : Tri w A x y z) : w.cell? ⟨A, 0, none⟩ = some (.int .i64 x) := by rw [cell_of_row w A 0 _ _ (0, 0) h]; rfl
theorem Tri.c1 {w : World} {A : Nat} {x y z : Int} (h : Tri w A x y z) : w.cell? ⟨A, 1, none⟩ = some (.int .i64 y) := by rw [cell_of_row w A 1 _ _ (0, 0) h]; rfl
theorem Tri.c2 {w : World} {A : Nat} {x y z : Int} (h : Tri w A x y z) : w.cell? ⟨A, 2, none⟩ = some (.int .i64 z) := by rw [cell_of_row w A 2 _ _ (0, 0) h]; rfl
theorem Tri.fr {w : World} {A : Nat} {x y z : Int} (h : Tri w A x y z) (j : Nat) : w.frozen? ⟨A, j, none⟩ = false := frozen_of_row w A j _ _ h
theorem Tri.lt {w : World} {A : Nat} {x y z : Int} (h : Tri w A x y z) : A < w.heap.size := (Array.getElem?_eq_some_iff.1 h).1
theorem Tri.of {w w' : World} {A : Nat} {x y z : Int} (h : Tri w A x y z) (hb : w'.heap[A]? = w.heap[A]?) : Tri w' A x y z := hb.trans h
theorem Tri.s0 {w : World} {A : Nat} {x y z : Int} (h : Tri w A x y z) (u : Int) : Tri (w.setCell ⟨A, 0, none⟩ (.int .i64 u)) A u y z := by
  have := heap_setCell_same w A 0 _ _ (.int .i64 u) h; simpa [Tri] using this
theorem Tri.s1 {w : World} {A : Nat} {x y z : Int} (h : Tri w A x y z) (u : Int) : Tri (w.setCell ⟨A, 1, none⟩ (.int .i64 u)) A x u z := by
  have := heap_setCell_same w A 1 _ _ (.int .i64 u) h; simpa [Tri] using this
theorem Tri.s2 {w : World} {A : Nat} {x y z : Int} (h : Tri w A x y z) (u : Int) : Tri (w.setCell ⟨A, 2, none⟩ (.int .i64 u)) A x y u := by
  have := heap_setCell_same w A 2 _ _ (.int .i64 u) h; simpa [Tri] using this
theorem Tri.cast {w : World} {A : Nat} {x y z x' y' z' : Int} (h : Tri w A x y z) (e1 : x = x') (e2 : y = y') (e3 : z = z') : Tri w A x' y' z' := by subst e1 e2 e3; exact h
theorem own_set {w : World} {base e size n g A cap : Nat} {xs : List Value} (h : w.ownsRow base e size (.slice (some ⟨g, 0, none⟩) n cap) n xs) (hne : g ≠ A) (j : Nat) (u : Value) : (w.setCell ⟨A, j, none⟩ u).ownsRow base e size (.slice (some ⟨g, 0, none⟩) n cap) n xs := by
  obtain ⟨h1, h2⟩ := h
  refine ⟨h1, ?_⟩
  rcases h2 with h2 | ⟨g', cap', cur, hv, hg, hh, r⟩
  · exact .inl h2
  · simp only [Value.slice.injEq, Option.some.injEq, Addr.mk.injEq, and_true, true_and] at hv
    obtain ⟨rfl, rfl⟩ := hv
    exact .inr ⟨g, cap, cur, rfl, hg, by rw [Below.heap_setCell _ _ _ _ hne]; exact hh, r⟩
set_option maxHeartbeats 1000000 in
theorem border_any (n : Nat) (h1 : 1 ≤ n) (h2 : n ≤ 8) (w : World) :
    Calls Try.prog 95 #[.agg #[.int .i64 n]] w fun e w' => ∃ v, e = .returned v ∧ w'.ownsRow w.heap.size 3 1 v (bor n (3 * n)).length ((bor n (3 * n)).map (Value.int .i64)) ∧ Below w.heap.size w w' := by
  obtain ⟨i0, hi, hz0, hz1, hz2⟩ := info_parts intInfo
  go_enter Try.func95, Try.ntmps95
  go_wp2_with (at_make; refine wpList_make_own _ rfl _ _ 22 rfl w.heap.size 3 i0 (.int .i64 0) 1 Try.underlying22 hi hz0 hz1 _ _ _ (3 * n) rfl rfl ?hC ?hb2 ?hb3 ?hb4 ?_)
  case hC => simp
  case hb2 => rw [hz2]; omega
  case hb3 => unfold maxLen; omega
  case hb4 => simp
  intro w1 ho1 hg1
  have hm1 : w1.cell? ⟨w.heap.size, 0, none⟩ = some (.int .i64 n) := hg1.cell (v := .int .i64 n) (by go_cell) (by simp)
  have hB1 : Below w.heap.size w w1 := (Below.alloc (Below.refl _ _) (Nat.le_refl _) _).grown hg1 (by simp) (fun k hk => by cases hk)
  have hlt1 : w.heap.size + 1 < w1.heap.size := by
    have := own_lt ho1 _ rfl
    simpa using this
  have ho1' : w1.ownsRow w.heap.size 3 1 (.slice (some ⟨w.heap.size + 1, 0, none⟩) 0 (3 * n)) 0 ((bor n 0).map (Value.int .i64)) := ho1
  clear ho1
  go_wp2_with fail
  go_loopw [3, 14] (fun v3 v14 wr => ∃ (k : Int) (m x y z : Nat), k ≤ 3 ∧ v14 = .int .i64 k ∧ v3 = .slice (some ⟨w.heap.size + 1, 0, none⟩) m (3 * n) ∧
      ((k = 0 ∧ m = 0 ∧ n = x ∧ y = 0 ∧ z = 0) ∨ (k = 1 ∧ n = m ∧ x = 0 ∧ n = y ∧ z = 0) ∨ (k = 2 ∧ m = 2 * n ∧ x = 0 ∧ y = 0 ∧ n = z) ∨ (k = 3 ∧ m = 3 * n)) ∧ Tri wr w1.heap.size x y z ∧ wr.cell? ⟨w.heap.size, 0, none⟩ = some (.int .i64 n) ∧
      wr.ownsRow w.heap.size 3 1 (.slice (some ⟨w.heap.size + 1, 0, none⟩) m (3 * n)) m ((bor n m).map (Value.int .i64)) ∧ Below w.heap.size w wr) (fun _ v14 _ => 3 - (intOf v14).toNat)
  case atStart =>
    refine ⟨0, 0, n, 0, 0, by omega, rfl, rfl, .inl ⟨rfl, rfl, rfl, rfl, rfl⟩, heap_alloc_new _ _, ?_, ?_, balloc hB1 _⟩
    · rw [World.cell?_alloc_past _ _ _ (by show w.heap.size < w1.heap.size; omega)]; exact hm1
    · exact ho1'.alloc _
  case round =>
    obtain ⟨k, m, x, y, z, hk, rfl, rfl, hc, htri, hm, ho, hb⟩ := hrel
    obtain ⟨wo, rfl⟩ : ∃ wo : World, wo = wr := ⟨_, rfl⟩
    rcases hc with ⟨rfl, rfl, rfl, rfl, rfl⟩ | ⟨rfl, rfl, rfl, rfl, rfl⟩ | ⟨rfl, rfl, rfl, rfl, rfl⟩ | ⟨rfl, rfl⟩
    · go_wp2_with fail
      go_loopw [3, 22] (fun v3 v22 wr => ∃ j : Nat, j ≤ n ∧ v22 = .int .i64 j ∧ v3 = .slice (some ⟨w.heap.size + 1, 0, none⟩) (j) (3 * n) ∧ Tri wr w1.heap.size ((n : Int) - (j : Nat)) (j : Nat) 0 ∧ wr.cell? ⟨w.heap.size, 0, none⟩ = some (.int .i64 n) ∧
          wr.ownsRow w.heap.size 3 1 (.slice (some ⟨w.heap.size + 1, 0, none⟩) (j) (3 * n)) (j) ((bor n (j)).map (Value.int .i64)) ∧ Below w.heap.size w wr) (fun _ v22 _ => n - (intOf v22).toNat)
      case atStart => exact ⟨0, Nat.zero_le _, rfl, rfl, htri.cast (by simp) (by simp) (by simp), hm, ho, hb⟩
      case round =>
        clear htri hm ho hb
        obtain ⟨j, hj, rfl, rfl, htri, hm, ho, hb⟩ := hrel
        have hz := hb.size
        by_cases hlt : j < n
        · have HE := Lib.hid (be1 n j hlt)
          have e := Lib.hid (bor_succ n (j))
          have t0 := htri.c0
          have t1 := htri.c1
          have t2 := htri.c2
          have htl := htri.lt
          go_wp2_with fail
          refine (indexOf_any n ((n : Int) - (j : Nat)) (j : Nat) 0 (by omega) (by omega) (by omega) (by omega) (by omega) _).mono ?_
          rintro e' w2 ⟨rfl, hb2⟩
          rw [← HE.out]
          have htri2 := htri.of (hb2.block _ htl)
          have hm2 : w2.cell? ⟨w.heap.size, 0, none⟩ = some (.int .i64 n) := (hb2.cell (by simp; omega)).trans hm
          have ho2 := own_now ho hb2
          have hB2 := bnext hb hb2
          have htl2 := htri2.lt
          have hmlt : w.heap.size < w2.heap.size := by omega
          clear htri hm ho hb hb2 t0 t1 t2
          go_wp2_with (at_builtin; refine append_fit_int w.heap.size (w.heap.size + 1) (3 * n) (j) _ _ (bor n (j)) _ rfl _ _ rfl rfl rfl rfl ho2 (by omega) ?_; intro w3 ho3 hb3 hk3; have htri3 := htri2.of (hk3 _ htl2 (by omega)); have t0 := htri3.c0; have t1 := htri3.c1; have t2 := htri3.c2; have f0 := htri3.fr 0; have f1 := htri3.fr 1; have f2 := htri3.fr 2)
          have hm3 : w3.cell? ⟨w.heap.size, 0, none⟩ = some (.int .i64 n) := (World.cell?_of_block (w := w2) (hk3 w.heap.size hmlt (by omega))).trans hm2
          go_roundw
          case rel =>
            refine ⟨j + 1, by omega, by go_num, rfl, ((htri3.s0 ((n : Int) - (j : Nat) - 1)).s1 ((j : Nat) + 1)).cast (by omega) (by omega) rfl, ?_, ?_, (((hB2.trans hb3).setCell (by show w.heap.size ≤ w1.heap.size; omega) _).setCell (by show w.heap.size ≤ w1.heap.size; omega) _)⟩
            · rw [World.cell?_setCell_other _ _ _ _ (by simp), World.cell?_setCell_other _ _ _ _ (by simp)]; exact hm3
            · have h' : w3.ownsRow w.heap.size 3 1 (.slice (some ⟨w.heap.size + 1, 0, none⟩) (j + 1) (3 * n)) (j + 1) ((bor n (j + 1)).map (Value.int .i64)) := by rw [e.out]; exact ho3
              exact own_set (own_set h' (by omega) _ _) (by omega) _ _
          case measure => simp [intOf]; omega
        · have hj2 : n = j := by omega
          subst hj2
          have h3 : 2 * n + n = 3 * n := by omega
          have H3 := Lib.hid h3
          clear h3
          go_wp2_with fail
          have h3 := H3.out
          go_roundw
          case rel => exact ⟨1, n, 0, n, 0, by omega, rfl, rfl, .inr (.inl ⟨rfl, rfl, rfl, rfl, rfl⟩), htri.cast (by simp) rfl rfl, hm, ho, hb⟩
          case measure => simp [intOf]
    · go_wp2_with fail
      go_loopw [3, 22] (fun v3 v22 wr => ∃ j : Nat, j ≤ n ∧ v22 = .int .i64 j ∧ v3 = .slice (some ⟨w.heap.size + 1, 0, none⟩) (n + j) (3 * n) ∧ Tri wr w1.heap.size 0 ((n : Int) - (j : Nat)) (j : Nat) ∧ wr.cell? ⟨w.heap.size, 0, none⟩ = some (.int .i64 n) ∧
          wr.ownsRow w.heap.size 3 1 (.slice (some ⟨w.heap.size + 1, 0, none⟩) (n + j) (3 * n)) (n + j) ((bor n (n + j)).map (Value.int .i64)) ∧ Below w.heap.size w wr) (fun _ v22 _ => n - (intOf v22).toNat)
      case atStart => exact ⟨0, Nat.zero_le _, rfl, rfl, htri.cast (by simp) (by simp) (by simp), hm, ho, hb⟩
      case round =>
        clear htri hm ho hb
        obtain ⟨j, hj, rfl, rfl, htri, hm, ho, hb⟩ := hrel
        have hz := hb.size
        by_cases hlt : j < n
        · have HE := Lib.hid (be2 n j hlt)
          have e := Lib.hid (bor_succ n (n + j))
          have t0 := htri.c0
          have t1 := htri.c1
          have t2 := htri.c2
          have htl := htri.lt
          go_wp2_with fail
          refine (indexOf_any n 0 ((n : Int) - (j : Nat)) (j : Nat) (by omega) (by omega) (by omega) (by omega) (by omega) _).mono ?_
          rintro e' w2 ⟨rfl, hb2⟩
          rw [← HE.out]
          have htri2 := htri.of (hb2.block _ htl)
          have hm2 : w2.cell? ⟨w.heap.size, 0, none⟩ = some (.int .i64 n) := (hb2.cell (by simp; omega)).trans hm
          have ho2 := own_now ho hb2
          have hB2 := bnext hb hb2
          have htl2 := htri2.lt
          have hmlt : w.heap.size < w2.heap.size := by omega
          clear htri hm ho hb hb2 t0 t1 t2
          go_wp2_with (at_builtin; refine append_fit_int w.heap.size (w.heap.size + 1) (3 * n) (n + j) _ _ (bor n (n + j)) _ rfl _ _ rfl rfl rfl rfl ho2 (by omega) ?_; intro w3 ho3 hb3 hk3; have htri3 := htri2.of (hk3 _ htl2 (by omega)); have t0 := htri3.c0; have t1 := htri3.c1; have t2 := htri3.c2; have f0 := htri3.fr 0; have f1 := htri3.fr 1; have f2 := htri3.fr 2)
          have hm3 : w3.cell? ⟨w.heap.size, 0, none⟩ = some (.int .i64 n) := (World.cell?_of_block (w := w2) (hk3 w.heap.size hmlt (by omega))).trans hm2
          go_roundw
          case rel =>
            refine ⟨j + 1, by omega, by go_num, rfl, ((htri3.s1 ((n : Int) - (j : Nat) - 1)).s2 ((j : Nat) + 1)).cast rfl (by omega) (by omega), ?_, ?_, (((hB2.trans hb3).setCell (by show w.heap.size ≤ w1.heap.size; omega) _).setCell (by show w.heap.size ≤ w1.heap.size; omega) _)⟩
            · rw [World.cell?_setCell_other _ _ _ _ (by simp), World.cell?_setCell_other _ _ _ _ (by simp)]; exact hm3
            · have h' : w3.ownsRow w.heap.size 3 1 (.slice (some ⟨w.heap.size + 1, 0, none⟩) (n + j + 1) (3 * n)) (n + j + 1) ((bor n (n + j + 1)).map (Value.int .i64)) := by rw [e.out]; exact ho3
              exact own_set (own_set h' (by omega) _ _) (by omega) _ _
          case measure => simp [intOf]; omega
        · have hj2 : n = j := by omega
          subst hj2
          have h3 : 2 * n + n = 3 * n := by omega
          have H3 := Lib.hid h3
          clear h3
          go_wp2_with fail
          have h3 := H3.out
          go_roundw
          case rel => exact ⟨2, 2 * n, 0, 0, n, by omega, rfl, by rw [show 2 * n = n + n by omega], .inr (.inr (.inl ⟨rfl, rfl, rfl, rfl, rfl⟩)), htri.cast rfl (by simp) rfl, hm, by rw [show 2 * n = n + n by omega]; exact ho, hb⟩
          case measure => simp [intOf]
    · go_wp2_with fail
      go_loopw [3, 22] (fun v3 v22 wr => ∃ j : Nat, j ≤ n ∧ v22 = .int .i64 j ∧ v3 = .slice (some ⟨w.heap.size + 1, 0, none⟩) (2 * n + j) (3 * n) ∧ Tri wr w1.heap.size (j : Nat) 0 ((n : Int) - (j : Nat)) ∧ wr.cell? ⟨w.heap.size, 0, none⟩ = some (.int .i64 n) ∧
          wr.ownsRow w.heap.size 3 1 (.slice (some ⟨w.heap.size + 1, 0, none⟩) (2 * n + j) (3 * n)) (2 * n + j) ((bor n (2 * n + j)).map (Value.int .i64)) ∧ Below w.heap.size w wr) (fun _ v22 _ => n - (intOf v22).toNat)
      case atStart => exact ⟨0, Nat.zero_le _, rfl, rfl, htri.cast (by simp) (by simp) (by simp), hm, ho, hb⟩
      case round =>
        clear htri hm ho hb
        obtain ⟨j, hj, rfl, rfl, htri, hm, ho, hb⟩ := hrel
        have hz := hb.size
        by_cases hlt : j < n
        · have HE := Lib.hid (be3 n j hlt)
          have e := Lib.hid (bor_succ n (2 * n + j))
          have t0 := htri.c0
          have t1 := htri.c1
          have t2 := htri.c2
          have htl := htri.lt
          go_wp2_with fail
          refine (indexOf_any n (j : Nat) 0 ((n : Int) - (j : Nat)) (by omega) (by omega) (by omega) (by omega) (by omega) _).mono ?_
          rintro e' w2 ⟨rfl, hb2⟩
          rw [← HE.out]
          have htri2 := htri.of (hb2.block _ htl)
          have hm2 : w2.cell? ⟨w.heap.size, 0, none⟩ = some (.int .i64 n) := (hb2.cell (by simp; omega)).trans hm
          have ho2 := own_now ho hb2
          have hB2 := bnext hb hb2
          have htl2 := htri2.lt
          have hmlt : w.heap.size < w2.heap.size := by omega
          clear htri hm ho hb hb2 t0 t1 t2
          go_wp2_with (at_builtin; refine append_fit_int w.heap.size (w.heap.size + 1) (3 * n) (2 * n + j) _ _ (bor n (2 * n + j)) _ rfl _ _ rfl rfl rfl rfl ho2 (by omega) ?_; intro w3 ho3 hb3 hk3; have htri3 := htri2.of (hk3 _ htl2 (by omega)); have t0 := htri3.c0; have t1 := htri3.c1; have t2 := htri3.c2; have f0 := htri3.fr 0; have f1 := htri3.fr 1; have f2 := htri3.fr 2)
          have hm3 : w3.cell? ⟨w.heap.size, 0, none⟩ = some (.int .i64 n) := (World.cell?_of_block (w := w2) (hk3 w.heap.size hmlt (by omega))).trans hm2
          go_roundw
          case rel =>
            refine ⟨j + 1, by omega, by go_num, rfl, ((htri3.s2 ((n : Int) - (j : Nat) - 1)).s0 ((j : Nat) + 1)).cast (by omega) rfl (by omega), ?_, ?_, (((hB2.trans hb3).setCell (by show w.heap.size ≤ w1.heap.size; omega) _).setCell (by show w.heap.size ≤ w1.heap.size; omega) _)⟩
            · rw [World.cell?_setCell_other _ _ _ _ (by simp), World.cell?_setCell_other _ _ _ _ (by simp)]; exact hm3
            · have h' : w3.ownsRow w.heap.size 3 1 (.slice (some ⟨w.heap.size + 1, 0, none⟩) (2 * n + j + 1) (3 * n)) (2 * n + j + 1) ((bor n (2 * n + j + 1)).map (Value.int .i64)) := by rw [e.out]; exact ho3
              exact own_set (own_set h' (by omega) _ _) (by omega) _ _
          case measure => simp [intOf]; omega
        · have hj2 : n = j := by omega
          subst hj2
          have h3 : 2 * n + n = 3 * n := by omega
          have H3 := Lib.hid h3
          clear h3
          go_wp2_with fail
          have h3 := H3.out
          go_roundw
          case rel => exact ⟨3, 3 * n, n, 0, 0, by omega, rfl, by rw [h3], .inr (.inr (.inr ⟨rfl, rfl⟩)), htri.cast rfl rfl (by simp), hm, by rw [h3] at ho; exact ho, hb⟩
          case measure => simp [intOf]
    · obtain ⟨-, a', cap', b', hv, -, -⟩ := own_shape ho
      have hl := bor_len n (3 * n)
      go_wp2_with fail
      go_ret
      exact ⟨_, rfl, by rw [hl]; exact ho, hb⟩
end Go.Proofs.Ythkohenobbhhmaa

namespace Go.Proofs.Ythkohenobbhhmaa
open Go.RowKit
set_option maxRecDepth 4000
theorem be_lt : ∀ n, n < 9 → ∀ q, q < 3 * n → be n q < Pr.cnt n := by decide +kernel
/-- A step of the border. -/
def bp (n k : Nat) : Int × Int := (((be n k : Nat) : Int), ((be n ((k + 1) % (3 * n)) : Nat) : Int))
def bps (n m : Nat) : List (Int × Int) := (List.range m).map (bp n)
theorem bps_succ (n m : Nat) : bps n (m + 1) = bps n m ++ [bp n m] := by simp [bps, List.range_succ]
theorem bps_len (n m : Nat) : (bps n m).length = m := by simp [bps]
theorem bor_at (n m k : Nat) (hk : k < m) : (bor n m).getD k 0 = ((be n k : Nat) : Int) := by
  simp [bor, List.getD, hk]
theorem rem_nat (k m : Nat) : Int.tmod ((k : Int) + 1) ((m : Nat) : Int) = (((k + 1) % m : Nat) : Int) := by
  rw [show (k : Int) + 1 = ((k + 1 : Nat) : Int) by omega, Int.ofNat_tmod]
set_option maxHeartbeats 1600000 in
theorem doBorder_any (n : Nat) (xs : List Int) (a : Option Addr) (b len cap : Nat) (w : World) (hn : xs.length = len) (h : Rd w a b 0 xs) (hb0 : len = 0 ∨ b < w.heap.size) (hL : labB n xs = true) :
    Calls Try.prog 36 #[.int .i64 n, .slice a len cap] w fun e w' => ∃ v, e = .returned v ∧ CellsV w' w.heap.size v (outp xs (bps n (3 * n))) ∧ Below w.heap.size w w' := by
  obtain ⟨h1, h2, hl, hA⟩ := labB_yes hL
  have HD := Lib.hid (fun i j w' (hb : Below w.heap.size w w') (hi : i < xs.length) (hj : j < xs.length) => doDoor_any xs i j a b len cap w' hn (h.later hn hb0 hb) hA hi hj)
  have HBE := Lib.hid (fun q (hq : q < 3 * n) => (by have := be_lt n (by omega) q hq; omega : be n q < xs.length))
  clear h hL hA hl hn
  go_enter Try.func36, Try.ntmps36
  go_wp2_with fail
  refine (meBorder_any n h2 _).mono ?_
  rintro e w1 ⟨v, rfl, ho1, hb1⟩
  obtain ⟨hlen, ba, bc, bb, rfl, hx, hrd⟩ := own_shape ho1
  have hbl := hx.imp_right fun h => own_lt ho1 bb (by rw [h]; rfl)
  have HRD := Lib.hid hrd
  have hbo := bor_len n (3 * n)
  rw [hbo] at ho1
  have HBO := Lib.hid hbo
  clear hlen hrd hx ho1
  rw [HBO.out]
  go_wp2_with fail
  go_loopw [6, 14] (fun v6 v14 wr => ∃ k : Nat, k ≤ 3 * n ∧ v14 = .int .i64 k ∧ CellsV wr w1.heap.size v6 (outp xs (bps n k)) ∧ Below w1.heap.size w1 wr) (fun _ v14 _ => 3 * n - (intOf v14).toNat)
  case atStart => exact ⟨0, Nat.zero_le _, rfl, cells_nil _ _, Below.refl _ _⟩
  case round =>
    obtain ⟨k, hk, rfl, hcv, hb⟩ := hrel
    by_cases hlt : k < 3 * n
    · have hr1 := HRD.out.below hb hbl
      obtain ⟨rfl, c0⟩ := hr1.2 k (by rw [HBO.out]; exact hlt)
      have hmod : (k + 1) % (3 * n) < 3 * n := Nat.mod_lt _ (by omega)
      have c1 := (hr1.2 ((k + 1) % (3 * n)) (by rw [HBO.out]; exact hmod)).2
      rw [bor_at _ _ _ hlt, Nat.zero_add] at c0
      rw [bor_at _ _ _ hmod, Nat.zero_add] at c1
      have hi := HBE.out k hlt
      have hj := HBE.out _ hmod
      have hrem := rem_nat k (3 * n)
      have hmi2 : ((k : Int) + 1) % (3 * (n : Int)) < 3 * (n : Int) := Int.emod_lt_of_pos _ (by omega)
      have hmi3 : 0 ≤ ((k : Int) + 1) % (3 * (n : Int)) := Int.emod_nonneg _ (by omega)
      have HS : Hid (bps n (k + 1) = bps n k ++ [(((be n k : Nat) : Int), ((be n ((k + 1) % (3 * n)) : Nat) : Int))]) := Lib.hid (bps_succ n k)
      have hbl2 := bps_len n k
      have hol := outp_len xs (bps n k)
      have hki : (k : Int) < ((3 * n : Nat) : Int) := by omega
      have hmi : (((k + 1) % (3 * n) : Nat) : Int) < ((3 * n : Nat) : Int) := by omega
      have HW := Lib.hid (bnext hb1 hb)
      clear hr1 hbl
      generalize be n k = i at c0 hi HS
      generalize be n ((k + 1) % (3 * n)) = j at c1 hj HS
      obtain ⟨wi, hwi⟩ : ∃ wi : World, wi = wr := ⟨_, rfl⟩
      subst hwi
      go_wp2_with fail
      refine (HD.out i j _ HW.out hi hj).mono ?_
      rintro e w2 ⟨rfl, mm, rfl⟩
      have hB2 := below_drewN hb mm
      have hc2 : CellsV (wi.drewN mm) w1.heap.size u6 (outp xs (bps n k)) := cells_now hcv (below_drewN (Below.refl _ _) mm)
      have hz2 := hB2.size
      clear hcv hb c0 c1
      generalize wi.drewN mm = w3 at hB2 hc2 hz2 ⊢
      cases hN : doorB xs i j
      · have e := Lib.hid (outp_no xs (bps n k) i j hN)
        rw [← HS.out] at e
        clear hN
        go_wp2_with fail
        go_roundw
        case rel => exact ⟨k + 1, by omega, by go_num, by rw [e.out]; exact hc2, hB2⟩
        case measure => simp [intOf]; omega
      · have e := Lib.hid (outp_yes xs (bps n k) i j hN)
        rw [← HS.out] at e
        clear hN
        have hbw := balloc (Below.refl w3.heap.size w3) (.cells #[.int .i64 i, .int .i64 j] 3)
        have hu : (w3.alloc (.cells #[.int .i64 i, .int .i64 j] 3)).ownsRow w3.heap.size 3 1 (.slice (some ⟨w3.heap.size, 0, none⟩) 2 2) [(i : Int), (j : Int)].length ([(i : Int), (j : Int)].map (Value.int .i64)) :=
          own_block (Nat.le_refl _) (heap_alloc_new _ _) (by simp) rfl (by simp [maxLen])
        go_wp2_with (at_builtin; refine append_row w1.heap.size _ w3 _ _ _ (outp xs (bps n k)) _ rfl _ _ rfl rfl rfl (by simp) hc2 hbw hu rfl hz2 (by omega) ?_; intro v' w5 hc5 hb5)
        go_roundw
        case rel => exact ⟨k + 1, by omega, by go_num, by rw [e.out]; exact hc5, (balloc hB2 _).trans hb5⟩
        case measure => simp [intOf]; omega
    · have hk2 : k = 3 * n := by omega
      rw [hk2] at hcv
      clear hk2
      obtain ⟨sa, sm, sc, rfl⟩ := cells_shape hcv
      go_wp2_with fail
      go_ret
      exact ⟨_, rfl, cells_base hcv hb1.size, bnext hb1 hb⟩
end Go.Proofs.Ythkohenobbhhmaa

namespace Go.Proofs.Ythkohenobbhhmaa
open Go.RowKit
set_option maxRecDepth 4000
theorem made_pairs (m : Nat) : (madeCells (Value.agg #[.int .i64 0, .int .i64 0]).cells (m * 2)).toList = pfl (List.replicate m (0, 0)) := by
  have e : ∀ m, pfl (List.replicate m ((0 : Int), (0 : Int))) = List.replicate (m * 2) (Value.int .i64 0) := by
    intro m
    induction m with
    | zero => rfl
    | succ m ih =>
      rw [show (m + 1) * 2 = m * 2 + 1 + 1 by omega, List.replicate_succ, List.replicate_succ, List.replicate_succ, ← ih]
      rfl
  rw [e]
  apply List.ext_getElem?
  intro i
  simp only [madeCells, Value.cells, List.getElem?_replicate]
  by_cases h : i < m * 2
  · have h2 : i % 2 = 0 ∨ i % 2 = 1 := by omega
    rcases h2 with h2 | h2 <;> simp [h, h2]
  · simp [h]
theorem pfl_set (ps : List (Int × Int)) (x y : Int) : ∀ k, ((pfl ps).set (k * 2) (.int .i64 x)).set (k * 2 + 1) (.int .i64 y) = pfl (ps.set k (x, y)) := by
  induction ps with
  | nil => intro k; simp [pfl]
  | cons p ps ih =>
    intro k
    match k with
    | 0 => rfl
    | k + 1 =>
      have e := ih k
      rw [show (k + 1) * 2 = k * 2 + 2 by omega]
      simp only [pfl, List.flatMap_cons, List.set_cons_succ, List.cons_append, List.nil_append] at e ⊢
      rw [e]
/-- The first k steps of the border, and noughts behind them. -/
def bpz (n k : Nat) : List (Int × Int) := (List.range (3 * n)).map fun i => if i < k then bp n i else (0, 0)
theorem bpz_len (n k : Nat) : (bpz n k).length = 3 * n := by simp [bpz]
theorem bpz_at (n k i : Nat) : (bpz n k)[i]? = if i < 3 * n then some (if i < k then bp n i else (0, 0)) else none := by
  simp only [bpz, List.getElem?_map]
  by_cases h : i < 3 * n
  · rw [List.getElem?_range h, if_pos h]; rfl
  · rw [List.getElem?_eq_none (by simpa using h), if_neg h]; rfl
theorem bpz_zero (n : Nat) : bpz n 0 = List.replicate (3 * n) (0, 0) := by
  apply List.ext_getElem?
  intro i
  rw [bpz_at, List.getElem?_replicate]
  simp
theorem bpz_all (n : Nat) : bpz n (3 * n) = bps n (3 * n) := by
  apply List.ext_getElem?
  intro i
  rw [bpz_at]
  simp only [bps, List.getElem?_map]
  by_cases h : i < 3 * n
  · rw [List.getElem?_range h, if_pos h, if_pos h]; rfl
  · rw [List.getElem?_eq_none (by simpa using h), if_neg h]; rfl
theorem bpz_set (n k : Nat) (hk : k < 3 * n) : (bpz n k).set k (bp n k) = bpz n (k + 1) := by
  apply List.ext_getElem?
  intro i
  rw [List.getElem?_set, bpz_at, bpz_at, bpz_len]
  by_cases h1 : k = i
  · subst h1
    rw [if_pos rfl, if_pos hk, if_pos hk, if_pos (by omega)]
  · rw [if_neg h1]
    by_cases h2 : i < 3 * n
    · rw [if_pos h2, if_pos h2]
      by_cases h3 : i < k
      · rw [if_pos h3, if_pos (by omega)]
      · rw [if_neg h3, if_neg (by omega)]
    · rw [if_neg h2, if_neg h2]
set_option maxHeartbeats 1600000 in
theorem borderPairs_any (n : Nat) (h1 : 1 ≤ n) (h2 : n ≤ 8) (w : World) :
    Calls Try.prog 81 #[.agg #[.int .i64 n]] w fun e w' => ∃ v, e = .returned v ∧ PairV w' w.heap.size v (bps n (3 * n)) ∧ Below w.heap.size w w' := by
  obtain ⟨i0, hi, hz0, hz1, hz2⟩ := info_parts pairInfo
  go_enter Try.func81, Try.ntmps81
  go_wp2_with fail
  refine (border_any n h1 h2 _).mono ?_
  rintro e w1 ⟨v, rfl, ho1, hb1⟩
  obtain ⟨hlen, ba, bc, bb, rfl, hx, hrd⟩ := own_shape ho1
  have hbl := hx.imp_right fun h => own_lt ho1 bb (by rw [h]; rfl)
  have HRD := Lib.hid hrd
  have HBO := Lib.hid (bor_len n (3 * n))
  have hB1 := bnext (balloc (Below.refl w.heap.size w) (.cells #[.int .i64 n] 45)) hb1
  clear hlen hrd hx ho1 hb1
  rw [HBO.out]
  have hz1' := hB1.size
  go_wp2_with (at_make; refine wpList_make_full _ rfl _ _ 65 rfl w1.heap.size 54 i0 (.agg #[.int .i64 0, .int .i64 0]) 2 Try.underlying65 hi hz0 hz1 _ _ _ _ (3 * n) rfl rfl ?hC ?hL ?hb2 ?hb3 ?hb4 ?_)
  case hC => rfl
  case hL => rfl
  case hb2 => rw [hz2]; omega
  case hb3 => unfold maxLen; omega
  case hb4 => exact Nat.le_refl _
  intro w2 ho2 hg2
  have hp2 : PairV w2 w1.heap.size (.slice (some ⟨w1.heap.size, 0, none⟩) (3 * n) (3 * n)) (bpz n 0) := by
    unfold PairV
    rw [bpz_zero, List.length_replicate, ← made_pairs]
    exact ho2
  have hB2 : Below w1.heap.size w1 w2 := (Below.refl _ _).grown hg2 (Nat.le_refl _) (fun k hk => by cases hk)
  clear ho2 hg2
  go_wp2_with fail
  go_loopw [14] (fun v14 wr => ∃ k : Nat, k ≤ 3 * n ∧ v14 = .int .i64 k ∧ PairV wr w1.heap.size (.slice (some ⟨w1.heap.size, 0, none⟩) (3 * n) (3 * n)) (bpz n k) ∧ Below w1.heap.size w1 wr) (fun v14 _ => 3 * n - (intOf v14).toNat)
  case atStart => exact ⟨0, Nat.zero_le _, rfl, hp2, hB2⟩
  case round =>
    clear hp2 hB2
    obtain ⟨k, hk, rfl, hp, hb⟩ := hrel
    by_cases hlt : k < 3 * n
    · have hr1 := HRD.out.below hb hbl
      obtain ⟨rfl, c0⟩ := hr1.2 k (by rw [HBO.out]; exact hlt)
      have hmod : (k + 1) % (3 * n) < 3 * n := Nat.mod_lt _ (by omega)
      have c1 := (hr1.2 ((k + 1) % (3 * n)) (by rw [HBO.out]; exact hmod)).2
      rw [bor_at _ _ _ hlt, Nat.zero_add] at c0
      rw [bor_at _ _ _ hmod, Nat.zero_add] at c1
      have hrem := rem_nat k (3 * n)
      have hmi2 : ((k : Int) + 1) % (3 * (n : Int)) < 3 * (n : Int) := Int.emod_lt_of_pos _ (by omega)
      have hmi3 : 0 ≤ ((k : Int) + 1) % (3 * (n : Int)) := Int.emod_nonneg _ (by omega)
      have hki : (k : Int) < ((3 * n : Nat) : Int) := by omega
      have hmi : (((k + 1) % (3 * n) : Nat) : Int) < ((3 * n : Nat) : Int) := by omega
      have hown : wr.ownsRow w1.heap.size 54 2 (.slice (some ⟨w1.heap.size, 0, none⟩) (3 * n) (3 * n)) (3 * n) (pfl (bpz n k)) := by
        have e : PairV wr w1.heap.size (.slice (some ⟨w1.heap.size, 0, none⟩) (3 * n) (3 * n)) (bpz n k) := hp
        unfold PairV at e
        rwa [bpz_len] at e
      have hpa := pfl_at (bpz n k) k (by rw [bpz_len]; exact hlt)
      have o0 := (hown.cellAt (k * 2) (by omega)).trans hpa.1
      have o1 := (hown.cellAt (k * 2 + 1) (by omega)).trans hpa.2
      have f0 := hown.frozenAt (k * 2)
      have f1 := hown.frozenAt (k * 2 + 1)
      have HNEW : Hid (∀ x y, PairV ((wr.setCell ⟨w1.heap.size, k * 2, none⟩ (.int .i64 x)).setCell ⟨w1.heap.size, k * 2 + 1, none⟩ (.int .i64 y)) w1.heap.size (.slice (some ⟨w1.heap.size, 0, none⟩) (3 * n) (3 * n)) ((bpz n k).set k (x, y))) := Lib.hid (fun x y => by
        unfold PairV
        rw [List.length_set, bpz_len, ← pfl_set]
        exact ((hown.stored (k * 2) _).1.stored (k * 2 + 1) _).1)
      have HE : Hid ((bpz n k).set k (((be n k : Nat) : Int), ((be n ((k + 1) % (3 * n)) : Nat) : Int)) = bpz n (k + 1)) := Lib.hid (bpz_set n k hlt)
      clear hr1 hbl hp hown hpa
      generalize hold0 : ((bpz n k).getD k (0, 0)).1 = u0 at o0
      generalize hold1 : ((bpz n k).getD k (0, 0)).2 = u1 at o1
      clear hold0 hold1
      generalize be n k = i at c0 HE
      generalize be n ((k + 1) % (3 * n)) = j at c1 HE
      go_wp2_with fail
      go_roundw
      case rel => exact ⟨k + 1, by omega, by go_num, by rw [← HE.out]; exact HNEW.out _ _, (hb.setCell (p := ⟨w1.heap.size, k * 2, none⟩) (Nat.le_refl _) _).setCell (p := ⟨w1.heap.size, k * 2 + 1, none⟩) (Nat.le_refl _) _⟩
      case measure => simp [intOf]; omega
    · have hk2 : k = 3 * n := by omega
      rw [hk2, bpz_all] at hp
      clear hk2
      go_wp2_with fail
      go_ret
      exact ⟨_, rfl, World.ownsRow.mono hp hz1', bnext hB1 hb⟩
set_option maxHeartbeats 1600000 in
theorem borderDoors_any (n : Nat) (xs : List Int) (base : Nat) (r : Array Value) (w : World) (hL : labB n xs = true) (hrv : RoomsV w base n xs r) :
    Calls Try.prog 42 #[.agg r] w fun e w' => ∃ v, e = .returned v ∧ PairV w' w.heap.size v ((bps n (3 * n)).filter (drB xs)) ∧ Below w.heap.size w w' := by
  obtain ⟨h1, h2, hl, -⟩ := labB_yes hL
  obtain ⟨hsz, hone, r0, -⟩ := rooms_row hL hrv
  have HL := Lib.hid hL
  have HRV := Lib.hid hrv
  have HPT : Hid (Pts xs.length (bps n (3 * n))) := Lib.hid (fun t ht => by
    rw [bps_len] at ht
    refine ⟨be n t, be n ((t + 1) % (3 * n)), ?_, ?_, ?_⟩
    · simp [bps, bp, List.getD, ht]
    · have := be_lt n (by omega) t ht; omega
    · have := be_lt n (by omega) ((t + 1) % (3 * n)) (Nat.mod_lt _ (by omega)); omega)
  have hb0 := balloc (Below.refl w.heap.size w) (.cells r 52)
  have hg1 := heap_alloc_new w (.cells r 52)
  have hz1 : (w.alloc (.cells r 52)).heap.size = w.heap.size + 1 := by simp
  clear hL hrv hl
  go_enter Try.func42, Try.ntmps42
  go_wp2_with fail
  generalize w.alloc (.cells r 52) = w1 at hb0 hg1 hz1 ⊢
  refine wp_region_mix (fun w' => Below w1.heap.size w1 w') [4, 5] [0, 1, 2, 3, 4, 5, 6] (by kernel_rfl) (by kernel_rfl) (fun _ _ d _ _ h => by cases d <;> exact h) (by kernel_rfl) rfl (Below.refl _ _).drew ?_
  refine mix_take 0 _ (.agg r) rfl rfl rfl (some 3) rfl (fun w' hw' => exec_row _ _ rfl w.heap.size rfl r (run_loadVar_row w' _ _ _ r (0, 0) _ ((Below.block hw' _ (by omega)).trans hg1) Try.underlying52 rfl (by rw [rmSize, hsz]))) ?_
  simp only [Act.put, List.setIfInBounds_toArray, List.set_cons_zero, List.set_cons_succ]
  refine mix_take 1 _ ?_ rfl rfl rfl (some 4) rfl (fun w' hw' => ?hv1) ?_
  case hv1 => (go_simp; with_reducible rfl)
  simp only [Act.put, List.setIfInBounds_toArray, List.set_cons_zero, List.set_cons_succ]
  refine mix_take 2 _ ?_ rfl rfl rfl (some 5) rfl (fun w' hw' => ?hv2) ?_
  case hv2 => (go_simp; with_reducible rfl)
  simp only [Act.put, List.setIfInBounds_toArray, List.set_cons_zero, List.set_cons_succ]
  refine mix_take 3 _ ?_ rfl rfl rfl (some 6) rfl (fun w' hw' => ?hv3) ?_
  case hv3 =>
    have q : w'.cell? ⟨w.heap.size, 0, none⟩ = some (.int .i64 n) := (cell_of_row _ _ _ _ _ (0, 0) ((Below.block hw' _ (by omega)).trans hg1)).trans r0
    go_simp
    with_reducible rfl
  simp only [Act.put, List.setIfInBounds_toArray, List.set_cons_zero, List.set_cons_succ]
  refine mix_call 4 _ rfl rfl rfl 81 #[.agg #[.int .i64 n]] (some 7) rfl ?hr4 ?_
  case hr4 => go_simp
  refine (borderPairs_any n h1 h2 _).mono ?_
  rintro e w2 ⟨v, rfl, hp2, hb2⟩
  obtain ⟨pa, pc, pb, rfl, hpr⟩ := pair_shape hp2
  have hB2 : Below w1.heap.size w1 w2 := (Below.refl _ _).drew.trans hb2
  refine ⟨_, rfl, hB2, ?_⟩
  simp only [Act.put, List.setIfInBounds_toArray, List.set_cons_zero, List.set_cons_succ]
  refine mix_call 5 _ rfl rfl rfl 80 #[.agg r, .slice pa (bps n (3 * n)).length pc] (some 8) rfl ?hr5 ?_
  case hr5 => go_simp
  have hB02 := bnext hb0 hB2
  refine (doorsAmong_any n xs base r (bps n (3 * n)) pa pb pc w2 HL.out (rooms_now HRV.out hB02) HPT.out hpr (by rw [bps_len]; omega)).mono ?_
  rintro e w3 ⟨v, rfl, hp3, hb3⟩
  obtain ⟨da, dc, db, rfl, -⟩ := pair_shape hp3
  have hB3 := bnext hB2 hb3
  refine ⟨_, rfl, hB3, ?_⟩
  simp only [Act.put, List.setIfInBounds_toArray, List.set_cons_zero, List.set_cons_succ]
  refine mix_take 6 _ ?_ rfl rfl rfl (some 2) rfl (fun w' hw' => ?hv6) ?_
  case hv6 => (go_simp; with_reducible rfl)
  simp only [Act.put, List.setIfInBounds_toArray, List.set_cons_zero, List.set_cons_succ]
  refine mix_done ?_
  have hB03 := bnext hb0 hB3
  have hz03 := hB02.size
  clear hp2 hpr hg1
  go_wp2_with fail
  go_ret
  exact ⟨_, rfl, World.ownsRow.mono hp3 hz03, hB03⟩
end Go.Proofs.Ythkohenobbhhmaa

namespace Go.Proofs.Ythkohenobbhhmaa
open Go.RowKit
set_option maxRecDepth 4000
def outBorderDoors (n : Int) (xs : List Int) : List (List Int) := if labB n xs then outp xs (bps n.toNat (3 * n.toNat)) else []
theorem outBorder_len (n : Int) (xs : List Int) : (outBorderDoors n xs).length ≤ 100000 := by
  unfold outBorderDoors
  cases hL : labB n xs
  · simp
  · obtain ⟨n, rfl⟩ := labB_nat hL
    obtain ⟨h1, h2, -, -⟩ := labB_yes hL
    have e := outp_len xs (bps n (3 * n))
    rw [bps_len] at e
    simp only [if_true, Int.toNat_natCast]
    omega
theorem outBorder_row (n : Int) (xs : List Int) : ∀ i, i < (outBorderDoors n xs).length → ((outBorderDoors n xs).getD i []).length ≤ 1000 := by
  intro i hi
  unfold outBorderDoors at hi ⊢
  split
  · rename_i h; rw [if_pos h] at hi; exact outp_row _ _ i hi
  · rename_i h; rw [if_neg h] at hi; simp at hi
end Go.Proofs.Ythkohenobbhhmaa

namespace Go.Proofs.Ythkohenobbhhmaa
open Go.RowKit
set_option maxRecDepth 4000
/-- The turns of the first k doors. -/
def tn (xs : List Int) (ds : List (Int × Int)) : Nat → Int
  | 0 => 0
  | k + 1 => tn xs ds k + (xs.getD (ds.getD k (0, 0)).2.toNat 0 - xs.getD (ds.getD k (0, 0)).1.toNat 0)
theorem pts_filter {m : Nat} {ps : List (Int × Int)} {f : Int × Int → Bool} (h : Pts m ps) : Pts m (ps.filter f) := by
  intro k hk
  have hm : (ps.filter f).getD k (0, 0) ∈ ps := by
    rw [List.getD_eq_getElem?_getD, List.getElem?_eq_getElem hk]
    exact (List.mem_filter.1 (List.getElem_mem hk)).1
  obtain ⟨i, hi, e⟩ := List.mem_iff_getElem.1 hm
  have := h i hi
  rw [List.getD_eq_getElem?_getD, List.getElem?_eq_getElem hi] at this
  simp only [Option.getD_some] at this
  rw [e] at this
  exact this
theorem bps_pts (n : Nat) (xs : List Int) (hL : labB n xs = true) : Pts xs.length (bps n (3 * n)) := by
  obtain ⟨h1, h2, hl, -⟩ := labB_yes hL
  intro t ht
  rw [bps_len] at ht
  refine ⟨be n t, be n ((t + 1) % (3 * n)), ?_, ?_, ?_⟩
  · simp [bps, bp, List.getD, ht]
  · have := be_lt n (by omega) t ht; omega
  · have := be_lt n (by omega) ((t + 1) % (3 * n)) (Nat.mod_lt _ (by omega)); omega
theorem tn_bd (xs : List Int) (ds : List (Int × Int)) (hA : allB 0 2 xs = true) (hp : Pts xs.length ds) : ∀ k, k ≤ ds.length → -(2 * (k : Int)) ≤ tn xs ds k ∧ tn xs ds k ≤ 2 * (k : Int)
  | 0, _ => by simp [tn]
  | k + 1, hk => by
    have ih := tn_bd xs ds hA hp k (by omega)
    obtain ⟨i, j, e, hi, hj⟩ := hp k (by omega)
    have a := allB_at hA i hi
    have b := allB_at hA j hj
    simp only [tn, e, Int.toNat_natCast]
    omega
def bds (n : Nat) (xs : List Int) : List (Int × Int) := (bps n (3 * n)).filter (drB xs)
theorem bds_len (n : Nat) (xs : List Int) : (bds n xs).length ≤ 3 * n := Nat.le_trans (List.length_filter_le _ _) (by rw [bps_len]; exact Nat.le_refl _)
def okTurnsOfBorder (n : Int) (xs : List Int) : Bool := labB n xs
def valTurnsOfBorder (n : Int) (xs : List Int) : Int := if labB n xs then tn xs (bds n.toNat xs) (bds n.toNat xs).length else 0
end Go.Proofs.Ythkohenobbhhmaa
