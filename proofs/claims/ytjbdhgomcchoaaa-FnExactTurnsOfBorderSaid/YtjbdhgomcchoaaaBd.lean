import Derived.Test.YtjbdhgomcchoaaaBo
namespace Go.Proofs.Ytjbdhgomcchoaaa
open Go.RowKit
/-- One number more within the capacity: the slice stays where it is. -/
theorem append_fit_int {ops : Array Oper} {rest : List Oper} {o : Oper} {a : Act} {Q : Exit → Act → World → Prop} (base g cap m gn : Nat) (w0 : World) (xs : List Int) (x : Int)
    (hgd : o.guard = none) (s y : Operand) (ho : o.op = .call { callee := .builtin .append, args := #[s, y], argTypes := #[28, 28] })
    (hs : a.eval s = .slice (some ⟨g, 0, none⟩) m cap) (hx : a.eval y = .slice (some ⟨gn, 0, none⟩) 1 1) (hg : gn = w0.heap.size)
    (hown : w0.ownsRow base 3 1 (.slice (some ⟨g, 0, none⟩) m cap) m (xs.map (Value.int .i64))) (hroom : m + 1 ≤ cap)
    (h : ∀ w', w'.ownsRow base 3 1 (.slice (some ⟨g, 0, none⟩) (m + 1) cap) (m + 1) ((xs ++ [x]).map (Value.int .i64)) → Below base w0 w' → (∀ k, k < w0.heap.size → k ≠ g → w'.heap[k]? = w0.heap[k]?) →
      wpList Try.prog ops Q rest (a.put o.dst (.slice (some ⟨g, 0, none⟩) (m + 1) cap)) w') :
    wpList Try.prog ops Q (o :: rest) a (w0.alloc (.cells #[.int .i64 x] 3)) := by
  subst hg
  obtain ⟨i0, hi, hz0, hz1, hz2⟩ := info_parts intInfo
  have hlt := hown.lt g rfl
  refine wpList_append_fits _ hgd s y 28 ho base 3 i0 1 Try.underlying28 hi hz1 g m cap _ hs (hown.alloc _) ⟨w0.heap.size, 0, none⟩ 1 1 [.int .i64 x] hx rfl ?_ ?_ hroom ?_
  · intro j u hj
    match j, hj with
    | 0, hj => simp at hj; subst hj; simp [Addr.add]
  · intro u hu; simp at hu; subst hu; rfl
  · intro w1 hown' hgrow
    refine h w1 (by simpa using hown') ?_ ?_
    · exact ((Below.refl base w0).alloc (by omega) _).grown hgrow (by simp; omega) (fun k hk => by simp at hk; omega)
    · intro k hk hne
      rw [hgrow.block k (by simp; omega) (by simpa using hne)]
      exact Below.heap_alloc w0 _ k hk
/-- A block of three numbers. -/
def Tri (w : World) (A : Nat) (x y z : Int) : Prop := w.heap[A]? = some (.cells #[.int .i64 x, .int .i64 y, .int .i64 z] 84 (0, 0))
theorem Tri.c0 {w : World} {A : Nat} {x y z : Int} (h : Tri w A x y z) : w.cell? ⟨A, 0, none⟩ = some (.int .i64 x) := by rw [cell_of_row w A 0 _ _ (0, 0) h]; rfl
theorem Tri.c1 {w : World} {A : Nat} {x y z : Int} (h : Tri w A x y z) : w.cell? ⟨A, 1, none⟩ = some (.int .i64 y) := by rw [cell_of_row w A 1 _ _ (0, 0) h]; rfl
theorem Tri.c2 {w : World} {A : Nat} {x y z : Int} (h : Tri w A x y z) : w.cell? ⟨A, 2, none⟩ = some (.int .i64 z) := by rw [cell_of_row w A 2 _ _ (0, 0) h]; rfl
theorem Tri.fr {w : World} {A : Nat} {x y z : Int} (h : Tri w A x y z) (j : Nat) : w.frozen? ⟨A, j, none⟩ = false := frozen_of_row w A j _ _ h
theorem Tri.lt {w : World} {A : Nat} {x y z : Int} (h : Tri w A x y z) : A < w.heap.size := (Array.getElem?_eq_some_iff.1 h).1
theorem Tri.of {w w' : World} {A : Nat} {x y z : Int} (h : Tri w A x y z) (hb : w'.heap[A]? = w.heap[A]?) : Tri w' A x y z := hb.trans h
theorem Tri.s0 {w : World} {A : Nat} {x y z : Int} (h : Tri w A x y z) (u : Int) : Tri (w.setCell ⟨A, 0, none⟩ (.int .i64 u)) A u y z := by
  have := heap_setCell_same w A 0 _ _ (.int .i64 u) h; simpa [Tri] using this
theorem Tri.s1 {w : World} {A : Nat} {x y z : Int} (h : Tri w A x y z) (u : Int) : Tri (w.setCell ⟨A, 1, none⟩ (.int .i64 u)) A x u z := by
  have := heap_setCell_same w A 1 _ _ (.int .i64 u) h; simpa [Tri] using this
theorem Tri.s2 {w : World} {A : Nat} {x y z : Int} (h : Tri w A x y z) (u : Int) : Tri (w.setCell ⟨A, 2, none⟩ (.int .i64 u)) A x y u := by
  have := heap_setCell_same w A 2 _ _ (.int .i64 u) h; simpa [Tri] using this
theorem Tri.cast {w : World} {A : Nat} {x y z x' y' z' : Int} (h : Tri w A x y z) (e1 : x = x') (e2 : y = y') (e3 : z = z') : Tri w A x' y' z' := by subst e1 e2 e3; exact h
theorem own_set {w : World} {base e size n g A cap : Nat} {xs : List Value} (h : w.ownsRow base e size (.slice (some ⟨g, 0, none⟩) n cap) n xs) (hne : g ≠ A) (j : Nat) (u : Value) : (w.setCell ⟨A, j, none⟩ u).ownsRow base e size (.slice (some ⟨g, 0, none⟩) n cap) n xs := by
  obtain ⟨h1, h2⟩ := h
  refine ⟨h1, ?_⟩
  rcases h2 with h2 | ⟨g', cap', cur, hv, hg, hh, r⟩
  · exact .inl h2
  · simp only [Value.slice.injEq, Option.some.injEq, Addr.mk.injEq, and_true, true_and] at hv
    obtain ⟨rfl, rfl⟩ := hv
    exact .inr ⟨g, cap, cur, rfl, hg, by rw [Below.heap_setCell _ _ _ _ hne]; exact hh, r⟩
set_option maxHeartbeats 1000000 in
theorem border_any (n : Nat) (h1 : 1 ≤ n) (h2 : n ≤ 8) (w : World) :
    Calls Try.prog 97 #[.agg #[.int .i64 n]] w fun e w' => ∃ v, e = .returned v ∧ w'.ownsRow w.heap.size 3 1 v (bor n (3 * n)).length ((bor n (3 * n)).map (Value.int .i64)) ∧ Below w.heap.size w w' := by
  obtain ⟨i0, hi, hz0, hz1, hz2⟩ := info_parts intInfo
  go_enter Try.func97, Try.ntmps97
  go_wp2_with (at_make; refine wpList_make_own _ rfl _ _ 28 rfl w.heap.size 3 i0 (.int .i64 0) 1 Try.underlying28 hi hz0 hz1 _ _ _ (3 * n) rfl rfl ?hC ?hb2 ?hb3 ?hb4 ?_)
  case hC => simp
  case hb2 => rw [hz2]; omega
  case hb3 => unfold maxLen; omega
  case hb4 => simp
  intro w1 ho1 hg1
  have hm1 : w1.cell? ⟨w.heap.size, 0, none⟩ = some (.int .i64 n) := hg1.cell (v := .int .i64 n) (by go_cell) (by simp)
  have hB1 : Below w.heap.size w w1 := (Below.alloc (Below.refl _ _) (Nat.le_refl _) _).grown hg1 (by simp) (fun k hk => by cases hk)
  have hlt1 : w.heap.size + 1 < w1.heap.size := by
    have := own_lt ho1 _ rfl
    simpa using this
  have ho1' : w1.ownsRow w.heap.size 3 1 (.slice (some ⟨w.heap.size + 1, 0, none⟩) 0 (3 * n)) 0 ((bor n 0).map (Value.int .i64)) := ho1
  clear ho1
  go_wp2_with fail
  go_loopw [3, 14] (fun v3 v14 wr => ∃ (k : Int) (m x y z : Nat), k ≤ 3 ∧ v14 = .int .i64 k ∧ v3 = .slice (some ⟨w.heap.size + 1, 0, none⟩) m (3 * n) ∧
      ((k = 0 ∧ m = 0 ∧ n = x ∧ y = 0 ∧ z = 0) ∨ (k = 1 ∧ n = m ∧ x = 0 ∧ n = y ∧ z = 0) ∨ (k = 2 ∧ m = 2 * n ∧ x = 0 ∧ y = 0 ∧ n = z) ∨ (k = 3 ∧ m = 3 * n)) ∧ Tri wr w1.heap.size x y z ∧ wr.cell? ⟨w.heap.size, 0, none⟩ = some (.int .i64 n) ∧
      wr.ownsRow w.heap.size 3 1 (.slice (some ⟨w.heap.size + 1, 0, none⟩) m (3 * n)) m ((bor n m).map (Value.int .i64)) ∧ Below w.heap.size w wr) (fun _ v14 _ => 3 - (intOf v14).toNat)
  case atStart =>
    refine ⟨0, 0, n, 0, 0, by omega, rfl, rfl, .inl ⟨rfl, rfl, rfl, rfl, rfl⟩, heap_alloc_new _ _, ?_, ?_, balloc hB1 _⟩
    · rw [World.cell?_alloc_past _ _ _ (by show w.heap.size < w1.heap.size; omega)]; exact hm1
    · exact ho1'.alloc _
  case round =>
    obtain ⟨k, m, x, y, z, hk, rfl, rfl, hc, htri, hm, ho, hb⟩ := hrel
    obtain ⟨wo, rfl⟩ : ∃ wo : World, wo = wr := ⟨_, rfl⟩
    rcases hc with ⟨rfl, rfl, rfl, rfl, rfl⟩ | ⟨rfl, rfl, rfl, rfl, rfl⟩ | ⟨rfl, rfl, rfl, rfl, rfl⟩ | ⟨rfl, rfl⟩
    · go_wp2_with fail
      go_loopw [3, 22] (fun v3 v22 wr => ∃ j : Nat, j ≤ n ∧ v22 = .int .i64 j ∧ v3 = .slice (some ⟨w.heap.size + 1, 0, none⟩) (j) (3 * n) ∧ Tri wr w1.heap.size ((n : Int) - (j : Nat)) (j : Nat) 0 ∧ wr.cell? ⟨w.heap.size, 0, none⟩ = some (.int .i64 n) ∧
          wr.ownsRow w.heap.size 3 1 (.slice (some ⟨w.heap.size + 1, 0, none⟩) (j) (3 * n)) (j) ((bor n (j)).map (Value.int .i64)) ∧ Below w.heap.size w wr) (fun _ v22 _ => n - (intOf v22).toNat)
      case atStart => exact ⟨0, Nat.zero_le _, rfl, rfl, htri.cast (by simp) (by simp) (by simp), hm, ho, hb⟩
      case round =>
        clear htri hm ho hb
        obtain ⟨j, hj, rfl, rfl, htri, hm, ho, hb⟩ := hrel
        have hz := hb.size
        by_cases hlt : j < n
        · have HE := Lib.hid (be1 n j hlt)
          have e := Lib.hid (bor_succ n (j))
          have t0 := htri.c0
          have t1 := htri.c1
          have t2 := htri.c2
          have htl := htri.lt
          go_wp2_with fail
          refine (indexOf_any n ((n : Int) - (j : Nat)) (j : Nat) 0 (by omega) (by omega) (by omega) (by omega) (by omega) _).mono ?_
          rintro e' w2 ⟨rfl, hb2⟩
          rw [← HE.out]
          have htri2 := htri.of (hb2.block _ htl)
          have hm2 : w2.cell? ⟨w.heap.size, 0, none⟩ = some (.int .i64 n) := (hb2.cell (by simp; omega)).trans hm
          have ho2 := own_now ho hb2
          have hB2 := bnext hb hb2
          have htl2 := htri2.lt
          have hmlt : w.heap.size < w2.heap.size := by omega
          clear htri hm ho hb hb2 t0 t1 t2
          go_wp2_with (at_builtin; refine append_fit_int w.heap.size (w.heap.size + 1) (3 * n) (j) _ _ (bor n (j)) _ rfl _ _ rfl rfl rfl rfl ho2 (by omega) ?_; intro w3 ho3 hb3 hk3; have htri3 := htri2.of (hk3 _ htl2 (by omega)); have t0 := htri3.c0; have t1 := htri3.c1; have t2 := htri3.c2; have f0 := htri3.fr 0; have f1 := htri3.fr 1; have f2 := htri3.fr 2)
          have hm3 : w3.cell? ⟨w.heap.size, 0, none⟩ = some (.int .i64 n) := (World.cell?_of_block (w := w2) (hk3 w.heap.size hmlt (by omega))).trans hm2
          go_roundw
          case rel =>
            refine ⟨j + 1, by omega, by go_num, rfl, ((htri3.s0 ((n : Int) - (j : Nat) - 1)).s1 ((j : Nat) + 1)).cast (by omega) (by omega) rfl, ?_, ?_, (((hB2.trans hb3).setCell (by show w.heap.size ≤ w1.heap.size; omega) _).setCell (by show w.heap.size ≤ w1.heap.size; omega) _)⟩
            · rw [World.cell?_setCell_other _ _ _ _ (by simp), World.cell?_setCell_other _ _ _ _ (by simp)]; exact hm3
            · have h' : w3.ownsRow w.heap.size 3 1 (.slice (some ⟨w.heap.size + 1, 0, none⟩) (j + 1) (3 * n)) (j + 1) ((bor n (j + 1)).map (Value.int .i64)) := by rw [e.out]; exact ho3
              exact own_set (own_set h' (by omega) _ _) (by omega) _ _
          case measure => simp [intOf]; omega
        · have hj2 : n = j := by omega
          subst hj2
          have h3 : 2 * n + n = 3 * n := by omega
          have H3 := Lib.hid h3
          clear h3
          go_wp2_with fail
          have h3 := H3.out
          go_roundw
          case rel => exact ⟨1, n, 0, n, 0, by omega, rfl, rfl, .inr (.inl ⟨rfl, rfl, rfl, rfl, rfl⟩), htri.cast (by simp) rfl rfl, hm, ho, hb⟩
          case measure => simp [intOf]
    · go_wp2_with fail
      go_loopw [3, 22] (fun v3 v22 wr => ∃ j : Nat, j ≤ n ∧ v22 = .int .i64 j ∧ v3 = .slice (some ⟨w.heap.size + 1, 0, none⟩) (n + j) (3 * n) ∧ Tri wr w1.heap.size 0 ((n : Int) - (j : Nat)) (j : Nat) ∧ wr.cell? ⟨w.heap.size, 0, none⟩ = some (.int .i64 n) ∧
          wr.ownsRow w.heap.size 3 1 (.slice (some ⟨w.heap.size + 1, 0, none⟩) (n + j) (3 * n)) (n + j) ((bor n (n + j)).map (Value.int .i64)) ∧ Below w.heap.size w wr) (fun _ v22 _ => n - (intOf v22).toNat)
      case atStart => exact ⟨0, Nat.zero_le _, rfl, rfl, htri.cast (by simp) (by simp) (by simp), hm, ho, hb⟩
      case round =>
        clear htri hm ho hb
        obtain ⟨j, hj, rfl, rfl, htri, hm, ho, hb⟩ := hrel
        have hz := hb.size
        by_cases hlt : j < n
        · have HE := Lib.hid (be2 n j hlt)
          have e := Lib.hid (bor_succ n (n + j))
          have t0 := htri.c0
          have t1 := htri.c1
          have t2 := htri.c2
          have htl := htri.lt
          go_wp2_with fail
          refine (indexOf_any n 0 ((n : Int) - (j : Nat)) (j : Nat) (by omega) (by omega) (by omega) (by omega) (by omega) _).mono ?_
          rintro e' w2 ⟨rfl, hb2⟩
          rw [← HE.out]
          have htri2 := htri.of (hb2.block _ htl)
          have hm2 : w2.cell? ⟨w.heap.size, 0, none⟩ = some (.int .i64 n) := (hb2.cell (by simp; omega)).trans hm
          have ho2 := own_now ho hb2
          have hB2 := bnext hb hb2
          have htl2 := htri2.lt
          have hmlt : w.heap.size < w2.heap.size := by omega
          clear htri hm ho hb hb2 t0 t1 t2
          go_wp2_with (at_builtin; refine append_fit_int w.heap.size (w.heap.size + 1) (3 * n) (n + j) _ _ (bor n (n + j)) _ rfl _ _ rfl rfl rfl rfl ho2 (by omega) ?_; intro w3 ho3 hb3 hk3; have htri3 := htri2.of (hk3 _ htl2 (by omega)); have t0 := htri3.c0; have t1 := htri3.c1; have t2 := htri3.c2; have f0 := htri3.fr 0; have f1 := htri3.fr 1; have f2 := htri3.fr 2)
          have hm3 : w3.cell? ⟨w.heap.size, 0, none⟩ = some (.int .i64 n) := (World.cell?_of_block (w := w2) (hk3 w.heap.size hmlt (by omega))).trans hm2
          go_roundw
          case rel =>
            refine ⟨j + 1, by omega, by go_num, rfl, ((htri3.s1 ((n : Int) - (j : Nat) - 1)).s2 ((j : Nat) + 1)).cast rfl (by omega) (by omega), ?_, ?_, (((hB2.trans hb3).setCell (by show w.heap.size ≤ w1.heap.size; omega) _).setCell (by show w.heap.size ≤ w1.heap.size; omega) _)⟩
            · rw [World.cell?_setCell_other _ _ _ _ (by simp), World.cell?_setCell_other _ _ _ _ (by simp)]; exact hm3
            · have h' : w3.ownsRow w.heap.size 3 1 (.slice (some ⟨w.heap.size + 1, 0, none⟩) (n + j + 1) (3 * n)) (n + j + 1) ((bor n (n + j + 1)).map (Value.int .i64)) := by rw [e.out]; exact ho3
              exact own_set (own_set h' (by omega) _ _) (by omega) _ _
          case measure => simp [intOf]; omega
        · have hj2 : n = j := by omega
          subst hj2
          have h3 : 2 * n + n = 3 * n := by omega
          have H3 := Lib.hid h3
          clear h3
          go_wp2_with fail
          have h3 := H3.out
          go_roundw
          case rel => exact ⟨2, 2 * n, 0, 0, n, by omega, rfl, by rw [show 2 * n = n + n by omega], .inr (.inr (.inl ⟨rfl, rfl, rfl, rfl, rfl⟩)), htri.cast rfl (by simp) rfl, hm, by rw [show 2 * n = n + n by omega]; exact ho, hb⟩
          case measure => simp [intOf]
    · go_wp2_with fail
      go_loopw [3, 22] (fun v3 v22 wr => ∃ j : Nat, j ≤ n ∧ v22 = .int .i64 j ∧ v3 = .slice (some ⟨w.heap.size + 1, 0, none⟩) (2 * n + j) (3 * n) ∧ Tri wr w1.heap.size (j : Nat) 0 ((n : Int) - (j : Nat)) ∧ wr.cell? ⟨w.heap.size, 0, none⟩ = some (.int .i64 n) ∧
          wr.ownsRow w.heap.size 3 1 (.slice (some ⟨w.heap.size + 1, 0, none⟩) (2 * n + j) (3 * n)) (2 * n + j) ((bor n (2 * n + j)).map (Value.int .i64)) ∧ Below w.heap.size w wr) (fun _ v22 _ => n - (intOf v22).toNat)
      case atStart => exact ⟨0, Nat.zero_le _, rfl, rfl, htri.cast (by simp) (by simp) (by simp), hm, ho, hb⟩
      case round =>
        clear htri hm ho hb
        obtain ⟨j, hj, rfl, rfl, htri, hm, ho, hb⟩ := hrel
        have hz := hb.size
        by_cases hlt : j < n
        · have HE := Lib.hid (be3 n j hlt)
          have e := Lib.hid (bor_succ n (2 * n + j))
          have t0 := htri.c0
          have t1 := htri.c1
          have t2 := htri.c2
          have htl := htri.lt
          go_wp2_with fail
          refine (indexOf_any n (j : Nat) 0 ((n : Int) - (j : Nat)) (by omega) (by omega) (by omega) (by omega) (by omega) _).mono ?_
          rintro e' w2 ⟨rfl, hb2⟩
          rw [← HE.out]
          have htri2 := htri.of (hb2.block _ htl)
          have hm2 : w2.cell? ⟨w.heap.size, 0, none⟩ = some (.int .i64 n) := (hb2.cell (by simp; omega)).trans hm
          have ho2 := own_now ho hb2
          have hB2 := bnext hb hb2
          have htl2 := htri2.lt
          have hmlt : w.heap.size < w2.heap.size := by omega
          clear htri hm ho hb hb2 t0 t1 t2
          go_wp2_with (at_builtin; refine append_fit_int w.heap.size (w.heap.size + 1) (3 * n) (2 * n + j) _ _ (bor n (2 * n + j)) _ rfl _ _ rfl rfl rfl rfl ho2 (by omega) ?_; intro w3 ho3 hb3 hk3; have htri3 := htri2.of (hk3 _ htl2 (by omega)); have t0 := htri3.c0; have t1 := htri3.c1; have t2 := htri3.c2; have f0 := htri3.fr 0; have f1 := htri3.fr 1; have f2 := htri3.fr 2)
          have hm3 : w3.cell? ⟨w.heap.size, 0, none⟩ = some (.int .i64 n) := (World.cell?_of_block (w := w2) (hk3 w.heap.size hmlt (by omega))).trans hm2
          go_roundw
          case rel =>
            refine ⟨j + 1, by omega, by go_num, rfl, ((htri3.s2 ((n : Int) - (j : Nat) - 1)).s0 ((j : Nat) + 1)).cast (by omega) rfl (by omega), ?_, ?_, (((hB2.trans hb3).setCell (by show w.heap.size ≤ w1.heap.size; omega) _).setCell (by show w.heap.size ≤ w1.heap.size; omega) _)⟩
            · rw [World.cell?_setCell_other _ _ _ _ (by simp), World.cell?_setCell_other _ _ _ _ (by simp)]; exact hm3
            · have h' : w3.ownsRow w.heap.size 3 1 (.slice (some ⟨w.heap.size + 1, 0, none⟩) (2 * n + j + 1) (3 * n)) (2 * n + j + 1) ((bor n (2 * n + j + 1)).map (Value.int .i64)) := by rw [e.out]; exact ho3
              exact own_set (own_set h' (by omega) _ _) (by omega) _ _
          case measure => simp [intOf]; omega
        · have hj2 : n = j := by omega
          subst hj2
          have h3 : 2 * n + n = 3 * n := by omega
          have H3 := Lib.hid h3
          clear h3
          go_wp2_with fail
          have h3 := H3.out
          go_roundw
          case rel => exact ⟨3, 3 * n, n, 0, 0, by omega, rfl, by rw [h3], .inr (.inr (.inr ⟨rfl, rfl⟩)), htri.cast rfl rfl (by simp), hm, by rw [h3] at ho; exact ho, hb⟩
          case measure => simp [intOf]
    · obtain ⟨-, a', cap', b', hv, -, -⟩ := own_shape ho
      have hl := bor_len n (3 * n)
      go_wp2_with fail
      go_ret
      exact ⟨_, rfl, by rw [hl]; exact ho, hb⟩
end Go.Proofs.Ytjbdhgomcchoaaa
