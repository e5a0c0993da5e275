import Derived.Test.YtjohjiknngagiaaK17
namespace Go.Proofs.Ytjohjiknngagiaa
open Go.RowKit
set_option maxRecDepth 4000
theorem own_four (w : World) (x cx y cy : Int) : (w.alloc (.cells #[.int .i64 x, .int .i64 cx, .int .i64 y, .int .i64 cy] 80)).ownsRow w.heap.size 80 2 (.slice (some ⟨w.heap.size, 0, none⟩) 2 2) 2 [.int .i64 x, .int .i64 cx, .int .i64 y, .int .i64 cy] :=
  ⟨rfl, .inr ⟨w.heap.size, 2, _, rfl, Nat.le_refl _, heap_alloc_new w _, Nat.le_refl _, by simp [maxLen], rfl, rfl⟩⟩
/-- The two sets that are found, and their colours. -/
def twN (l : List Nat) : Option (Nat × Nat) → List Nat
  | none => []
  | some p => [l.getD p.1 0, l.getD p.2 0]
def twC (cs : List Int) : Option (Nat × Nat) → List Int
  | none => []
  | some p => [cs.getD p.1 0, cs.getD p.2 0]
theorem twN_toI (l : List Nat) (r : Option (Nat × Nat)) : toI (twN l r) = twoL l r := by cases r <;> rfl
set_option maxHeartbeats 3200000 in
theorem firstTwo_any (l : List Nat) (cs : List Int) (hls : ∀ s ∈ l, s < 256) (hlen : l.length ≤ 256) (r : Option (Nat × Nat)) (hr : ResOf (clS l cs) l.length r) (a : Option Addr) (cap : Nat) (w : World) (h : RdP w w.heap.size a l cs l.length) (hcap : l.length ≤ cap) (hcm : cap ≤ maxLen) :
    Calls Try.prog 79 #[.slice a l.length cap, .func (.func 76) #[] #[]] w fun e w' => ∃ v, e = .returned (.tuple #[v, .bool r.isSome]) ∧ w'.ownsRow w.heap.size 80 2 v (twN l r).length (prV (twN l r) (twC cs r) (twN l r).length) ∧ Below w.heap.size w w' := by
  obtain ⟨b, hc⟩ := h
  unfold maxLen at hcm
  have HC := Lib.hid hc
  have HX := Lib.hid (fun j (hj : j < l.length) => mem_getD hls j hj)
  have HF := Lib.hid (fun i j => @res_found (clS l cs) l.length r hr i j)
  have HN := Lib.hid (res_none hr)
  have HCL : Hid (∀ i j, clS l cs i j = (decide (l.getD i 0 &&& l.getD j 0 = 0) && (cs.getD i 0 == cs.getD j 0))) := Lib.hid (fun i j => rfl)
  have HTW : Hid (∀ i j, prV (twN l (some (i, j))) (twC cs (some (i, j))) (twN l (some (i, j))).length = [.int .i64 ((l.getD i 0 : Nat) : Int), .int .i64 (cs.getD i 0), .int .i64 ((l.getD j 0 : Nat) : Int), .int .i64 (cs.getD j 0)]) := Lib.hid (fun i j => rfl)
  clear hc hls hr
  go_enter Try.func79, Try.ntmps79
  go_wp2_with fail
  go_loopw [12] (fun v12 wr => ∃ i : Nat, i ≤ l.length ∧ v12 = .int .i64 i ∧ (∀ i' j', i' < i → i' < j' → j' < l.length → clS l cs i' j' = false) ∧ Below w.heap.size w wr) (fun v12 _ => l.length - (intOf v12).toNat)
  case atStart => exact ⟨0, Nat.zero_le _, rfl, fun _ _ h => by omega, Below.refl _ _⟩
  case round =>
    obtain ⟨i, hi, rfl, hrows, hb⟩ := hrel
    obtain ⟨wq, rfl⟩ : ∃ wq : World, wq = wr := ⟨_, rfl⟩
    have HR := Lib.hid hrows
    clear hrows
    have hz := hb.size
    by_cases hlt : i < l.length
    · have hii : (i : Int) < (l.length : Int) := by omega
      obtain ⟨ha, hbl, c, d⟩ := HC.out i hlt
      have c1 : wq.cell? ⟨b, i * 2, none⟩ = some (.int .i64 (l.getD i 0 : Nat)) := (hb.cell (p := ⟨b, i * 2, none⟩) hbl).trans c
      have d1 : wq.cell? ⟨b, i * 2 + 1, none⟩ = some (.int .i64 (cs.getD i 0)) := (hb.cell (p := ⟨b, i * 2 + 1, none⟩) hbl).trans d
      have hx := HX.out i hlt
      subst ha
      obtain ⟨x, hxx⟩ : ∃ x, x = l.getD i 0 := ⟨_, rfl⟩
      obtain ⟨y, hyy⟩ : ∃ y, y = cs.getD i 0 := ⟨_, rfl⟩
      rw [← hxx] at c1 hx
      rw [← hyy] at d1
      have HXX := Lib.hid hxx
      have HYY := Lib.hid hyy
      obtain ⟨w1, hw1⟩ : ∃ w1, w1 = wq.alloc (.cells #[.int .i64 x, .int .i64 y] 80) := ⟨_, rfl⟩
      have g1 : w1.heap[wq.heap.size]? = some (.cells #[.int .i64 x, .int .i64 y] 80 (0, 0)) := by rw [hw1]; exact heap_alloc_new _ _
      have hb1 : Below w.heap.size w w1 := by rw [hw1]; exact hb.alloc hz _
      have hz1 : wq.heap.size < w1.heap.size := hp_lt g1
      have hsl : (i : Int) + 1 ≤ (cap : Int) := by omega
      have hsl2 : (i : Int) + 1 ≤ (l.length : Int) := by omega
      have HW1 := Lib.hid hw1
      clear c d hxx hyy hw1
      by_cases hcapi : cap = i + 1
      · have hli : l.length = i + 1 := by omega
        have HK : Hid (∀ i' j', i' < i + 1 → i' < j' → j' < l.length → clS l cs i' j' = false) := Lib.hid (fun i' j' h1 h2 h3 => HR.out i' j' (by omega) h2 h3)
        have h00 : ¬ (0 : Int) < (l.length : Int) - ((i : Int) + 1) := by omega
        have hcc : i + 1 = cap := hcapi.symm
        clear hli hcapi
        go_wp2_with fail
        rw [← HW1.out]
        go_rounds 1
        go_roundw
        case rel => exact ⟨i + 1, by omega, by go_num, HK.out, hb1⟩
        case measure => simp [intOf]; omega
      · go_wp2_with fail
        rw [← HW1.out]
        go_loopw [22] (fun v22 wr => ∃ j : Nat, j ≤ l.length - (i + 1) ∧ v22 = .int .i64 j ∧ (∀ j', i < j' → j' < i + 1 + j → clS l cs i j' = false) ∧ wr.heap[wq.heap.size]? = some (.cells #[.int .i64 x, .int .i64 y] 80 (0, 0)) ∧ Below w.heap.size w wr) (fun v22 _ => l.length - (i + 1) - (intOf v22).toNat)
        case atStart => exact ⟨0, Nat.zero_le _, rfl, fun j' h1 h2 => by omega, g1, hb1⟩
        case round =>
          clear c1 d1 hb g1 hb1 hz1
          obtain ⟨j, hj, rfl, hrow, g1, hb⟩ := hrel
          obtain ⟨wp, rfl⟩ : ∃ wp : World, wp = wr := ⟨_, rfl⟩
          have HW := Lib.hid hrow
          clear hrow
          have hzp := hb.size
          have hg1 := hp_lt g1
          by_cases hjl : i + 1 + j < l.length
          · have hjj : (j : Int) < (l.length : Int) - ((i : Int) + 1) := by omega
            obtain ⟨-, -, c, d⟩ := HC.out (i + 1 + j) hjl
            have c1 : wp.cell? ⟨b, (i + 1) * 2 + j * 2, none⟩ = some (.int .i64 (l.getD (i + 1 + j) 0 : Nat)) := by
              rw [show (i + 1) * 2 + j * 2 = (i + 1 + j) * 2 by omega]; exact (hb.cell (p := ⟨b, (i + 1 + j) * 2, none⟩) hbl).trans c
            have d1 : wp.cell? ⟨b, (i + 1) * 2 + j * 2 + 1, none⟩ = some (.int .i64 (cs.getD (i + 1 + j) 0)) := by
              rw [show (i + 1) * 2 + j * 2 = (i + 1 + j) * 2 by omega]; exact (hb.cell (p := ⟨b, (i + 1 + j) * 2 + 1, none⟩) hbl).trans d
            have hz := HX.out _ hjl
            have HCB : Hid (clS l cs i (i + 1 + j) = (decide (x &&& l.getD (i + 1 + j) 0 = 0) && (y == cs.getD (i + 1 + j) 0))) := Lib.hid (by rw [HCL.out, HXX.out, HYY.out])
            have HTT : Hid (prV (twN l (some (i, i + 1 + j))) (twC cs (some (i, i + 1 + j))) (twN l (some (i, i + 1 + j))).length = [.int .i64 (x : Int), .int .i64 y, .int .i64 ((l.getD (i + 1 + j) 0 : Nat) : Int), .int .i64 (cs.getD (i + 1 + j) 0)]) := Lib.hid (by rw [HTW.out, HXX.out, HYY.out])
            have HLT : Hid ((twN l (some (i, i + 1 + j))).length = 2) := Lib.hid rfl
            have HNX : Hid (clS l cs i (i + 1 + j) = false → ∀ j', i < j' → j' < i + 1 + (j + 1) → clS l cs i j' = false) := Lib.hid (fun hc j' h1 h2 => by
              by_cases he : j' = i + 1 + j
              · rw [he]; exact hc
              · exact HW.out j' h1 (by omega))
            have HFN := Lib.hid (HF.out i (i + 1 + j) (by omega) hjl)
            clear c d
            generalize l.getD (i + 1 + j) 0 = x2 at *
            generalize cs.getD (i + 1 + j) 0 = y2 at *
            have e0 : wp.cell? ⟨wq.heap.size, 0, none⟩ = some (.int .i64 x) := blk_cell g1 0 _ rfl
            have e1 : wp.cell? ⟨wq.heap.size, 1, none⟩ = some (.int .i64 y) := blk_cell g1 1 _ rfl
            obtain ⟨w2, hw2⟩ : ∃ w2, w2 = wp.alloc (.cells #[.int .i64 x2, .int .i64 y2] 80) := ⟨_, rfl⟩
            have g2 : w2.heap[wp.heap.size]? = some (.cells #[.int .i64 x2, .int .i64 y2] 80 (0, 0)) := by rw [hw2]; exact heap_alloc_new _ _
            have g1' : w2.heap[wq.heap.size]? = some (.cells #[.int .i64 x, .int .i64 y] 80 (0, 0)) := by rw [hw2]; exact hp_keep g1 (balloc (Below.refl _ _) _) hg1
            have hb2 : Below w.heap.size w w2 := by rw [hw2]; exact hb.alloc hzp _
            have hg2 := hp_lt g2
            have HCA := Lib.hid (clash_any x x2 y y2 hx hz w2)
            have HW2 := Lib.hid hw2
            have HG1 := Lib.hid g1'
            have HG2 := Lib.hid g2
            clear hw2 g1 g1' g2
            cases hcl : (decide (x &&& x2 = 0) && (y == y2))
            · rw [hcl] at HCB HCA
              have HK := Lib.hid (HNX.out HCB.out)
              clear hcl
              go_wp2_with fail
              rw [← HW2.out]
              refine HCA.out.mono ?_
              rintro e w3 ⟨rfl, hb3⟩
              have G1 := hp_keep HG1.out hb3 (by omega)
              have hb4 := bnext hb2 hb3
              go_wp2_with fail
              go_roundw
              case rel => exact ⟨j + 1, by omega, by go_num, HK.out, G1, hb4⟩
              case measure => simp [intOf]; omega
            · rw [hcl] at HCB HCA
              have HK := Lib.hid (HFN.out HCB.out HR.out HW.out)
              clear hcl
              go_wp2_with fail
              rw [← HW2.out]
              refine HCA.out.mono ?_
              rintro e w3 ⟨rfl, hb3⟩
              have G1 := hp_keep HG1.out hb3 (by omega)
              have G2 := hp_keep HG2.out hb3 hg2
              have p0 : w3.cell? ⟨wq.heap.size, 0, none⟩ = some (.int .i64 x) := blk_cell G1 0 _ rfl
              have p1 : w3.cell? ⟨wq.heap.size, 1, none⟩ = some (.int .i64 y) := blk_cell G1 1 _ rfl
              have q0 : w3.cell? ⟨wp.heap.size, 0, none⟩ = some (.int .i64 x2) := blk_cell G2 0 _ rfl
              have q1 : w3.cell? ⟨wp.heap.size, 1, none⟩ = some (.int .i64 y2) := blk_cell G2 1 _ rfl
              have hb4 := bnext hb2 hb3
              have hz4 := hb4.size
              clear G1 G2
              go_wp2_with fail
              go_returns
              rw [HK.out, HTT.out, HLT.out]
              exact ⟨_, rfl, own_base (own_four _ _ _ _ _) hz4, hb4.alloc hz4 _⟩
          · have HK : Hid (∀ i' j', i' < i + 1 → i' < j' → j' < l.length → clS l cs i' j' = false) := Lib.hid (fun i' j' h1 h2 h3 => by
              by_cases he : i' = i
              · subst he; exact HW.out j' h2 (by omega)
              · exact HR.out i' j' (by omega) h2 h3)
            have hjj : ¬ (j : Int) < (l.length : Int) - ((i : Int) + 1) := by omega
            go_wp2_with fail
            go_roundw
            case rel => exact ⟨i + 1, by omega, by go_num, HK.out, hb⟩
            case measure => simp [intOf]; omega
    · have HK := Lib.hid (HN.out (fun i' j' h1 => HR.out i' j' (by omega)))
      go_wp2_with fail
      go_returns
      rw [HK.out]
      exact ⟨_, rfl, World.ownsRow_nil _ _ _ _, hb⟩
end Go.Proofs.Ytjohjiknngagiaa
