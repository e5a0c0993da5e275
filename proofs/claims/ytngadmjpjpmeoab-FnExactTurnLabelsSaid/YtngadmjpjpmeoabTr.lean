import Derived.Test.YtngadmjpjpmeoabMi
namespace Go.Proofs.Ytngadmjpjpmeoab
open Go.RowKit
theorem ite_guard {c : Prop} [Decidable c] {a b : Prop} (h : if c then a else b) : if c then a else b := h
/-- One number more at the end of a slice of the call's own, at a step of a region that draws its order. -/
theorem step_append_int {ops : Array Oper} {o : Oper} {a : Act} {w : World} {K : Act → World → Prop} {Q : Exit → Act → World → Prop} {E : Prop} (base g : Nat) (v : Value) (xs : List Int) (x : Int)
    (hgd : o.guard = none) (s y : Operand) (ho : o.op = .call { callee := .builtin .append, args := #[s, y], argTypes := #[22, 22] })
    (hs : a.eval s = v) (hx : a.eval y = .slice (some ⟨g, 0, none⟩) 1 1) (hc : w.cell? ⟨g, 0, none⟩ = some (.int .i64 x))
    (hown : w.ownsRow base 3 1 v xs.length (xs.map (Value.int .i64))) (hbase : base ≤ w.heap.size) (hlen : xs.length < 1000000000000)
    (h : ∀ v' w', w'.ownsRow base 3 1 v' (xs ++ [x]).length ((xs ++ [x]).map (Value.int .i64)) → Below base w w' → (∀ k, k < w.heap.size → some k ≠ v.ownBlock → w'.heap[k]? = w.heap[k]?) → K (a.put o.dst v') w') :
    if Region.wanted o (yielded ops a.tmps) = true then Oper.wp Try.prog o a w K Q else E := by
  have hw : Region.wanted o (yielded ops a.tmps) = true := by simp [Region.wanted, hgd]
  rw [if_pos hw]
  obtain ⟨i0, hi, hz0, hz1, hz2⟩ := info_parts intInfo
  refine wp_append_own _ s y 22 ho base 3 i0 (.int .i64 0) 1 8 Try.underlying22 hi hz0 hz1 hz2 rfl (by decide) v xs.length _ hs hown ⟨g, 0, none⟩ 1 1 [.int .i64 x] hx rfl ?_ ?_ ?_ ?_ hbase ?_
  · intro j u hj
    match j, hj with
    | 0, hj => simp at hj; subst hj; simpa [Addr.add] using hc
  · intro u hu; simp at hu; subst hu; rfl
  · unfold maxLen; omega
  · omega
  · intro v' w1 hown' hgrow _
    exact h v' w1 (by simpa using hown') ((Below.refl base w).grown hgrow hbase (fun k hk => (hown.lt k hk).1)) (fun k hk hne => hgrow.block k hk hne)
set_option maxHeartbeats 1000000 in
theorem specTurnLabels_yes (n : Nat) (xs : List Int) (a : Option Addr) (b len cap : Nat) (w : World) (hn : xs.length = len) (h : Rd w a b 0 xs) (hb0 : len = 0 ∨ b < w.heap.size) (hL : labB n xs = true) :
    Calls Try.prog 14 #[.int .i64 n, .slice a len cap] w (Gives w 3 (mL (tuV n xs) (Pr.cnt n)) true) := by
  have hml := meLabels_any n xs a b 0 len cap w hn h
  rw [hL] at hml
  have HM := Lib.hid hml
  obtain ⟨h1, h2, hl, hA⟩ := labB_yes hL
  have hcn := (Pr.cnt_le n (by omega)).1
  have hlen : len ≤ 45 := by omega
  have HRD : Hid (∀ W, Below w.heap.size w W → Rd W a b 0 xs) := by
    intro W hB
    refine ⟨h.1, fun j hj => ⟨(h.2 j hj).1, ?_⟩⟩
    rcases hb0 with h' | h'
    · rw [hn, h'] at hj; exact absurd hj (Nat.not_lt_zero _)
    · exact (hB.cell h').trans (h.2 j hj).2
  have HN := Lib.hid hn
  have HL := Lib.hid hl
  have HA := Lib.hid hA
  clear h hn hl hA hL hml
  go_enter Try.func14, Try.ntmps14
  go_wp2_with fail
  refine HM.out.mono ?_
  rintro e w' ⟨rfl, rfl⟩
  go_wp2_with fail
  go_loopw [6, 15] (fun v6 v15 wr => ∃ k : Nat, k ≤ len ∧ v15 = .int .i64 k ∧ wr.ownsRow w.heap.size 3 1 v6 (mL (tuV n xs) k).length ((mL (tuV n xs) k).map (Value.int .i64)) ∧ Below w.heap.size w wr) (fun _ v15 _ => len - (intOf v15).toNat)
  case atStart => exact ⟨0, Nat.zero_le _, rfl, World.ownsRow_nil _ _ _ _, Below.refl _ _⟩
  case round =>
    obtain ⟨k, hk, rfl, ho, hb⟩ := hrel
    have hz := hb.size
    by_cases hlt : k < len
    · have hkc : k < Pr.cnt n := by have := HL.out; have := HN.out; omega
      have hk45 : k < 45 := by omega
      have hrc := Pr.RC_bd k hk45
      have hrn := R_le n (by omega) k hkc
      have hti := (ti_lt n (by omega) k hkc).1
      have hv := allB_at HA.out (ti n k) (by have := HL.out; omega)
      have HE : Hid (tuV n xs k = (xs.getD (ti n k) 0 + 1) % 3) := rfl
      have HQ := Lib.hid (ti_eq n k hrn hrc.1)
      have hqi : (ti n k : Int) < (len : Int) := by have := HL.out; have := HN.out; omega
      have hrd := HRD.out _ (balloc hb (.cells #[.int .i64 ((n : Int) - (Pr.R k : Nat)), .int .i64 ((Pr.R k : Int) - (Pr.C k : Nat)), .int .i64 (Pr.C k : Nat)] 3))
      obtain ⟨ha, cx⟩ := hrd.2 (ti n k) (by have := HL.out; omega)
      simp only [Nat.zero_add] at cx
      subst ha
      generalize hr : xs.getD (ti n k) 0 = r at *
      have HRR := Lib.hid hr
      clear hr
      have e := Lib.hid (mL_succ (tuV n xs) k)
      have hmlen := mL_len (tuV n xs) k
      have HLEN := Lib.hid hmlen
      have C3 := Lib.hid (cell3b wr ((n : Int) - (Pr.R k : Nat)) ((Pr.R k : Int) - (Pr.C k : Nat)) (Pr.C k : Nat) 3)
      have hbl : b < w.heap.size := by
        rcases hb0 with h' | h'
        · omega
        · exact h'
      clear hmlen hrd
      go_wp2_with fail
      refine (meAt_any n k h1 h2 hk45 _).mono ?_
      rintro e' w' ⟨rfl, rfl⟩
      have c0 := C3.out 0 (by omega)
      have c1 := C3.out 1 (by omega)
      have c2 := C3.out 2 (by omega)
      simp only [List.getD_cons_zero, List.getD_cons_succ] at c0 c1 c2
      have ho1 := ho.alloc (.cells #[.int .i64 ((n : Int) - (Pr.R k : Nat)), .int .i64 ((Pr.R k : Int) - (Pr.C k : Nat)), .int .i64 (Pr.C k : Nat)] 3)
      have hb1 := balloc hb (.cells #[.int .i64 ((n : Int) - (Pr.R k : Nat)), .int .i64 ((Pr.R k : Int) - (Pr.C k : Nat)), .int .i64 (Pr.C k : Nat)] 3)
      have hzz : wr.heap.size < (wr.alloc (.cells #[.int .i64 ((n : Int) - (Pr.R k : Nat)), .int .i64 ((Pr.R k : Int) - (Pr.C k : Nat)), .int .i64 (Pr.C k : Nat)] 3)).heap.size := by simp
      have hvb : ∀ k', u6.ownBlock = some k' → k' < wr.heap.size := own_lt ho
      have hvw : ∀ k', u6.ownBlock = some k' → w.heap.size ≤ k' := fun k' hk' => (ho.lt k' hk').1
      clear ho hb
      generalize hW : wr.alloc (.cells #[.int .i64 ((n : Int) - (Pr.R k : Nat)), .int .i64 ((Pr.R k : Int) - (Pr.C k : Nat)), .int .i64 (Pr.C k : Nat)] 3) = W at *
      clear hW
      have hb00 := Below.refl W.heap.size W
      have hwW : wr.heap.size < W.heap.size := hzz
      have cxW : W.cell? ⟨b, ti n k, none⟩ = some (.int .i64 r) := cx
      have hbW : b < W.heap.size := by have := hb1.size; omega
      have hNE0 : ∀ k', u6.ownBlock = some k' → k' ≠ wr.heap.size := fun k' hk' => by have := hvb k' hk'; omega
      have hNEb : ∀ k', u6.ownBlock = some k' → k' ≠ b := fun k' hk' => by have := hvw k' hk'; omega
      have HNE0 := Lib.hid hNE0
      have HNEb := Lib.hid hNEb
      have hbW1 := hb1
      clear hNE0 hNEb hvb hvw
      go_wp2_with fail
      go_region_held3 (fun w' => Below w.heap.size w w' ∧ w'.cell? ⟨wr.heap.size, 0, none⟩ = some (.int .i64 ((n : Int) - (Pr.R k : Nat))) ∧ w'.cell? ⟨wr.heap.size, 1, none⟩ = some (.int .i64 ((Pr.R k : Int) - (Pr.C k : Nat))) ∧ w'.cell? ⟨wr.heap.size, 2, none⟩ = some (.int .i64 (Pr.C k : Nat)) ∧ w'.cell? ⟨b, ti n k, none⟩ = some (.int .i64 r))
        ((refine ⟨?_, ?_, ?_, ?_, ?_⟩ <;> first | assumption | (refine Below.drew ?_; assumption) | (refine balloc ?_ _; assumption) | (refine balloc (Below.drew ?_) _; assumption) | (refine Below.drew (balloc ?_ _); assumption) | go_keep))
        (first | (go_at_call 27; go_split_ands; refine (meIndex_bel n ((Pr.R k : Int) - (Pr.C k : Nat)) ((n : Int) - (Pr.R k : Nat)) W.heap.size 3 (by omega) (by omega) (by omega) (by omega) (by omega) _ (by first | go_cell | go_simp) (by first | go_cell | go_simp)).mono ?_; rintro e' w' ⟨rfl, hb'⟩; rw [HQ.out]; have hB' : Below W.heap.size W w' := bnext (by first | (refine Below.drew (balloc (Below.refl _ _) _)) | (refine balloc (Below.refl _ _) _) | (refine balloc (Below.drew (Below.refl _ _)) _)) hb'; have hBw := hbW1.trans (hB'.mono hbW1.size); have q0 := (hB'.cell (p := ⟨wr.heap.size, 0, none⟩) hwW).trans c0; have q1 := (hB'.cell (p := ⟨wr.heap.size, 1, none⟩) hwW).trans c1; have q2 := (hB'.cell (p := ⟨wr.heap.size, 2, none⟩) hwW).trans c2; have qx := (hB'.cell (p := ⟨b, ti n k, none⟩) hbW).trans cxW) | ((with_reducible refine ite_guard ?_); (have _tt := hB'); clear _tt; refine step_append_int w.heap.size w'.heap.size u6 (mL (tuV n xs) k) ((IntKind.i64.wrap (r + 1)).tmod 3) ?_ (.tmp 21) (.tmp 39) ?_ ?_ ?_ ?_ ?_ ?_ ?_ ?_; exact rfl; exact rfl; exact rfl; exact rfl; (rw [World.cell?_alloc_at _ _ _ _ rfl]; rfl); exact (own_now ho1 hB').alloc _; (have := hBw.size; simp only [World.size_alloc]; omega); (have := HLEN.out; omega); intro v7 w7 ho7 hb7 hk7; have hBw7 := hBw.trans ((balloc (Below.refl w'.heap.size w') (.cells #[.int .i64 ((IntKind.i64.wrap (r + 1)).tmod 3)] 3)).mono (hBw.size) |>.trans hb7); have z0 := (World.cell?_of_block (w := w'.alloc (.cells #[.int .i64 ((IntKind.i64.wrap (r + 1)).tmod 3)] 3)) (a := ⟨wr.heap.size, 0, none⟩) (hk7 wr.heap.size (by have := hB'.size; simp; omega) (fun h => HNE0.out _ h.symm rfl))).trans ((World.cell?_alloc_past _ _ _ (by have := hB'.size; show wr.heap.size < w'.heap.size; omega)).trans q0); have z1 := (World.cell?_of_block (w := w'.alloc (.cells #[.int .i64 ((IntKind.i64.wrap (r + 1)).tmod 3)] 3)) (a := ⟨wr.heap.size, 1, none⟩) (hk7 wr.heap.size (by have := hB'.size; simp; omega) (fun h => HNE0.out _ h.symm rfl))).trans ((World.cell?_alloc_past _ _ _ (by have := hB'.size; show wr.heap.size < w'.heap.size; omega)).trans q1); have z2 := (World.cell?_of_block (w := w'.alloc (.cells #[.int .i64 ((IntKind.i64.wrap (r + 1)).tmod 3)] 3)) (a := ⟨wr.heap.size, 2, none⟩) (hk7 wr.heap.size (by have := hB'.size; simp; omega) (fun h => HNE0.out _ h.symm rfl))).trans ((World.cell?_alloc_past _ _ _ (by have := hB'.size; show wr.heap.size < w'.heap.size; omega)).trans q2); have zx := (World.cell?_of_block (w := w'.alloc (.cells #[.int .i64 ((IntKind.i64.wrap (r + 1)).tmod 3)] 3)) (a := ⟨b, ti n k, none⟩) (hk7 b (by have := hB'.size; simp; omega) (fun h => HNEb.out _ h.symm rfl))).trans ((World.cell?_alloc_past _ _ _ (by have := hB'.size; show b < w'.heap.size; omega)).trans qx)))
      have e2 := Lib.hid (show tuV n xs k = (IntKind.i64.wrap (r + 1)).tmod 3 by rw [HE.out, IntWalk.i64_in _ (by omega), Int.tmod_eq_emod_of_nonneg (by omega)])
      go_wp2_with fail
      go_roundw
      case rel => exact ⟨k + 1, by omega, by go_num, by rw [e.out, e2.out]; exact ho7, hBw7⟩
      case measure => simp [intOf]; omega
    · have hk2 : k = Pr.cnt n := by have := HL.out; have := HN.out; omega
      have HK := Lib.hid hk2
      obtain ⟨-, a', cap', b', rfl, -, -⟩ := own_shape ho
      clear hk2
      go_wp2_with fail
      go_ret2
      rw [← HK.out]
      exact ⟨_, rfl, ho, hb⟩
end Go.Proofs.Ytngadmjpjpmeoab
