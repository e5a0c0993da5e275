import Derived.Test.YtgbfpmfennmebaaSh
import Derived.Test.YtgbfpmfennmebaaZj
namespace Go.Proofs.Ytgbfpmfennmebaa
open Go.RowKit
set_option maxRecDepth 4000
def okSignOfFull (n : Int) (xs : List Int) (k : Int) : Bool := okCell n xs k && fullB xs n.toNat k.toNat
def valSignOfFull (n : Int) (xs : List Int) (k : Int) : Int := if okSignOfFull n xs k then signB xs n.toNat k.toNat else 0
theorem not_op_g {ops : Array Oper} {rest : List Oper} {o : Oper} {a : Act} {w : World} {Q : Exit → Act → World → Prop} (hw : Region.wanted o (yielded ops a.tmps) = true) (x : Operand) (ho : o.op = .unOp .not 4 x) (b : Bool) (hx : a.eval x = .bool b)
    (h : wpList Try.prog ops Q rest (a.put o.dst (.bool !b)) w) : wpList Try.prog ops Q (o :: rest) a w := by
  refine wpList_step fun K hK => ?_
  rw [if_pos hw]
  have e : (execOp a.eval o).run Try.prog w = .ok (.value (.bool !b)) w := by
    unfold execOp
    simp only [ho, hx]
    rfl
  unfold Oper.wp
  rw [e]
  exact hK _ _ h
theorem pick_op {ops : Array Oper} {rest : List Oper} {o : Oper} {a : Act} {w : World} {Q : Exit → Act → World → Prop} (hgd : o.guard = none) (c x y : Operand) (ho : o.op = .pick c x y) (hc : a.eval c = .bool false)
    (h : wpList Try.prog ops Q rest (a.put o.dst (a.eval y)) w) : wpList Try.prog ops Q (o :: rest) a w := by
  refine wpList_plain hgd fun K hK => ?_
  have e : (execOp a.eval o).run Try.prog w = .ok (.value (a.eval y)) w := by
    unfold execOp
    simp only [ho, hc]
    rfl
  unfold Oper.wp
  rw [e]
  exact hK _ _ h
set_option maxHeartbeats 800000 in
theorem specSignOfFull (n : Int) (xs : List Int) (k : Int) (a : Option Addr) (b len cap : Nat) (w : World) (hn : xs.length = len) (h : Rd w a b 0 xs) (hb0 : len = 0 ∨ b < w.heap.size) :
    Calls Try.prog 9 #[.int .i64 n, .slice a len cap, .int .i64 k] w fun e w' => e = .returned (.tuple #[.int .i64 (valSignOfFull n xs k), .bool (okSignOfFull n xs k)]) ∧ Below w.heap.size w w' := by
  have HP := Lib.hid (doCell_any n xs k a b len cap w hn h)
  cases hp : okCell n xs k
  · have H1 : Hid (valSignOfFull n xs k = 0 ∧ okSignOfFull n xs k = false) := Lib.hid (by simp [valSignOfFull, okSignOfFull, hp])
    rw [hp] at HP
    clear hp h
    rw [H1.out.1, H1.out.2]
    go_enter Try.func9, Try.ntmps9
    go_wp2_with fail
    refine HP.out.mono ?_
    rintro e w1 ⟨rfl, rfl⟩
    go_wp2_with fail
    go_ret2
    exact ⟨rfl, Below.refl _ _⟩
  · rw [hp] at HP
    obtain ⟨n, k, rfl, rfl, hL, hk⟩ := okCell_yes hp
    obtain ⟨h1, h2, hl, hA⟩ := labB_yes hL
    have hcn := (Pr.cnt_le n (by omega)).1
    have he := Lib.hid (ci_eq n (by omega) h1)
    have HD := Lib.hid (fun w' a' b' cap' (hb : Below w.heap.size w w') (hr : Rd w' a' b' 0 ((cl n k).map (fun (i : Nat) => (i : Int)))) => doFull_any xs (cl n k) a a' b b' len 3 cap cap' w' hn rfl (h.later hn hb0 hb) hr hA (cl_in n k xs hL hk) (by simp [cl]) (by omega))
    have HF : Hid (fullB xs n k = (sn xs (cl n k) (cl n k).length == 7)) := Lib.hid rfl
    have HSG := Lib.hid (fun w' a' b' cap' (hb : Below w.heap.size w w') (hr : Rd w' a' b' 0 ((cl n k).map (fun (i : Nat) => (i : Int)))) (hx : a' = none ∨ b' < w'.heap.size) (h3 : 3 ≤ cap') (hm : cap' ≤ maxLen) =>
      doSign_any n xs (cl n k) a a' b b' len 3 cap cap' w' h1 h2 hn rfl (h.later hn hb0 hb) hr (lt_later hb0 hb) hx h3 (cl_in n k xs hL hk) (by omega) (by simp [cl]) hm)
    have HSB : Hid ((if upS n (cl n k) then sgl 1 xs (prs (cl n k) (cl n k).length) else -(sgl 1 xs (prs (cl n k) (cl n k).length))) = signB xs n k) := Lib.hid rfl
    have hki : (k : Int) < ((ci n).length : Int) := by omega
    cases hfu : fullB xs n k
    · have H1 : Hid (valSignOfFull n xs k = 0 ∧ okSignOfFull n xs k = false) := Lib.hid (by simp [valSignOfFull, okSignOfFull, hfu])
      rw [H1.out.1, H1.out.2]
      rw [hfu] at HF
      rw [← HF.out] at HD
      clear hp h hL hl hA hn hb0 hfu HF
      go_enter Try.func9, Try.ntmps9
      go_wp2_with fail
      refine HP.out.mono ?_
      rintro e w1 ⟨rfl, rfl⟩
      go_wp2_with fail
      refine (meCells_any n h1 h2 _).mono ?_
      rintro e w2 ⟨v, rfl, hc, hb⟩
      rw [← he.out] at hc
      obtain ⟨sa, m, sc, rfl⟩ := cells_shape hc
      obtain ⟨rfl, g, ra, rc, rb, rfl, c1, hrd, hx, h3, hm⟩ := spec_cell3 h2 hc hk
      go_wp2_with fail
      refine (HD.out _ _ _ _ hb hrd).mono ?_
      rintro e w3 ⟨rfl, rfl⟩
      go_wp2_with fail
      go_ret2
      exact ⟨rfl, hb⟩
    · have H1 : Hid (valSignOfFull n xs k = signB xs n k ∧ okSignOfFull n xs k = true) := Lib.hid (by simp [valSignOfFull, okSignOfFull, hfu, hp])
      rw [H1.out.1, H1.out.2]
      rw [hfu] at HF
      rw [← HF.out] at HD
      clear hp h hL hl hA hn hb0 hfu HF
      go_enter Try.func9, Try.ntmps9
      go_wp2_with fail
      refine HP.out.mono ?_
      rintro e w1 ⟨rfl, rfl⟩
      go_wp2_with fail
      refine (meCells_any n h1 h2 _).mono ?_
      rintro e w2 ⟨v, rfl, hc, hb⟩
      rw [← he.out] at hc
      obtain ⟨sa, m, sc, rfl⟩ := cells_shape hc
      obtain ⟨rfl, g, ra, rc, rb, rfl, c1, hrd, hx, h3, hm⟩ := spec_cell3 h2 hc hk
      go_wp2_with fail
      refine (HD.out _ _ _ _ hb hrd).mono ?_
      rintro e w3 ⟨rfl, rfl⟩
      clear c1 hrd hx h3 hm hc
      go_wp2_with fail
      refine (meCells_any n h1 h2 _).mono ?_
      rintro e w4 ⟨v, rfl, hc, hb4⟩
      rw [← he.out] at hc
      obtain ⟨sa, m, sc, rfl⟩ := cells_shape hc
      obtain ⟨rfl, g, ra, rc, rb, rfl, c1, hrd, hx, h3, hm⟩ := spec_cell3 h2 hc hk
      have hB4 := bnext hb hb4
      go_wp2_with fail
      refine (HSG.out _ _ _ _ hB4 hrd hx h3 hm).mono ?_
      rintro e w5 ⟨rfl, hb5⟩
      rw [HSB.out]
      go_wp2_with fail
      go_ret2
      exact ⟨rfl, bnext hB4 hb5⟩
end Go.Proofs.Ytgbfpmfennmebaa
