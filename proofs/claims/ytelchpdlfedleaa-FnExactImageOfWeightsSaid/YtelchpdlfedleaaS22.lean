import Derived.Test.YtelchpdlfedleaaS21
import Derived.Test.YtelchpdlfedleaaWSp
namespace Go.Proofs.Ytelchpdlfedleaa
open Go.RowKit
set_option maxRecDepth 4000
theorem ci_len64 (n : Nat) (h2 : n ≤ 8) : (ci n).length ≤ 64 := by
  obtain ⟨hlen, -⟩ := ci_cq n (by omega)
  rw [hlen]
  exact Nat.mul_le_mul h2 h2
/-- What a cell has of fixed points. -/
def hasC (im : List (List Int)) (n p q r : Nat) : Int := hasV (ar im n q r) (ar im n r p) (ar im n p q)
def hasK (im : List (List Int)) (n k : Nat) : Int := hasC im n (cq n k 0) (cq n k 1) (cq n k 2)
def regB (im : List (List Int)) (n : Nat) : Bool := (List.range (ci n).length).all (fun k => hasK im n k != 2)
theorem regB_no (im : List (List Int)) (n k : Nat) (hk : k < (ci n).length) (h : hasK im n k = 2) : regB im n = false := by
  rw [Bool.eq_false_iff]
  intro hh
  simp only [regB, List.all_eq_true, List.mem_range, bne_iff_ne, ne_eq] at hh
  exact hh k hk h
theorem regB_yes (im : List (List Int)) (n : Nat) (h : ∀ k, k < (ci n).length → hasK im n k ≠ 2) : regB im n = true := by
  simp only [regB, List.all_eq_true, List.mem_range, bne_iff_ne, ne_eq]
  exact h
theorem regB_at {im : List (List Int)} {n : Nat} (h : regB im n = true) (k : Nat) (hk : k < (ci n).length) : hasK im n k ≠ 2 := by
  simp only [regB, List.all_eq_true, List.mem_range, bne_iff_ne, ne_eq] at h
  exact h k hk
theorem oi_three {w : World} {lo hi : Nat} {v : Value} {x y z : Int} (h : OI w lo hi v [x, y, z]) : ∃ cap b, v = .slice (some ⟨b, 0, none⟩) 3 cap ∧ Rd w (some ⟨b, 0, none⟩) b 0 [x, y, z] ∧ lo ≤ b ∧ b < hi := by
  obtain ⟨et, ho, hh⟩ := h
  obtain ⟨-, a, cap, b, rfl, hx, hr⟩ := own_shape ho
  have e := (hr.2 0 (by simp)).1
  subst e
  exact ⟨cap, b, rfl, hr, (ho.lt b rfl).1, hh b rfl⟩
set_option maxHeartbeats 800000 in
theorem fxIn_any (n : Nat) (h1 : 1 ≤ n) (h2 : n ≤ 5) (im : List (List Int)) (hy : imB n im = true) (p q r : Nat) (hp : p < Pr.cnt n) (hq : q < Pr.cnt n) (hr : r < Pr.cnt n) (a a2 : Option Addr) (cap cap2 b2 : Nat) (w : World) (h : RdSS w w.heap.size a im) (hrc : Rd w a2 b2 0 ([p, q, r].map (fun (i : Nat) => (i : Int)))) (hb2 : b2 < w.heap.size) :
    Calls Try.prog 72 #[.int .i64 n, .slice a im.length cap, .slice a2 3 cap2] w fun e w' => e = .returned (.int .i64 (hasC im n p q r)) ∧ Below w.heap.size w w' := by
  have HA := Lib.hid (fxAreas_any n h1 h2 im hy p q r hp hq hr a a2 cap cap2 b2 w h hrc hb2)
  have HV : Hid (arC im n p q r = [ar im n q r, ar im n r p, ar im n p q]) := Lib.hid rfl
  clear h hrc hy
  go_enter Try.func72, Try.ntmps72
  go_wp2_with fail
  refine HA.out.mono ?_
  rintro e w1 ⟨v, rfl, ho, hb1⟩
  rw [HV.out] at ho
  obtain ⟨vc, vb, rfl, hrd, -, -⟩ := oi_three ho
  go_wp2_with fail
  refine (fxHas_any _ _ _ vb vc w1 hrd).mono ?_
  rintro e w' ⟨rfl, rfl⟩
  go_wp2_with fail
  go_ret
  exact ⟨rfl, hb1⟩
theorem fxIn_cell (n k : Nat) (h1 : 1 ≤ n) (h2 : n ≤ 5) (hk : k < (ci n).length) (im : List (List Int)) (hy : imB n im = true) (a : Option Addr) (cap cap2 b2 : Nat) (w : World) (h : RdSS w w.heap.size a im) (hrc : Rd w (some ⟨b2, 0, none⟩) b2 0 ((cl n k).map (fun (i : Nat) => (i : Int)))) (hb2 : b2 < w.heap.size) :
    Calls Try.prog 72 #[.int .i64 n, .slice a im.length cap, .slice (some ⟨b2, 0, none⟩) 3 cap2] w fun e w' => e = .returned (.int .i64 (hasK im n k)) ∧ Below w.heap.size w w' :=
  fxIn_any n h1 h2 im hy (cq n k 0) (cq n k 1) (cq n k 2) (cl_lt n k (by omega) hk 0 (by omega)) (cl_lt n k (by omega) hk 1 (by omega)) (cl_lt n k (by omega) hk 2 (by omega)) a _ cap cap2 b2 w h hrc hb2
set_option maxHeartbeats 1600000 in
theorem fxRegular_any (n : Nat) (h1 : 1 ≤ n) (h2 : n ≤ 5) (im : List (List Int)) (hy : imB n im = true) (a : Option Addr) (cap : Nat) (w : World) (h : RdSS w w.heap.size a im) :
    Calls Try.prog 70 #[.int .i64 n, .slice a im.length cap] w fun e w' => e = .returned (.bool (regB im n)) ∧ Below w.heap.size w w' := by
  have he := Lib.hid (ci_eq n (by omega) h1)
  have h64 := ci_len64 n (by omega)
  have HK := Lib.hid (fun w' k (hk : k < (ci n).length) rc rb (hb : Below w.heap.size w w') hr hl => fxIn_cell n k h1 h2 hk im hy a cap rc rb w' (rdss_mono (rdss_later h hb) hb.size) hr hl)
  have HNO := Lib.hid (regB_no im n)
  have HYES := Lib.hid (regB_yes im n)
  clear h hy
  go_enter Try.func70, Try.ntmps70
  go_wp2_with fail
  refine (meCells_any n h1 (by omega) _).mono ?_
  rintro e w1 ⟨v, rfl, hc, hb1⟩
  rw [← he.out] at hc
  obtain ⟨sa, m, sc, rfl⟩ := cells_shape hc
  obtain ⟨rfl, -, -⟩ := cells_row hc
  go_wp2_with fail
  go_loopw [10] (fun v10 wr => ∃ k : Nat, k ≤ (ci n).length ∧ v10 = .int .i64 k ∧ Below w1.heap.size w1 wr ∧ ∀ j, j < k → hasK im n j ≠ 2) (fun v10 _ => (ci n).length - (intOf v10).toNat)
  case atStart => exact ⟨0, Nat.zero_le _, rfl, Below.refl _ _, by omega⟩
  case round =>
    obtain ⟨k, hk, rfl, hb, hall⟩ := hrel
    have HA := Lib.hid hall
    clear hall
    by_cases hlt : k < (ci n).length
    · obtain ⟨-, g, rc, rb, rfl, hgl, c1, hrd, hrb⟩ := spec_cell6 (by omega) hc hlt
      have c1 := (hb.cell (p := ⟨g, k, none⟩) hgl).trans c1
      have hr1 := hrd.below hb (.inr hrb)
      have hz := hb.size
      have HX := Lib.hid (HK.out wr k hlt rc rb (bnext hb1 hb) hr1 (by omega))
      have HT : Hid (hasK im n k ≠ 2 → ∀ j, j < k + 1 → hasK im n j ≠ 2) := Lib.hid (fun hx j hj => by
        by_cases e : j = k
        · rw [e]; exact hx
        · exact HA.out j (by omega))
      have HF := Lib.hid (HNO.out k hlt)
      have hki : (k : Int) < ((ci n).length : Int) := by omega
      clear hrd hr1
      generalize hasK im n k = hv at *
      go_wp2_with fail
      refine HX.out.mono ?_
      rintro e w2 ⟨rfl, hb2⟩
      have hB2 := bnext hb hb2
      by_cases e2 : hv = 2
      · have HFF := Lib.hid (HF.out e2)
        have hd : (hv == 2) = true := by simpa using e2
        clear e2
        go_wp2_with fail
        go_ret
        exact ⟨ret_bool HFF.out.symm, bnext hb1 hB2⟩
      · have hd : (hv == 2) = false := by simpa using e2
        have HTT := Lib.hid (HT.out e2)
        clear e2
        go_wp2_with fail
        go_roundw
        case rel => exact ⟨k + 1, by omega, by go_num, hB2, HTT.out⟩
        case measure => simp [intOf]; omega
    · have hT := Lib.hid (HYES.out (fun j hj => HA.out j (by omega)))
      go_wp2_with fail
      go_ret
      exact ⟨ret_bool hT.out.symm, bnext hb1 hb⟩
end Go.Proofs.Ytelchpdlfedleaa
