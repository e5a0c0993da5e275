import Derived.Test.YtelchpdlfedleaaS25
import Derived.Test.YtelchpdlfedleaaUs
namespace Go.Proofs.Ytelchpdlfedleaa
open Go.RowKit
set_option maxRecDepth 4000
set_option maxHeartbeats 800000 in
theorem fxSign_cell (n k : Nat) (h1 : 1 ≤ n) (h2 : n ≤ 5) (hk : k < (ci n).length) (im : List (List Int)) (hy : imB n im = true) (a : Option Addr) (cap cap2 b2 : Nat) (w : World) (h : RdSS w w.heap.size a im) (hrc : Rd w (some ⟨b2, 0, none⟩) b2 0 ((cl n k).map (fun (i : Nat) => (i : Int)))) (hb2 : b2 < w.heap.size) :
    Calls Try.prog 68 #[.int .i64 n, .slice a im.length cap, .slice (some ⟨b2, 0, none⟩) 3 cap2] w fun e w' => e = .returned (.int .i64 (sgK im n k)) ∧ Below w.heap.size w w' := by
  have HI := Lib.hid (fxIn_cell n k h1 h2 hk im hy a cap cap2 b2 w h hrc hb2)
  have h45 := cnt21 n h2
  have HU := Lib.hid (fun w' (hb : Below w.heap.size w w') => meUp_any n (cl n k) h1 (by omega) (fun j => by
    by_cases hj : j < 3
    · have := cl_lt n k (by omega) hk j hj
      omega
    · rw [List.getD_eq_getElem?_getD, List.getElem?_eq_none (by simp [cl]; omega)]
      simp) (by simp [cl]) (some ⟨b2, 0, none⟩) b2 3 cap2 w' rfl (hrc.below hb (.inr hb2)) (.inr (Nat.lt_of_lt_of_le hb2 hb.size)))
  have HV : Hid (sgK im n k = if upS n (cl n k) = true then hasK im n k else -hasK im n k) := Lib.hid rfl
  have hf := hasV_four (ar im n (cq n k 1) (cq n k 2)) (ar im n (cq n k 2) (cq n k 0)) (ar im n (cq n k 0) (cq n k 1))
  change hasK im n k = 1 ∨ hasK im n k = -1 ∨ hasK im n k = 0 ∨ hasK im n k = 2 at hf
  have hbd : -1 ≤ hasK im n k ∧ hasK im n k ≤ 2 := by omega
  obtain ⟨hb0, hb1⟩ := hbd
  clear h hy hrc hf
  generalize hasK im n k = hv at *
  go_enter Try.func68, Try.ntmps68
  go_wp2_with fail
  refine HI.out.mono ?_
  rintro e w1 ⟨rfl, hb1⟩
  go_wp2_with fail
  refine (HU.out w1 hb1).mono ?_
  rintro e w2 ⟨rfl, hb2⟩
  cases hu : upS n (cl n k)
  · have HE : Hid (sgK im n k = -hv) := Lib.hid (by rw [HV.out, hu]; rfl)
    clear hu
    go_wp2_with fail
    go_ret
    exact ⟨ret_int HE.out.symm, bnext hb1 hb2⟩
  · have HE : Hid (sgK im n k = hv) := Lib.hid (by rw [HV.out, hu]; rfl)
    clear hu
    go_wp2_with fail
    go_ret
    exact ⟨ret_int HE.out.symm, bnext hb1 hb2⟩
theorem hasK_abs (im : List (List Int)) (n k : Nat) : ((((hasK im n k).natAbs : Nat) : Int) == 1) = agK im n k := by
  unfold agK
  rw [Bool.eq_iff_iff]
  simp only [beq_iff_eq, decide_eq_true_eq]
  omega
set_option maxHeartbeats 800000 in
theorem fxFixed_cell (n k : Nat) (h1 : 1 ≤ n) (h2 : n ≤ 5) (hk : k < (ci n).length) (im : List (List Int)) (hy : imB n im = true) (a : Option Addr) (cap : Nat) (w : World) (h : RdSS w w.heap.size a im) :
    Calls Try.prog 64 #[.int .i64 n, .slice a im.length cap, .int .i64 k] w fun e w' => e = .returned (.bool (agK im n k)) ∧ Below w.heap.size w w' := by
  have HT := Lib.hid (fxAsked_yes n k h1 h2 im hy hk a cap _ w h)
  have he := Lib.hid (ci_eq n (by omega) h1)
  have HK := Lib.hid (fun w' rc rb (hb : Below w.heap.size w w') hr hl => fxIn_cell n k h1 h2 hk im hy a cap rc rb w' (rdss_mono (rdss_later h hb) hb.size) hr hl)
  have HA := Lib.hid (hasK_abs im n k)
  have hf := hasV_four (ar im n (cq n k 1) (cq n k 2)) (ar im n (cq n k 2) (cq n k 0)) (ar im n (cq n k 0) (cq n k 1))
  change hasK im n k = 1 ∨ hasK im n k = -1 ∨ hasK im n k = 0 ∨ hasK im n k = 2 at hf
  have hbd : -1000 ≤ hasK im n k ∧ hasK im n k ≤ 1000 := by omega
  have hki : (k : Int) < ((ci n).length : Int) := by omega
  clear h hy hf
  generalize hasK im n k = hv at *
  generalize agK im n k = ag at *
  go_enter Try.func64, Try.ntmps64
  go_wp2_with fail
  refine HT.out.mono ?_
  rintro e w1 ⟨rfl, hs⟩
  go_wp2_with fail
  refine (meCells_any n h1 (by omega) _).mono ?_
  rintro e w2 ⟨v, rfl, hc, hb⟩
  rw [← he.out] at hc
  obtain ⟨sa, m, sc, rfl⟩ := cells_shape hc
  obtain ⟨rfl, g, rc, rb, rfl, hgl, c1, hrd, hrb⟩ := spec_cell6 (by omega) hc hk
  have hB2 := bnext (hs w.heap.size) hb
  clear hc hs hb
  go_wp2_with fail
  refine (HK.out _ rc rb hB2 hrd hrb).mono ?_
  rintro e w3 ⟨rfl, hb3⟩
  go_wp2_with fail
  refine (l1Abs_any hv hbd.1 hbd.2 _).mono ?_
  rintro e w4 ⟨rfl, rfl⟩
  go_wp2_with fail
  go_ret
  exact ⟨ret_bool HA.out, bnext hB2 hb3⟩
set_option maxHeartbeats 400000 in
theorem fxFixed_no (n c : Int) (im : List (List Int)) (hy : okM n im c = false) (a : Option Addr) (cap B : Nat) (w : World) (h : RdSS w B a im) :
    Calls Try.prog 64 #[.int .i64 n, .slice a im.length cap, .int .i64 c] w fun e w' => e = .returned (.bool false) ∧ Below w.heap.size w w' := by
  have HT := Lib.hid (fxAsked_no n c im hy a cap _ w h)
  clear h hy
  go_enter Try.func64, Try.ntmps64
  go_wp2_with fail
  refine HT.out.mono ?_
  rintro e w1 ⟨rfl, hs⟩
  go_wp2_with fail
  go_ret
  exact ⟨rfl, hs _⟩
end Go.Proofs.Ytelchpdlfedleaa
