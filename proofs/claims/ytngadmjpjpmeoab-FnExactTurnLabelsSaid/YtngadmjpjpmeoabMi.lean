import Derived.Test.YtngadmjpjpmeoabTu
namespace Go.Proofs.Ytngadmjpjpmeoab
open Go.RowKit
def mL (f : Nat → Int) (k : Nat) : List Int := (List.range k).map f
theorem mL_succ (f : Nat → Int) (k : Nat) : mL f (k + 1) = mL f k ++ [f k] := by simp [mL, List.range_succ]
theorem mL_len (f : Nat → Int) (k : Nat) : (mL f k).length = k := by simp [mL]
theorem meIndex_bel (n x z : Int) (b cap : Nat) (h2 : n ≤ 8) (x0 : 0 ≤ x) (x1 : x ≤ n) (z0 : 0 ≤ z) (z1 : z ≤ 8) (w : World)
    (c0 : w.cell? ⟨b, 0, none⟩ = some (.int .i64 x)) (c2 : w.cell? ⟨b, 2, none⟩ = some (.int .i64 z)) :
    Calls Try.prog 27 #[.int .i64 n, .slice (some ⟨b, 0, none⟩) 3 cap] w fun e w' => e = .returned (.int .i64 ((Pr.T (n - x).toNat : Nat) + z)) ∧ Below w.heap.size w w' :=
  (meIndex_any n x z b cap h2 x0 x1 z0 z1 w c0 c2).mono fun _ _ ⟨a, b⟩ => ⟨a, b ▸ Below.refl _ _⟩
set_option maxHeartbeats 1000000 in
theorem specMirrorLabels_yes (n : Nat) (xs : List Int) (a : Option Addr) (b len cap : Nat) (w : World) (hn : xs.length = len) (h : Rd w a b 0 xs) (hb0 : len = 0 ∨ b < w.heap.size) (hL : labB n xs = true) :
    Calls Try.prog 18 #[.int .i64 n, .slice a len cap] w (Gives w 3 (mL (miV n xs) (Pr.cnt n)) true) := by
  have hml := meLabels_any n xs a b 0 len cap w hn h
  rw [hL] at hml
  have HM := Lib.hid hml
  obtain ⟨h1, h2, hl, hA⟩ := labB_yes hL
  have hcn := (Pr.cnt_le n (by omega)).1
  have hlen : len ≤ 45 := by omega
  have HRD : Hid (∀ W, Below w.heap.size w W → Rd W a b 0 xs) := by
    intro W hB
    refine ⟨h.1, fun j hj => ⟨(h.2 j hj).1, ?_⟩⟩
    rcases hb0 with h' | h'
    · rw [hn, h'] at hj; exact absurd hj (Nat.not_lt_zero _)
    · exact (hB.cell h').trans (h.2 j hj).2
  have HN := Lib.hid hn
  have HL := Lib.hid hl
  have HA := Lib.hid hA
  clear h hn hl hA hL hml
  go_enter Try.func18, Try.ntmps18
  go_wp2_with fail
  refine HM.out.mono ?_
  rintro e w' ⟨rfl, rfl⟩
  go_wp2_with fail
  go_loopw [6, 16] (fun v6 v16 wr => ∃ k : Nat, k ≤ len ∧ v16 = .int .i64 k ∧ wr.ownsRow w.heap.size 3 1 v6 (mL (miV n xs) k).length ((mL (miV n xs) k).map (Value.int .i64)) ∧ Below w.heap.size w wr) (fun _ v16 _ => len - (intOf v16).toNat)
  case atStart => exact ⟨0, Nat.zero_le _, rfl, World.ownsRow_nil _ _ _ _, Below.refl _ _⟩
  case round =>
    obtain ⟨k, hk, rfl, ho, hb⟩ := hrel
    have hz := hb.size
    by_cases hlt : k < len
    · have hkc : k < Pr.cnt n := by have := HL.out; have := HN.out; omega
      have hk45 : k < 45 := by omega
      have hrc := Pr.RC_bd k hk45
      have hrn := R_le n (by omega) k hkc
      have hti := (ti_lt n (by omega) k hkc).2
      have hv := allB_at HA.out (mi n k) (by have := HL.out; omega)
      have HE : Hid (miV n xs k = if xs.getD (mi n k) 0 < 2 then 1 - xs.getD (mi n k) 0 else xs.getD (mi n k) 0) := rfl
      have HQ := Lib.hid (mi_eq n k hrn hrc.1)
      have hqi : (mi n k : Int) < (len : Int) := by have := HL.out; have := HN.out; omega
      have hrd := HRD.out _ (balloc hb (.cells #[.int .i64 ((n : Int) - (Pr.R k : Nat)), .int .i64 ((Pr.R k : Int) - (Pr.C k : Nat)), .int .i64 (Pr.C k : Nat)] 3))
      obtain ⟨ha, cx⟩ := hrd.2 (mi n k) (by have := HL.out; omega)
      simp only [Nat.zero_add] at cx
      subst ha
      generalize hr : xs.getD (mi n k) 0 = r at *
      have HRR := Lib.hid hr
      clear hr
      have e := Lib.hid (mL_succ (miV n xs) k)
      have hmlen := mL_len (miV n xs) k
      have HLEN := Lib.hid hmlen
      have C3 := Lib.hid (cell3b wr ((n : Int) - (Pr.R k : Nat)) ((Pr.R k : Int) - (Pr.C k : Nat)) (Pr.C k : Nat) 3)
      have hbl : b < w.heap.size := by
        rcases hb0 with h' | h'
        · omega
        · exact h'
      clear hmlen hrd
      go_wp2_with fail
      refine (meAt_any n k h1 h2 hk45 _).mono ?_
      rintro e' w' ⟨rfl, rfl⟩
      have c0 := C3.out 0 (by omega)
      have c1 := C3.out 1 (by omega)
      have c2 := C3.out 2 (by omega)
      simp only [List.getD_cons_zero, List.getD_cons_succ] at c0 c1 c2
      have ho1 := ho.alloc (.cells #[.int .i64 ((n : Int) - (Pr.R k : Nat)), .int .i64 ((Pr.R k : Int) - (Pr.C k : Nat)), .int .i64 (Pr.C k : Nat)] 3)
      have hb1 := balloc hb (.cells #[.int .i64 ((n : Int) - (Pr.R k : Nat)), .int .i64 ((Pr.R k : Int) - (Pr.C k : Nat)), .int .i64 (Pr.C k : Nat)] 3)
      have hzz : wr.heap.size < (wr.alloc (.cells #[.int .i64 ((n : Int) - (Pr.R k : Nat)), .int .i64 ((Pr.R k : Int) - (Pr.C k : Nat)), .int .i64 (Pr.C k : Nat)] 3)).heap.size := by simp
      clear ho hb
      generalize hW : wr.alloc (.cells #[.int .i64 ((n : Int) - (Pr.R k : Nat)), .int .i64 ((Pr.R k : Int) - (Pr.C k : Nat)), .int .i64 (Pr.C k : Nat)] 3) = W at *
      clear hW
      have hb00 := Below.refl W.heap.size W
      have hwW : wr.heap.size < W.heap.size := hzz
      have cxW : W.cell? ⟨b, mi n k, none⟩ = some (.int .i64 r) := cx
      have hbW : b < W.heap.size := by have := hb1.size; omega
      go_wp2_with fail
      go_region_held3 (fun w' => Below W.heap.size W w' ∧ w'.cell? ⟨wr.heap.size, 0, none⟩ = some (.int .i64 ((n : Int) - (Pr.R k : Nat))) ∧ w'.cell? ⟨wr.heap.size, 1, none⟩ = some (.int .i64 ((Pr.R k : Int) - (Pr.C k : Nat))) ∧ w'.cell? ⟨wr.heap.size, 2, none⟩ = some (.int .i64 (Pr.C k : Nat)) ∧ w'.cell? ⟨b, mi n k, none⟩ = some (.int .i64 r))
        ((refine ⟨?_, ?_, ?_, ?_, ?_⟩ <;> first | assumption | exact Below.drew (Below.refl _ _) | (refine Below.drew ?_; assumption) | exact Below.refl _ _ | (refine balloc ?_ _; assumption) | (refine balloc (Below.drew ?_) _; assumption) | go_keep))
        (first | (go_at_call 27; go_split_ands; refine (meIndex_bel n ((Pr.R k : Int) - (Pr.C k : Nat)) (Pr.C k : Nat) W.heap.size 3 (by omega) (by omega) (by omega) (by omega) (by omega) _ (by first | go_cell | go_simp) (by first | go_cell | go_simp)).mono ?_; rintro e' w' ⟨rfl, hb'⟩; rw [HQ.out]; have hB' : Below W.heap.size W w' := bnext (by first | assumption | (refine balloc ?_ _; assumption) | (refine Below.drew (balloc ?_ _); assumption) | (refine Below.drew (balloc (Below.refl _ _) _)) | (refine balloc (Below.refl _ _) _)) hb'; have q0 := (hB'.cell (p := ⟨wr.heap.size, 0, none⟩) hwW).trans c0; have q1 := (hB'.cell (p := ⟨wr.heap.size, 1, none⟩) hwW).trans c1; have q2 := (hB'.cell (p := ⟨wr.heap.size, 2, none⟩) hwW).trans c2; have qx := (hB'.cell (p := ⟨b, mi n k, none⟩) hbW).trans cxW))
      have ho5 := own_now ho1 hB'
      have hB6 := hb1.trans (hB'.mono hb1.size)
      have hz6 := hB6.size
      by_cases hr2 : r < 2
      · have e2 := Lib.hid (show miV n xs k = 1 - r by rw [HE.out, if_pos hr2])
        go_wp2_with (at_builtin; refine append_int w.heap.size _ _ (mL (miV n xs) k) _ rfl _ _ rfl rfl rfl ho5 hz6 (by have := HLEN.out; omega) ?_; intro v' w7 ho7 hb7)
        go_roundw
        case rel => exact ⟨k + 1, by omega, by go_num, by rw [e.out, e2.out]; exact ho7, hB6.trans hb7⟩
        case measure => simp [intOf]; omega
      · have e2 := Lib.hid (show miV n xs k = r by rw [HE.out, if_neg hr2])
        go_wp2_with (at_builtin; refine append_int w.heap.size _ _ (mL (miV n xs) k) _ rfl _ _ rfl rfl rfl ho5 hz6 (by have := HLEN.out; omega) ?_; intro v' w7 ho7 hb7)
        go_roundw
        case rel => exact ⟨k + 1, by omega, by go_num, by rw [e.out, e2.out]; exact ho7, hB6.trans hb7⟩
        case measure => simp [intOf]; omega
    · have hk2 : k = Pr.cnt n := by have := HL.out; have := HN.out; omega
      have HK := Lib.hid hk2
      obtain ⟨-, a', cap', b', rfl, -, -⟩ := own_shape ho
      clear hk2
      go_wp2_with fail
      go_ret2
      rw [← HK.out]
      exact ⟨_, rfl, ho, hb⟩
end Go.Proofs.Ytngadmjpjpmeoab
