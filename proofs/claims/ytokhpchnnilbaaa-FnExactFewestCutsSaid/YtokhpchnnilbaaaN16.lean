import Derived.Test.YtokhpchnnilbaaaN13
import Derived.Test.YtokhpchnnilbaaaN14
namespace Go.Proofs.Ytokhpchnnilbaaa
open Go.RowKit
set_option maxRecDepth 4000
open Go.Maps
def eqC (c d : Nat → Int) : Bool := decide (c 0 = d 0 ∧ c 1 = d 1 ∧ c 2 = d 2 ∧ c 3 = d 3)
theorem eqC_iff (c d : Nat → Int) : eqC c d = true ↔ ∀ k, k < 4 → c k = d k := by
  simp only [eqC, decide_eq_true_eq]
  constructor
  · rintro ⟨h0, h1, h2, h3⟩ k hk
    rcases (by omega : k = 0 ∨ k = 1 ∨ k = 2 ∨ k = 3) with rfl | rfl | rfl | rfl <;> assumption
  · intro h; exact ⟨h 0 (by omega), h 1 (by omega), h 2 (by omega), h 3 (by omega)⟩
theorem eqC_no (c d : Nat → Int) (k : Nat) (hk : k < 4) (h : c k ≠ d k) : eqC c d = false := by
  cases e : eqC c d
  · rfl
  · exact absurd ((eqC_iff c d).1 e k hk) h
theorem eqC_nz (c d : Nat → Int) (h : nz c ≠ nz d) : eqC c d = false := by
  cases e : eqC c d
  · rfl
  · have := (eqC_iff c d).1 e
    exact absurd (by simp only [nz, this 0 (by omega), this 1 (by omega), this 2 (by omega), this 3 (by omega)]) h
theorem eqC_all (c d : Nat → Int) (hn : nz c = nz d) (h : ∀ k, k < 4 → c k ≠ 0 → d k = c k) : eqC c d = true := by
  rw [eqC_iff]
  have h0 := h 0 (by omega); have h1 := h 1 (by omega); have h2 := h 2 (by omega); have h3 := h 3 (by omega)
  simp only [nz, nz1] at hn
  intro k hk
  by_cases a0 : c 0 = 0 <;> by_cases a1 : c 1 = 0 <;> by_cases a2 : c 2 = 0 <;> by_cases a3 : c 3 = 0 <;> by_cases b0 : d 0 = 0 <;> by_cases b1 : d 1 = 0 <;> by_cases b2 : d 2 = 0 <;> by_cases b3 : d 3 = 0 <;>
    simp only [a0, a1, a2, a3, b0, b1, b2, b3, if_true, if_false, ne_eq, not_true_eq_false, not_false_eq_true, forall_const, false_implies] at hn h0 h1 h2 h3 <;>
    (rcases (by omega : k = 0 ∨ k = 1 ∨ k = 2 ∨ k = 3) with rfl | rfl | rfl | rfl <;> omega)
set_option maxHeartbeats 3200000 in
theorem mapsEqual_any (b1 n1 b2 n2 : Nat) (c d : Nat → Int) (w : World) (h1 : IsB w b1 n1 c) (h2 : IsB w b2 n2 d) :
    Calls Try.prog 81 #[.map (some b1), .map (some b2)] w fun e w' => e = .returned (.bool (eqC c d)) ∧ Below w.heap.size w w' := by
  obtain ⟨D, hown, hD⟩ := h1
  obtain ⟨E, hown2, hE⟩ := h2
  obtain ⟨d1, d2, d3, d4⟩ := hD
  obtain ⟨e1, e2, e3, e4⟩ := hE
  have D1 := Lib.hid d1
  have D2 := Lib.hid d2
  have D3 := Lib.hid d3
  have D4 := Lib.hid d4
  have E1 := Lib.hid e1
  have E2 := Lib.hid e2
  have E4 := Lib.hid e4
  have HNO := Lib.hid (eqC_no c d)
  have HALL := Lib.hid (eqC_all c d)
  clear d1 d2 d3 e1 e2 e3
  by_cases hn : nz c = nz d
  · have hsz : ((Maps.size D : Int) != (Maps.size E : Int)) = false := by rw [d4, e4, hn]; simp
    have HN := Lib.hid hn
    have hbl := hown.lt
    have hbl2 := hown2.lt
    clear d4 e4 hn
    obtain ⟨r, hr⟩ : ∃ r, r = w.heap.size := ⟨_, rfl⟩
    go_enter Try.func81, Try.ntmps81
    go_wp2_with (first
      | (at_len; refine wpList_len_own _ rfl _ 44 rfl 5 3 Try.underlying44 _ b1 _ _ rfl hown ?_)
      | (at_len; refine wpList_len_own _ rfl _ 44 rfl 5 3 Try.underlying44 _ b2 _ _ rfl hown2 ?_)
      | (at_range; refine wpList_range_own _ rfl _ 44 rfl 5 3 lawB Try.underlying44 _ b1 n1 _ rfl hown ?_; intro w2 hrg2 hg2 hs2)
      | fail)
    try go_frame
    rw [← hr]
    rw [← hr] at hrg2
    have hO2 := hown2.kept hg2 (by simp)
    have hB2 : Below w.heap.size w w2 := (Below.refl _ _).grown hg2 (Nat.le_refl _) (fun k hk => by cases hk)
    have hb1r : b1 < r := by omega
    have hb2r : b2 < r := by omega
    have hrw : w.heap.size ≤ r := by omega
    clear hg2 hown hown2 hs2 hr hsz
    go_loopw [16] (fun _ wr => ∃ (left : Lit → Bool) (ct : Nat), wr.ranges Try.prog 5 (plainElem Try.prog 3) b1 r n1 D left ct ∧ (∀ kl, left kl = true → Maps.has D kl = true) ∧ wr.ownsMap Try.prog 5 (plainElem Try.prog 3) b2 n2 E ∧ (∀ k, k < 4 → c k ≠ 0 → left (kyB k) = true ∨ d k = c k) ∧ Below w.heap.size w wr)
      (fun _ wr => wr.rangeLeft b1 r)
    case atStart => exact ⟨_, _, hrg2, fun _ h => h, hO2, fun k hk h0 => .inl (by rw [D2.out k hk]; simpa using h0), hB2⟩
    case round =>
      clear hrg2 hO2 hB2
      obtain ⟨left, ct, hrg, hlh, ho, hdv, hb⟩ := hrel
      obtain ⟨wq, hwq⟩ : ∃ wq : World, wq = wr := ⟨_, rfl⟩
      subst hwq
      have HLH := Lib.hid hlh
      have HDV := Lib.hid hdv
      clear hlh hdv
      go_wp2_with (first
        | (at_next; refine wpList_next_ranges_ii _ rfl _ rfl 5 3 .u8 .i64 lawB Try.underlying5 Try.underlying3 b1 r n1 _ _ _ rfl hrg ?_ ?_)
        | fail)
      · intro _ hl0
        have HX := Lib.hid (HALL.out HN.out (fun k hk h0 => (HDV.out k hk h0).resolve_left (by rw [hl0]; simp)))
        go_wp2_with fail
        go_ret
        exact ⟨ret_bool HX.out.symm, hb⟩
      · intro x y w3 cnt3 hwx hwc hlx hat hrg3 hlt hg3 hs3 hen
        obtain ⟨k, hk4, ek⟩ := D3.out _ (HLH.out _ hlx)
        have ex : x = ((k + 97 : Nat) : Int) := by simpa [kyB] using ek
        have ey : y = c k := by
          have e1 := hat (.lit (.int .i64 0))
          rw [ek, D1.out k hk4] at e1
          simpa using e1.symm
        subst ey
        have hc0 : c k ≠ 0 := by
          have h1 := HLH.out _ hlx
          rw [ek, D2.out k hk4] at h1
          simpa using h1
        rw [ek] at hrg3 hlx
        rw [ex] at hen
        rw [ex]
        have ho3 := ho.kept hg3 (by simp; omega)
        have hb3 : Below w.heap.size w w3 := hb.grown hg3 hb.size (fun k hk => by cases hk; omega)
        have HLE := Lib.hid hrg.left_eq
        have HLT := Lib.hid hlt
        have hkey := kyB_key k hk4
        have h1 := E1.out k hk4
        have hh := E2.out k hk4
        have HL2 : Hid (∀ kl, (left kl && !kl.sameKey (kyB k)) = true → Maps.has D kl = true) := Lib.hid (fun kl h => HLH.out kl (by simp at h; exact h.1))
        have HR3 := Lib.hid hrg3
        have HC0 := Lib.hid hc0
        have HNk := Lib.hid (HNO.out k hk4)
        have HT : Hid (d k = c k → ∀ j, j < 4 → c j ≠ 0 → (left (kyB j) && !(kyB j).sameKey (kyB k)) = true ∨ d j = c j) := Lib.hid (fun hx j hj hj0 => by
          by_cases e : j = k
          · subst e; exact .inr hx
          · rcases HDV.out j hj hj0 with h | h
            · left; rw [h, sameKey_ne (kyB_ne e)]; rfl
            · exact .inr h)
        clear ho hb hrg hat hlx ek ex hwx hwc hlt hrg3 hc0
        by_cases hd0 : d k = 0
        · have HX := Lib.hid (HNk.out (fun e => HC0.out (e.trans hd0)))
          rw [hd0] at h1 hh
          have hh' : Maps.has E (kyB k) = false := by rw [hh]; simp
          clear hd0 hh
          go_wp2_with (first
            | (at_lookup; refine wpList_lookup_own_ok_int _ rfl _ _ 44 rfl 5 3 .i64 lawB Try.underlying44 Try.underlying3 (zeroB _) b2 n2 _ rfl ho3 _ _ rfl hkey ?_; rw [hh']; intro c1 hat1 hwc1)
            | fail)
          go_ret
          exact ⟨ret_bool HX.out.symm, hb3⟩
        · have hh' : Maps.has E (kyB k) = true := by rw [hh]; simpa using hd0
          by_cases he : d k = c k
          · have HX := Lib.hid (HT.out he)
            rw [he] at h1
            have hcc : (c k != c k) = false := by simp
            clear hd0 hh he
            go_wp2_with (first
              | (at_lookup; refine wpList_lookup_own_ok_int _ rfl _ _ 44 rfl 5 3 .i64 lawB Try.underlying44 Try.underlying3 (zeroB _) b2 n2 _ rfl ho3 _ _ rfl hkey ?_; rw [hh']; intro c1 hat1 hwc1; (obtain rfl : c1 = c k := (by rw [h1] at hat1; simpa using hat1.symm)); clear hat1)
              | fail)
            go_roundw
            case rel => exact ⟨_, cnt3, HR3.out, HL2.out, ho3, HX.out, hb3⟩
            case measure => rw [HR3.out.left_eq, HLE.out]; exact HLT.out
          · have HX := Lib.hid (HNk.out (fun e => he e.symm))
            have hcc : (c k != d k) = true := by simpa using (fun e => he e.symm)
            clear hd0 hh he
            go_wp2_with (first
              | (at_lookup; refine wpList_lookup_own_ok_int _ rfl _ _ 44 rfl 5 3 .i64 lawB Try.underlying44 Try.underlying3 (zeroB _) b2 n2 _ rfl ho3 _ _ rfl hkey ?_; rw [hh']; intro c1 hat1 hwc1; (obtain rfl : c1 = d k := (by rw [h1] at hat1; simpa using hat1.symm)); clear hat1)
              | fail)
            go_ret
            exact ⟨ret_bool HX.out.symm, hb3⟩
  · have HX := Lib.hid (eqC_nz c d hn)
    have hsz : ((Maps.size D : Int) != (Maps.size E : Int)) = true := by rw [d4, e4]; simp; omega
    clear d4 e4 hn
    go_enter Try.func81, Try.ntmps81
    go_wp2_with (first
      | (at_len; refine wpList_len_own _ rfl _ 44 rfl 5 3 Try.underlying44 _ b1 _ _ rfl hown ?_)
      | (at_len; refine wpList_len_own _ rfl _ 44 rfl 5 3 Try.underlying44 _ b2 _ _ rfl hown2 ?_)
      | fail)
    go_ret
    exact ⟨ret_bool HX.out.symm, Below.refl _ _⟩
end Go.Proofs.Ytokhpchnnilbaaa
