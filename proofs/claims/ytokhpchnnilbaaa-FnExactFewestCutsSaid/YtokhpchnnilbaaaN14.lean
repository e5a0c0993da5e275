import Derived.Test.YtokhpchnnilbaaaN5
import Derived.Test.YtokhpchnnilbaaaN6
namespace Go.Proofs.Ytokhpchnnilbaaa
open Go.RowKit
set_option maxRecDepth 4000
open Go.Maps
/-- What each one gets of the kinds that are no longer to come. -/
def pt2 (left : Lit → Bool) (c : Nat → Nat) (k : Nat) : Int := if left (kyB k) = true then 0 else ((c k / 2 : Nat) : Int)
theorem pt2_step (left : Lit → Bool) (c : Nat → Nat) (k j : Nat) (hl : left (kyB k) = true) : pt2 (fun z => left z && !z.sameKey (kyB k)) c j = upd (pt2 left c) k ((c k / 2 : Nat) : Int) j := by
  have hs : (kyB j).sameKey (kyB k) = decide (j = k) := by
    by_cases e : j = k
    · subst e; simp [kyB, Lit.sameKey]
    · rw [sameKey_ne (kyB_ne e)]; simp [e]
  simp only [pt2, upd, stc, hs]
  by_cases e : j = k
  · subst e; simp [hl]
  · simp [e]
def dv2 (c : Nat → Nat) : Bool := decide (c 0 % 2 = 0 ∧ c 1 % 2 = 0 ∧ c 2 % 2 = 0 ∧ c 3 % 2 = 0)
theorem dv2_iff (c : Nat → Nat) : dv2 c = true ↔ ∀ k, k < 4 → c k % 2 = 0 := by
  simp only [dv2, decide_eq_true_eq]
  constructor
  · rintro ⟨h0, h1, h2, h3⟩ k hk
    rcases (by omega : k = 0 ∨ k = 1 ∨ k = 2 ∨ k = 3) with rfl | rfl | rfl | rfl <;> assumption
  · intro h; exact ⟨h 0 (by omega), h 1 (by omega), h 2 (by omega), h 3 (by omega)⟩
theorem dv2_no (c : Nat → Nat) (k : Nat) (hk : k < 4) (h : c k % 2 ≠ 0) : dv2 c = false := by
  cases e : dv2 c
  · rfl
  · exact absurd ((dv2_iff c).1 e k hk) h
/-- What part answers. -/
def PartV2 (c : Nat → Nat) (B : Nat) (e : Ending) (w' : World) : Prop :=
  (dv2 c = true ∧ e = .returned (.tuple #[.map (some B), .bool true]) ∧ IsB w' B 64 (fun k => ((c k / 2 : Nat) : Int))) ∨ (dv2 c = false ∧ e = .returned (.tuple #[.map none, .bool false]))
set_option maxHeartbeats 3200000 in
theorem part2_any (b n : Nat) (c : Nat → Nat) (hc : ∀ k, c k ≤ 16) (hn : n ≤ 16) (w : World) (h : IsB w b n (fun k => (c k : Int))) :
    Calls Try.prog 66 #[.map (some b), .int .i64 2] w fun e w' => PartV2 c w.heap.size e w' ∧ Below w.heap.size w w' := by
  obtain ⟨D, hown, hD⟩ := h
  obtain ⟨h1, h2, h3, -⟩ := id hD
  have H1 := Lib.hid h1
  have H2 := Lib.hid h2
  have H3 := Lib.hid h3
  have HNO := Lib.hid (dv2_no c)
  have HYES := Lib.hid (dv2_iff c).2
  have HST := Lib.hid (fun left => pt2_step left c)
  have HCB := Lib.hid hc
  have hsz := hown.size_le
  have hbl := hown.lt
  have HIB := Lib.hid (isB_made w)
  have hown1 := hown.alloc (.map #[] 0)
  have hbA : Below w.heap.size w (w.alloc (.map #[] 0)) := balloc (Below.refl _ _) _
  have HSA : Hid ((w.alloc (.map #[] 0)).heap.size = w.heap.size + 1) := Lib.hid (by simp)
  clear h1 h2 h3 hD hc hown
  have hmm := @run_makeMap Try.prog
  go_enter Try.func66, Try.ntmps66
  go_wp2_with (first
    | (at_range; refine wpList_range_own _ rfl _ 44 rfl 5 3 lawB Try.underlying44 _ b n _ rfl hown1 ?_; intro w2 hrg2 hg2 hs2)
    | fail)
  try go_frame
  have hszA := HSA.out
  rw [hszA] at hrg2
  obtain ⟨r, hr⟩ : ∃ r, r = w.heap.size + 1 := ⟨_, rfl⟩
  rw [← hr] at hrg2
  try rw [hszA]
  rw [← hr]
  have hib2 := HIB.out.kept hg2 (by simp)
  have hB2 : Below w.heap.size w w2 := hbA.grown hg2 (by omega) (fun k hk => by cases hk)
  have hr1 : w.heap.size < r := by omega
  have hbr : b ≠ r := by omega
  have hbw : b ≠ w.heap.size := by omega
  clear hown1 hg2 hs2 hr hbA hszA HIB
  go_loopw [12] (fun _ wr => ∃ (left : Lit → Bool) (ct np : Nat), wr.ranges Try.prog 5 (plainElem Try.prog 3) b r n D left ct ∧ (∀ kl, left kl = true → Maps.has D kl = true) ∧ IsB wr w.heap.size np (pt2 left c) ∧ np + ct ≤ Maps.size D ∧ (∀ k, k < 4 → left (kyB k) = true ∨ c k % 2 = 0) ∧ Below w.heap.size w wr)
    (fun _ wr => wr.rangeLeft b r)
  case atStart =>
    refine ⟨_, _, 0, hrg2, fun _ h => h, hib2.congr (fun k hk => ?_), by omega, fun k hk => ?_, hB2⟩
    · unfold pt2
      by_cases e : c k = 0
      · simp [e]
      · have := H2.out k hk
        rw [this]; simp [e]
    · by_cases e : c k = 0
      · right; rw [e]
      · left; rw [H2.out k hk]; simp [e]
  case round =>
    clear hrg2 hib2 hB2
    obtain ⟨left, ct, np, hrg, hlh, ho, hnp, hdv, hb⟩ := hrel
    obtain ⟨wq, hwq⟩ : ∃ wq : World, wq = wr := ⟨_, rfl⟩
    subst hwq
    have HLH := Lib.hid hlh
    have HDV := Lib.hid hdv
    clear hlh hdv
    go_wp2_with (first
      | (at_next; refine wpList_next_ranges_ii _ rfl _ rfl 5 3 .u8 .i64 lawB Try.underlying5 Try.underlying3 b r n _ _ _ rfl hrg ?_ ?_)
      | fail)
    · intro _ hl0
      have HD := Lib.hid (HYES.out (fun k hk => (HDV.out k hk).resolve_left (by rw [hl0]; simp)))
      have HO : Hid (IsB wq w.heap.size 64 (fun k => ((c k / 2 : Nat) : Int))) := Lib.hid ((ho.mono (by omega)).congr (fun k hk => by simp [pt2, hl0]))
      clear ho
      go_wp2_with fail
      go_returns
      exact ⟨.inl ⟨HD.out, rfl, HO.out⟩, hb⟩
    · intro x y w3 cnt3 hwx hwc hlx hat hrg3 hlt hg3 hs3 hen
      obtain ⟨k, hk4, ek⟩ := H3.out _ (HLH.out _ hlx)
      have ex : x = ((k + 97 : Nat) : Int) := by simpa [kyB] using ek
      have ey : y = (c k : Int) := by
        have e1 := hat (.lit (.int .i64 0))
        rw [ek, H1.out k hk4] at e1
        simpa using e1.symm
      subst ey
      rw [ek] at hrg3 hlx
      rw [ex] at hen
      rw [ex]
      have hck := HCB.out k
      have ho3 := ho.kept hg3 (by simp; omega)
      have hb3 : Below w.heap.size w w3 := hb.grown hg3 hb.size (fun k hk => by cases hk; omega)
      have HLE := Lib.hid hrg.left_eq
      have HLT := Lib.hid hlt
      have hct : cnt3 + 1 ≤ ct := hlt
      by_cases hd : c k % 2 = 0
      · have HAdd := Lib.hid (add_any w.heap.size np _ k hk4 ((c k / 2 : Nat) : Int) ⟨by simp [pt2, hlx], by simp [pt2, hlx]⟩ (by omega) (by omega) w3 ho3)
        have HSTk := Lib.hid (fun j => HST.out left k j hlx)
        have HL2 : Hid (∀ kl, (left kl && !kl.sameKey (kyB k)) = true → Maps.has D kl = true) := Lib.hid (fun kl h => HLH.out kl (by simp at h; exact h.1))
        have HD2 : Hid (∀ j, j < 4 → (left (kyB j) && !(kyB j).sameKey (kyB k)) = true ∨ c j % 2 = 0) := Lib.hid (fun j hj => by
          by_cases e : j = k
          · subst e; exact .inr hd
          · rcases HDV.out j hj with h | h
            · left; rw [h, sameKey_ne (kyB_ne e)]; rfl
            · exact .inr h)
        have HR3 := Lib.hid hrg3
        have hdi : ((c k : Int)) % 2 = 0 := by omega
        have hqi : ((c k : Int)) / 2 = ((c k / 2 : Nat) : Int) := by omega
        clear ho hb hrg hat hlx ek ex hwx hwc ho3 hlt hrg3
        rw [← hqi] at HAdd
        have HQ := Lib.hid hqi
        clear hqi
        go_wp2_with fail
        refine HAdd.out.mono ?_
        rintro e w4 ⟨rfl, hib4, hg4⟩
        have hrg4 := HR3.out.kept hg4 (by simp; omega) (by simp; omega)
        rw [HQ.out] at hib4
        go_wp2_with fail
        go_roundw
        case rel => exact ⟨_, cnt3, np + 1, hrg4, HL2.out, hib4.congr (fun j _ => HSTk.out j), by omega, HD2.out, hb3.grown hg4 hb3.size (fun k hk => by cases hk; exact Nat.le_refl _)⟩
        case measure => rw [hrg4.left_eq, HLE.out]; exact HLT.out
      · have HX := Lib.hid (HNO.out k hk4 hd)
        have hdi : ¬ ((c k : Int)) % 2 = 0 := by omega
        clear ho hb hrg hat hlx ek ex hwx hwc ho3 hlt hrg3 hd
        go_wp2_with fail
        go_returns
        exact ⟨.inr ⟨HX.out, rfl⟩, hb3⟩
/-- What each one gets of the kinds that are no longer to come. -/
def pt3 (left : Lit → Bool) (c : Nat → Nat) (k : Nat) : Int := if left (kyB k) = true then 0 else ((c k / 3 : Nat) : Int)
theorem pt3_step (left : Lit → Bool) (c : Nat → Nat) (k j : Nat) (hl : left (kyB k) = true) : pt3 (fun z => left z && !z.sameKey (kyB k)) c j = upd (pt3 left c) k ((c k / 3 : Nat) : Int) j := by
  have hs : (kyB j).sameKey (kyB k) = decide (j = k) := by
    by_cases e : j = k
    · subst e; simp [kyB, Lit.sameKey]
    · rw [sameKey_ne (kyB_ne e)]; simp [e]
  simp only [pt3, upd, stc, hs]
  by_cases e : j = k
  · subst e; simp [hl]
  · simp [e]
def dv3 (c : Nat → Nat) : Bool := decide (c 0 % 3 = 0 ∧ c 1 % 3 = 0 ∧ c 2 % 3 = 0 ∧ c 3 % 3 = 0)
theorem dv3_iff (c : Nat → Nat) : dv3 c = true ↔ ∀ k, k < 4 → c k % 3 = 0 := by
  simp only [dv3, decide_eq_true_eq]
  constructor
  · rintro ⟨h0, h1, h2, h3⟩ k hk
    rcases (by omega : k = 0 ∨ k = 1 ∨ k = 2 ∨ k = 3) with rfl | rfl | rfl | rfl <;> assumption
  · intro h; exact ⟨h 0 (by omega), h 1 (by omega), h 2 (by omega), h 3 (by omega)⟩
theorem dv3_no (c : Nat → Nat) (k : Nat) (hk : k < 4) (h : c k % 3 ≠ 0) : dv3 c = false := by
  cases e : dv3 c
  · rfl
  · exact absurd ((dv3_iff c).1 e k hk) h
/-- What part answers. -/
def PartV3 (c : Nat → Nat) (B : Nat) (e : Ending) (w' : World) : Prop :=
  (dv3 c = true ∧ e = .returned (.tuple #[.map (some B), .bool true]) ∧ IsB w' B 64 (fun k => ((c k / 3 : Nat) : Int))) ∨ (dv3 c = false ∧ e = .returned (.tuple #[.map none, .bool false]))
set_option maxHeartbeats 3200000 in
theorem part3_any (b n : Nat) (c : Nat → Nat) (hc : ∀ k, c k ≤ 16) (hn : n ≤ 16) (w : World) (h : IsB w b n (fun k => (c k : Int))) :
    Calls Try.prog 66 #[.map (some b), .int .i64 3] w fun e w' => PartV3 c w.heap.size e w' ∧ Below w.heap.size w w' := by
  obtain ⟨D, hown, hD⟩ := h
  obtain ⟨h1, h2, h3, -⟩ := id hD
  have H1 := Lib.hid h1
  have H2 := Lib.hid h2
  have H3 := Lib.hid h3
  have HNO := Lib.hid (dv3_no c)
  have HYES := Lib.hid (dv3_iff c).2
  have HST := Lib.hid (fun left => pt3_step left c)
  have HCB := Lib.hid hc
  have hsz := hown.size_le
  have hbl := hown.lt
  have HIB := Lib.hid (isB_made w)
  have hown1 := hown.alloc (.map #[] 0)
  have hbA : Below w.heap.size w (w.alloc (.map #[] 0)) := balloc (Below.refl _ _) _
  have HSA : Hid ((w.alloc (.map #[] 0)).heap.size = w.heap.size + 1) := Lib.hid (by simp)
  clear h1 h2 h3 hD hc hown
  have hmm := @run_makeMap Try.prog
  go_enter Try.func66, Try.ntmps66
  go_wp2_with (first
    | (at_range; refine wpList_range_own _ rfl _ 44 rfl 5 3 lawB Try.underlying44 _ b n _ rfl hown1 ?_; intro w2 hrg2 hg2 hs2)
    | fail)
  try go_frame
  have hszA := HSA.out
  rw [hszA] at hrg2
  obtain ⟨r, hr⟩ : ∃ r, r = w.heap.size + 1 := ⟨_, rfl⟩
  rw [← hr] at hrg2
  try rw [hszA]
  rw [← hr]
  have hib2 := HIB.out.kept hg2 (by simp)
  have hB2 : Below w.heap.size w w2 := hbA.grown hg2 (by omega) (fun k hk => by cases hk)
  have hr1 : w.heap.size < r := by omega
  have hbr : b ≠ r := by omega
  have hbw : b ≠ w.heap.size := by omega
  clear hown1 hg2 hs2 hr hbA hszA HIB
  go_loopw [12] (fun _ wr => ∃ (left : Lit → Bool) (ct np : Nat), wr.ranges Try.prog 5 (plainElem Try.prog 3) b r n D left ct ∧ (∀ kl, left kl = true → Maps.has D kl = true) ∧ IsB wr w.heap.size np (pt3 left c) ∧ np + ct ≤ Maps.size D ∧ (∀ k, k < 4 → left (kyB k) = true ∨ c k % 3 = 0) ∧ Below w.heap.size w wr)
    (fun _ wr => wr.rangeLeft b r)
  case atStart =>
    refine ⟨_, _, 0, hrg2, fun _ h => h, hib2.congr (fun k hk => ?_), by omega, fun k hk => ?_, hB2⟩
    · unfold pt3
      by_cases e : c k = 0
      · simp [e]
      · have := H2.out k hk
        rw [this]; simp [e]
    · by_cases e : c k = 0
      · right; rw [e]
      · left; rw [H2.out k hk]; simp [e]
  case round =>
    clear hrg2 hib2 hB2
    obtain ⟨left, ct, np, hrg, hlh, ho, hnp, hdv, hb⟩ := hrel
    obtain ⟨wq, hwq⟩ : ∃ wq : World, wq = wr := ⟨_, rfl⟩
    subst hwq
    have HLH := Lib.hid hlh
    have HDV := Lib.hid hdv
    clear hlh hdv
    go_wp2_with (first
      | (at_next; refine wpList_next_ranges_ii _ rfl _ rfl 5 3 .u8 .i64 lawB Try.underlying5 Try.underlying3 b r n _ _ _ rfl hrg ?_ ?_)
      | fail)
    · intro _ hl0
      have HD := Lib.hid (HYES.out (fun k hk => (HDV.out k hk).resolve_left (by rw [hl0]; simp)))
      have HO : Hid (IsB wq w.heap.size 64 (fun k => ((c k / 3 : Nat) : Int))) := Lib.hid ((ho.mono (by omega)).congr (fun k hk => by simp [pt3, hl0]))
      clear ho
      go_wp2_with fail
      go_returns
      exact ⟨.inl ⟨HD.out, rfl, HO.out⟩, hb⟩
    · intro x y w3 cnt3 hwx hwc hlx hat hrg3 hlt hg3 hs3 hen
      obtain ⟨k, hk4, ek⟩ := H3.out _ (HLH.out _ hlx)
      have ex : x = ((k + 97 : Nat) : Int) := by simpa [kyB] using ek
      have ey : y = (c k : Int) := by
        have e1 := hat (.lit (.int .i64 0))
        rw [ek, H1.out k hk4] at e1
        simpa using e1.symm
      subst ey
      rw [ek] at hrg3 hlx
      rw [ex] at hen
      rw [ex]
      have hck := HCB.out k
      have ho3 := ho.kept hg3 (by simp; omega)
      have hb3 : Below w.heap.size w w3 := hb.grown hg3 hb.size (fun k hk => by cases hk; omega)
      have HLE := Lib.hid hrg.left_eq
      have HLT := Lib.hid hlt
      have hct : cnt3 + 1 ≤ ct := hlt
      by_cases hd : c k % 3 = 0
      · have HAdd := Lib.hid (add_any w.heap.size np _ k hk4 ((c k / 3 : Nat) : Int) ⟨by simp [pt3, hlx], by simp [pt3, hlx]⟩ (by omega) (by omega) w3 ho3)
        have HSTk := Lib.hid (fun j => HST.out left k j hlx)
        have HL2 : Hid (∀ kl, (left kl && !kl.sameKey (kyB k)) = true → Maps.has D kl = true) := Lib.hid (fun kl h => HLH.out kl (by simp at h; exact h.1))
        have HD2 : Hid (∀ j, j < 4 → (left (kyB j) && !(kyB j).sameKey (kyB k)) = true ∨ c j % 3 = 0) := Lib.hid (fun j hj => by
          by_cases e : j = k
          · subst e; exact .inr hd
          · rcases HDV.out j hj with h | h
            · left; rw [h, sameKey_ne (kyB_ne e)]; rfl
            · exact .inr h)
        have HR3 := Lib.hid hrg3
        have hdi : ((c k : Int)) % 3 = 0 := by omega
        have hqi : ((c k : Int)) / 3 = ((c k / 3 : Nat) : Int) := by omega
        clear ho hb hrg hat hlx ek ex hwx hwc ho3 hlt hrg3
        rw [← hqi] at HAdd
        have HQ := Lib.hid hqi
        clear hqi
        go_wp2_with fail
        refine HAdd.out.mono ?_
        rintro e w4 ⟨rfl, hib4, hg4⟩
        have hrg4 := HR3.out.kept hg4 (by simp; omega) (by simp; omega)
        rw [HQ.out] at hib4
        go_wp2_with fail
        go_roundw
        case rel => exact ⟨_, cnt3, np + 1, hrg4, HL2.out, hib4.congr (fun j _ => HSTk.out j), by omega, HD2.out, hb3.grown hg4 hb3.size (fun k hk => by cases hk; exact Nat.le_refl _)⟩
        case measure => rw [hrg4.left_eq, HLE.out]; exact HLT.out
      · have HX := Lib.hid (HNO.out k hk4 hd)
        have hdi : ¬ ((c k : Int)) % 3 = 0 := by omega
        clear ho hb hrg hat hlx ek ex hwx hwc ho3 hlt hrg3 hd
        go_wp2_with fail
        go_returns
        exact ⟨.inr ⟨HX.out, rfl⟩, hb3⟩
def evB (s : ByteArray) : Bool := dv2 (cnt s s.size)
set_option maxHeartbeats 1600000 in
theorem nlEven_any (s : ByteArray) (hg : goodS s = true) (w : World) :
    Calls Try.prog 59 #[.string s] w fun e w' => e = .returned (.bool (evB s)) ∧ Below w.heap.size w w' := by
  have HG := Lib.hid (nlCounts_any s hg w)
  have h16 := (goodS_at hg).1
  have HLE : Hid (∀ k, cnt s s.size k ≤ 16) := Lib.hid (fun k => Nat.le_trans (cnt_le s s.size k) h16)
  have HNO := Lib.hid (dv2_no (cnt s s.size))
  have HYES := Lib.hid (dv2_iff (cnt s s.size)).2
  have HV : Hid (evB s = dv2 (cnt s s.size)) := Lib.hid rfl
  rw [HV.out]
  clear hg
  generalize cnt s s.size = f at *
  go_enter Try.func59, Try.ntmps59
  go_wp2_with fail
  refine HG.out.mono ?_
  rintro e w1 ⟨v, rfl, ho, hb⟩
  obtain ⟨cap, b, rfl, hc, -, -⟩ := oi_four (f := fun k => (f k : Int)) ho
  have HC := Lib.hid hc
  clear hc ho
  go_wp2_with fail
  go_loop [8] (fun v8 => ∃ i : Nat, i ≤ 4 ∧ v8 = .int .i64 i ∧ ∀ j, j < i → f j % 2 = 0) (fun v8 => 4 - (intOf v8).toNat)
  case atStart => exact ⟨0, Nat.zero_le _, rfl, by omega⟩
  case round =>
    obtain ⟨i, hi, rfl, hall⟩ := hrel
    have HA := Lib.hid hall
    clear hall
    by_cases hlt : i < 4
    · have c1 := HC.out i hlt
      have hii : (i : Int) < 4 := by omega
      have hle := HLE.out i
      by_cases hd : f i % 2 = 0
      · have HX : Hid (∀ j, j < i + 1 → f j % 2 = 0) := Lib.hid (fun j hj => by
          by_cases e : j = i
          · rw [e]; exact hd
          · exact HA.out j (by omega))
        have hdi : ¬ ((f i : Int)) % 2 = 1 := by omega
        clear hd
        generalize f i = x at *
        go_wp2_with fail
        go_round
        case rel => exact ⟨i + 1, by omega, by go_num, HX.out⟩
        case measure => simp [intOf]; omega
      · have HX := Lib.hid (HNO.out i hlt hd)
        have hdi : ((f i : Int)) % 2 = 1 := by omega
        clear hd
        generalize f i = x at *
        go_wp2_with fail
        go_ret
        exact ⟨ret_bool HX.out.symm, hb⟩
    · have hi4 : i = 4 := by omega
      have HX := Lib.hid (HYES.out (fun k hk => HA.out k (by omega)))
      subst hi4
      go_wp2_with fail
      go_ret
      exact ⟨ret_bool HX.out.symm, hb⟩
end Go.Proofs.Ytokhpchnnilbaaa
