import Derived.Test.YtokhpchnnilbaaaN4
namespace Go.Proofs.Ytokhpchnnilbaaa
open Go.RowKit
set_option maxRecDepth 4000
open Go.Maps
def iL (f : Nat → Int) : List Int := [f 0, f 1, f 2, f 3]
theorem iL_len (f : Nat → Int) : (iL f).length = 4 := rfl
theorem iL_cL (f : Nat → Nat) : iL (fun j => (f j : Int)) = cL f := rfl
/-- What is written till now: the kinds that are no longer to come. -/
def seen (left : Lit → Bool) (c : Nat → Int) (k : Nat) : Int := if left (kyB k) = true then 0 else c k
theorem seen_set (left : Lit → Bool) (c : Nat → Int) (k : Nat) (hk : k < 4) : (iL (seen left c)).set k (c k) = iL (seen (fun z => left z && !z.sameKey (kyB k)) c) := by
  have hs : ∀ j, (kyB j).sameKey (kyB k) = decide (j = k) := fun j => by
    by_cases e : j = k
    · subst e; simp [kyB, Lit.sameKey]
    · rw [sameKey_ne (kyB_ne e)]; simp [e]
  rcases (by omega : k = 0 ∨ k = 1 ∨ k = 2 ∨ k = 3) with rfl | rfl | rfl | rfl <;> simp [iL, seen, hs]
theorem seen_start (D : DataW Unit) (c : Nat → Int) (h : MapD D c) : iL (seen (Maps.has D) c) = [0, 0, 0, 0] := by
  have e : ∀ k, k < 4 → seen (Maps.has D) c k = 0 := fun k hk => by
    unfold seen
    by_cases hc : c k = 0
    · simp [hc]
    · have := h.2.1 k hk
      rw [this]; simp [hc]
  simp only [iL, e 0 (by omega), e 1 (by omega), e 2 (by omega), e 3 (by omega)]
theorem seen_end (left : Lit → Bool) (c : Nat → Int) (h : ∀ kl, left kl = false) : iL (seen left c) = iL c := by simp [iL, seen, h]
set_option maxHeartbeats 3200000 in
theorem counts_any (b n : Nat) (c : Nat → Int) (w : World) (h : IsB w b n c) :
    Calls Try.prog 48 #[.map (some b)] w fun e w' => ∃ v, e = .returned v ∧ OI w' w.heap.size w'.heap.size v (iL c) ∧ Below w.heap.size w w' := by
  obtain ⟨D, hown, hD⟩ := h
  obtain ⟨h1, h2, h3, -⟩ := id hD
  have H1 := Lib.hid h1
  have H3 := Lib.hid h3
  have HSET := Lib.hid (fun left => seen_set left c)
  have HS := Lib.hid (seen_start D c hD)
  have HE := Lib.hid (fun left => seen_end left c)
  have hbl := hown.lt
  clear h1 h2 h3 hD
  obtain ⟨i0, hi, hz0, hz1, hz2⟩ := info_parts intInfo9
  go_enter Try.func48, Try.ntmps48
  go_wp2_with (at_make; refine wpList_make_full _ rfl _ _ 25 rfl w.heap.size 3 i0 (.int .i64 0) 1 Try.underlying25 hi hz0 hz1 _ _ _ _ 4 rfl rfl ?hC ?hL ?hb2 ?hb3 ?hb4 ?_)
  case hC => rfl
  case hL => rfl
  case hb2 => rw [hz2]; omega
  case hb3 => unfold maxLen; omega
  case hb4 => exact Nat.le_refl _
  intro w1 ho1 hg1
  have ho1' : w1.ownsRow w.heap.size 3 1 (.slice (some ⟨w.heap.size, 0, none⟩) 4 4) 4 ((iL (seen (Maps.has D) c)).map (Value.int .i64)) := by
    have e : (madeCells #[Value.int .i64 0] 4).toList = [.int .i64 0, .int .i64 0, .int .i64 0, .int .i64 0] := made_ints' 4
    rw [HS.out]
    rw [e] at ho1
    exact ho1
  have hown1 := hown.kept hg1 (by simp)
  have hB1 : Below w.heap.size w w1 := (Below.refl _ _).grown hg1 (Nat.le_refl _) (fun k hk => by cases hk)
  have hlt1 : w.heap.size < w1.heap.size := own_lt ho1' _ rfl
  clear ho1 hg1
  obtain ⟨r, hr⟩ : ∃ r, r = w1.heap.size := ⟨_, rfl⟩
  go_wp2_with (first
    | (at_range; refine wpList_range_own _ rfl _ 44 rfl 5 3 lawB Try.underlying44 _ b n _ rfl hown1 ?_; intro w2 hrg2 hg2 hs2)
    | fail)
  go_frame
  rw [← hr]
  rw [← hr] at hrg2
  have ho2 := ho1'.kept hg2 (.inr (by simp [Value.ownBlock]))
  have hB2 : Below w.heap.size w w2 := hB1.grown hg2 (by omega) (fun k hk => by cases hk)
  have hrl : w.heap.size < r := by omega
  clear ho1' hB1 hg2 hown hown1 hs2 hlt1 hr
  go_loopw [9] (fun v9 wr => ∃ (left : Lit → Bool) (cnt : Nat), wr.ranges Try.prog 5 (plainElem Try.prog 3) b r n D left cnt ∧ (∀ kl, left kl = true → Maps.has D kl = true) ∧ wr.ownsRow w.heap.size 3 1 (.slice (some ⟨w.heap.size, 0, none⟩) 4 4) 4 ((iL (seen left c)).map (Value.int .i64)) ∧ Below w.heap.size w wr)
    (fun _ wr => wr.rangeLeft b r)
  case atStart => exact ⟨_, _, hrg2, fun _ h => h, ho2, hB2⟩
  case round =>
    clear hrg2 ho2 hB2
    obtain ⟨left, cnt, hrg, hlh, ho, hb⟩ := hrel
    obtain ⟨wq, rfl⟩ : ∃ wq : World, wq = wr := ⟨_, rfl⟩
    have HLH := Lib.hid hlh
    clear hlh
    go_wp2_with (first
      | (at_next; refine wpList_next_ranges_ii _ rfl _ rfl 5 3 .u8 .i64 lawB Try.underlying5 Try.underlying3 b r n _ _ _ rfl hrg ?_ ?_)
      | fail)
    · intro _ hl0
      go_wp2_with fail
      go_ret
      exact ⟨_, rfl, by rw [← HE.out left hl0]; exact ⟨_, ho, own_lt ho⟩, hb⟩
    · intro x y w3 cnt3 hwx hwc hlx hat hrg3 hlt hg3 hs3 hen
      obtain ⟨k, hk4, ek⟩ := H3.out _ (HLH.out _ hlx)
      have ex : x = ((k + 97 : Nat) : Int) := by simpa [kyB] using ek
      have ey : y = c k := by
        have e1 := hat (.lit (.int .i64 0))
        rw [ek, H1.out k hk4] at e1
        simpa using e1.symm
      subst ey
      rw [ek] at hrg3
      rw [ex] at hen
      rw [ex]
      have HK := Lib.hid (idxKind_any (k + 97) (by omega))
      rw [idxK_pos (by omega), show ((k + 97 : Nat) : Int) - 97 = (k : Int) by omega] at HK
      have ho3 := ho.kept hg3 (.inr (by simp [Value.ownBlock]; omega))
      have hb3 : Below w.heap.size w w3 := hb.grown hg3 hb.size (fun k hk => by cases hk; omega)
      have o1 := n4_at ho3 k hk4 (iL_len _)
      have f1 := ho3.frozenAt k
      have hput := Lib.hid (n4_put ho3 k (c k))
      rw [HSET.out left k hk4] at hput
      have hrg4 := Lib.hid (hrg3.kept (grown_set w3 ⟨w.heap.size, k, none⟩ (.int .i64 (c k))) (by simp; omega) (by simp; omega))
      have hbs := hb3.setCell (p := ⟨w.heap.size, k, none⟩) (Nat.le_refl _) (.int .i64 (c k))
      have HL2 : Hid (∀ kl, (left kl && !kl.sameKey (kyB k)) = true → Maps.has D kl = true) := Lib.hid (fun kl h => HLH.out kl (by simp at h; exact h.1))
      have hk4i : (k : Int) < 4 := by omega
      have HLE := Lib.hid hrg.left_eq
      have HLT := Lib.hid hlt
      clear ho hb hrg hat hlx ek ex hwx hwc ho3 hb3 hlt
      go_wp2_with fail
      refine (HK.out _).mono ?_
      rintro e w4 ⟨rfl, rfl⟩
      go_wp2_with fail
      go_roundw
      case rel => exact ⟨_, cnt3, hrg4.out, HL2.out, hput.out, hbs⟩
      case measure => rw [hrg4.out.left_eq, HLE.out]; exact HLT.out
end Go.Proofs.Ytokhpchnnilbaaa
