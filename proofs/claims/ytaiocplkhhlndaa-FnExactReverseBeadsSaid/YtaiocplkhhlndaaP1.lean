import Derived.Shelf.RegionOpenPlain
import Derived.Test.YtaiocplkhhlndaaP0
namespace Go.Proofs.Ytaiocplkhhlndaa
open Go.RowKit
set_option maxRecDepth 4000
/-- A text backwards. -/
def revB (s : ByteArray) : ByteArray := ⟨s.data.toList.reverse.toArray⟩
theorem rev_size (s : ByteArray) : (revB s).size = s.size := by rw [size_lst, size_lst]; simp [revB]
theorem rev_byt (s : ByteArray) (j : Nat) (hj : j < s.size) : byt (revB s) j = byt s (s.size - 1 - j) := by
  unfold byt revB
  rw [size_lst] at hj ⊢
  simp only [List.getD_eq_getElem?_getD]
  rw [List.getElem?_reverse hj]
/-- The bytes when i of them are exchanged on either side. -/
def fr (s : ByteArray) (i j : Nat) : Nat := if j < i ∨ s.size - 1 < i + j then byt s (s.size - 1 - j) else byt s j
theorem fr_zero (s : ByteArray) (j : Nat) (hj : j < s.size) : fr s 0 j = byt s j := by
  unfold fr; rw [if_neg (by omega)]
theorem fr_step (s : ByteArray) (i : Nat) (h : i < s.size - 1 - i) (j : Nat) (hj : j < s.size) :
    (fun q => if q = s.size - 1 - i then fr s i i else (fun q => if q = i then fr s i (s.size - 1 - i) else fr s i q) q) j = fr s (i + 1) j := by
  have e1 : fr s i i = byt s i := by unfold fr; rw [if_neg (by omega)]
  have e2 : fr s i (s.size - 1 - i) = byt s (s.size - 1 - i) := by unfold fr; rw [if_neg (by omega)]
  simp only [e1, e2]
  unfold fr
  by_cases h1 : j = s.size - 1 - i
  · rw [if_pos h1, if_pos (by omega), h1]; congr 1; omega
  · rw [if_neg h1]
    by_cases h2 : j = i
    · rw [if_pos h2, if_pos (by omega), h2]
    · rw [if_neg h2]
      by_cases h3 : j < i ∨ s.size - 1 < i + j
      · rw [if_pos h3, if_pos (by omega)]
      · rw [if_neg h3, if_neg (by omega)]
theorem fr_end (s : ByteArray) (i : Nat) (h : (s.size : Int) - 1 - i ≤ (i : Int)) (j : Nat) (hj : j < s.size) : byt (revB s) j = fr s i j := by
  rw [rev_byt s j hj]
  unfold fr
  by_cases h3 : j < i ∨ s.size - 1 < i + j
  · rw [if_pos h3]
  · rw [if_neg h3]; congr 1; omega
set_option maxHeartbeats 3200000 in
theorem reverse_any (s : ByteArray) (h16 : s.size ≤ 16) (g cap : Nat) (w : World) (h : RB w g s.size (byt s)) :
    Calls Try.prog 45 #[.slice (some ⟨g, 0, none⟩) s.size cap] w fun e w' => e = .returned (.tuple #[]) ∧ RB w' g s.size (byt (revB s)) ∧ Below g w w' := by
  have HZ := Lib.hid (fr_zero s)
  have HST := Lib.hid (fr_step s)
  have HE := Lib.hid (fr_end s)
  have mixed : Try.prog.follows Departure.mixedOrders = true := by kernel_rfl
  go_enter Try.func45, Try.ntmps45
  go_wp2_with fail
  go_loopw [2, 3] (fun v2 v3 wr => ∃ i : Nat, (i : Int) ≤ (s.size : Int) - i ∧ v2 = .int .i64 i ∧ v3 = .int .i64 ((s.size : Int) - 1 - i) ∧ RB wr g s.size (fr s i) ∧ Below g w wr) (fun v2 _ _ => s.size - (intOf v2).toNat)
  case atStart => exact ⟨0, by omega, rfl, by simp, rb_congr h (fun j hj => HZ.out j hj), Below.refl _ _⟩
  case round =>
    obtain ⟨i, hi, rfl, rfl, ho, hb⟩ := hrel
    obtain ⟨wq, hwq⟩ : ∃ wq : World, wq = wr := ⟨_, rfl⟩
    subst hwq
    by_cases hlt : (i : Int) < (s.size : Int) - 1 - i
    · obtain ⟨q, hq⟩ : ∃ q, q = s.size - 1 - i := ⟨_, rfl⟩
      have hqi : (s.size : Int) - 1 - (i : Int) = (q : Int) := by omega
      have c1 := rb_cell ho i (by omega)
      have c2 := rb_cell ho q (by omega)
      have f1 := rb_froz ho i (by omega)
      have p1 := rb_put ho i (fr s i q)
      have f2 := rb_froz p1 q (by omega)
      have c3 := rb_cell p1 q (by omega)
      have p2 := rb_put p1 q (fr s i i)
      have hst := HST.out i (by omega)
      rw [← hq] at hst
      have HP := Lib.hid (rb_congr p2 (fun j hj => (hst j hj).symm))
      have hb2 := (hb.setCell (p := ⟨g, i, none⟩) (Nat.le_refl _) (.int .u8 (fr s i q : Nat))).setCell (p := ⟨g, q, none⟩) (Nat.le_refl _) (.int .u8 (fr s i i : Nat))
      have hii : (i : Int) < (q : Int) := by omega
      have hqs : (q : Int) < (s.size : Int) := by omega
      have his : (i : Int) < (s.size : Int) := by omega
      have hgt : i < q := by omega
      have HM : Hid (s.size - (i + 1) < s.size - i) := Lib.hid (by omega)
      have HQ : Hid ((q : Int) - 1 = (s.size : Int) - 1 - ((i + 1 : Nat) : Int)) := Lib.hid (by omega)
      have HI : Hid (((i + 1 : Nat) : Int) ≤ (s.size : Int) - ((i + 1 : Nat) : Int)) := Lib.hid (by omega)
      rw [hqi]
      clear hst p1 p2 ho hq hqi hlt hi
      generalize fr s i q = x at *
      generalize fr s i i = y at *
      go_wp2_with fail
      go_region_o
      go_wp2
      go_roundw
      case rel => exact ⟨i + 1, HI.out, by go_num, by rw [HQ.out], HP.out, hb2.drew⟩
      case measure => simp [intOf]; omega
    · have hle : ((s.size : Int) - 1 - i) ≤ (i : Int) := by omega
      have HX := Lib.hid (rb_congr ho (fun j hj => HE.out i hle j hj))
      go_wp2_with fail
      go_end0
      exact ⟨rfl, HX.out, hb⟩
set_option maxHeartbeats 1600000 in
theorem implRev_yes (s : ByteArray) (hg : goodS s = true) (w : World) : Calls Try.prog 10 #[.string s] w fun e w' => e = .returned (.tuple #[.string (revB s), .bool true]) ∧ Below w.heap.size w w' := by
  have HG := Lib.hid (neckOf_any s w)
  rw [hg, gT_yes hg] at HG
  have h16 := (goodS_at hg).1
  have hcv := Lib.run_convert_string_bytes (P := Try.prog) w 48 34 5 s Try.underlying48 Try.underlying34 Try.underlying5
  have HR := Lib.hid (reverse_any s h16 w.heap.size (grownCap w s.size 0 5) _ (rb_made w s))
  have HB := Lib.hid (bytes_below w s)
  have hrs := rev_size s
  have HB2 : Hid (∀ w', RB w' w.heap.size s.size (byt (revB s)) → ∀ cap, (convert 34 9 (.slice (some ⟨w.heap.size, 0, none⟩) s.size cap)).run Try.prog w' = .ok (.string (revB s)) w') := Lib.hid (fun w' h cap => by
    have h1 := Lib.run_convert_whole (P := Try.prog) w' 34 5 9 Try.underlying34 Try.underlying5 Try.underlying9 w.heap.size 0 (revB s) (rb_bytes (by rw [hrs]; exact h)) cap
    rw [hrs] at h1
    exact h1)
  clear hg hrs
  go_enter Try.func10, Try.ntmps10
  go_wp2_with fail
  refine HG.out.mono ?_
  rintro e w' ⟨rfl, rfl⟩
  go_wp2_with fail
  refine HR.out.mono ?_
  rintro e w2 ⟨rfl, hrb, hb2⟩
  have hc2 := HB2.out w2 hrb (grownCap w s.size 0 5)
  go_wp2_with fail
  go_returns
  exact ⟨rfl, HB.out.trans hb2⟩
set_option maxHeartbeats 1600000 in
theorem implRev_no (s : ByteArray) (hg : goodS s = false) (w : World) : Calls Try.prog 10 #[.string s] w fun e w' => e = .returned (.tuple #[.string ⟨#[]⟩, .bool false]) ∧ Below w.heap.size w w' := by
  have HG := Lib.hid (neckOf_any s w)
  rw [hg, gT_no hg] at HG
  have hcv := Lib.run_convert_string_bytes (P := Try.prog) w 48 34 5 ⟨#[]⟩ Try.underlying48 Try.underlying34 Try.underlying5
  have HR := Lib.hid (reverse_any ⟨#[]⟩ (by decide) w.heap.size (grownCap w (ByteArray.mk #[]).size 0 5) _ (rb_made w ⟨#[]⟩))
  have HB := Lib.hid (bytes_below w ⟨#[]⟩)
  have HB2 : Hid (∀ w', RB w' w.heap.size (ByteArray.mk #[]).size (byt (revB ⟨#[]⟩)) → ∀ cap, (convert 34 9 (.slice (some ⟨w.heap.size, 0, none⟩) 0 cap)).run Try.prog w' = .ok (.string ⟨#[]⟩) w') := Lib.hid (fun w' h cap => by
    have h1 := Lib.run_convert_whole (P := Try.prog) w' 34 5 9 Try.underlying34 Try.underlying5 Try.underlying9 w.heap.size 0 ⟨#[]⟩ (fun i hi => absurd hi (Nat.not_lt_zero i)) cap
    exact h1)
  clear hg
  go_enter Try.func10, Try.ntmps10
  go_wp2_with fail
  refine HG.out.mono ?_
  rintro e w' ⟨rfl, rfl⟩
  go_wp2_with fail
  refine HR.out.mono ?_
  rintro e w2 ⟨rfl, hrb, hb2⟩
  have hc2 := HB2.out w2 hrb (grownCap w 0 0 5)
  go_wp2_with fail
  go_returns
  exact ⟨rfl, HB.out.trans hb2⟩
end Go.Proofs.Ytaiocplkhhlndaa
