import Derived.Test.YtngadmjpjpmeoabLof
import Derived.Test.YtngadmjpjpmeoabSides
import Derived.Deep.RegionHeld3
namespace Go.Proofs.Ytngadmjpjpmeoab
open Go.RowKit
/-- The number that the label of a point asks for is 0. -/
def isBr (n : Nat) (xs : List Int) (i : Nat) : Bool := decide ((pt n i).getD (xs.getD i 0).toNat 0 = 0)
/-- The first broken point. -/
def fbk (n : Nat) (xs : List Int) : Option Nat := (List.range (Pr.cnt n)).find? (isBr n xs)
theorem fbk_some (n : Nat) (xs : List Int) (k : Nat) (hk : k < Pr.cnt n) (h : ∀ j, j < k → isBr n xs j = false) (hb : isBr n xs k = true) : fbk n xs = some k := by
  rw [fbk, List.find?_range_eq_some]
  exact ⟨hb, List.mem_range.2 hk, fun j hj => by simp [h j hj]⟩
theorem fbk_none (n : Nat) (xs : List Int) (h : ∀ j, j < Pr.cnt n → isBr n xs j = false) : fbk n xs = none := by
  rw [fbk, List.find?_range_eq_none]
  exact fun j hj => by simp [h j hj]
theorem cell3b (w : World) (a b c : Int) (t : TypeId) (k : Nat) (hk : k < 3) : (w.alloc (.cells #[.int .i64 a, .int .i64 b, .int .i64 c] t)).cell? ⟨w.heap.size, k, none⟩ = some (.int .i64 ([a, b, c].getD k 0)) := by
  rcases (show k = 0 ∨ k = 1 ∨ k = 2 by omega) with rfl | rfl | rfl <;> go_cell
def brInt (o : Option Nat) : Int := match o with | some k => (k : Int) | none => -1
set_option maxHeartbeats 800000 in
theorem meBroken_any (n : Nat) (xs : List Int) (a : Option Addr) (b off len cap : Nat) (w : World) (hn : xs.length = len) (h : Rd w a b off xs) (hb0 : len = 0 ∨ b < w.heap.size) (hL : labB n xs = true) :
    Calls Try.prog 23 #[.int .i64 n, .slice a len cap] w fun e w' => e = .returned (.int .i64 (brInt (fbk n xs))) ∧ Below w.heap.size w w' := by
  obtain ⟨h1, h2, hl, hA⟩ := labB_yes hL
  have hc := (Pr.cnt_le n (by omega)).1
  have hlen : len ≤ 45 := by omega
  have HRD : Hid (∀ W, Below w.heap.size w W → Rd W a b off xs) := by
    intro W hB
    refine ⟨h.1, fun j hj => ⟨(h.2 j hj).1, ?_⟩⟩
    rcases hb0 with h' | h'
    · rw [hn, h'] at hj; exact absurd hj (Nat.not_lt_zero _)
    · exact (hB.cell h').trans (h.2 j hj).2
  have HN := Lib.hid hn
  have HL := Lib.hid hl
  have HA := Lib.hid hA
  clear h hn hl hA hL
  go_enter Try.func23, Try.ntmps23
  go_wp2_with fail
  go_loopw [9] (fun v9 wr => ∃ k : Nat, k ≤ len ∧ v9 = .int .i64 k ∧ (∀ j, j < k → isBr n xs j = false) ∧ Below w.heap.size w wr) (fun v9 _ => len - (intOf v9).toNat)
  case atStart => exact ⟨0, Nat.zero_le _, rfl, by omega, Below.refl _ _⟩
  case round =>
    obtain ⟨k, hk, rfl, hall, hb⟩ := hrel
    have HALL := Lib.hid hall
    clear hall
    by_cases hlt : k < len
    · have hr := HRD.out _ hb
      obtain ⟨ha, c⟩ := hr.2 k (by rw [HN.out]; exact hlt)
      obtain ⟨l0, l2⟩ := allB_at HA.out k (by rw [HN.out]; exact hlt)
      clear hr
      subst ha
      have hbr : isBr n xs k = decide ((pt n k).getD (xs.getD k 0).toNat 0 = 0) := rfl
      obtain ⟨y, hy⟩ := Int.eq_ofNat_of_zero_le l0
      have hy2 : y < 3 := by omega
      have hkc : k < 45 := by omega
      rw [hy] at c
      rw [hy, Int.toNat_natCast] at hbr
      have c3 := cell3b wr ((n : Int) - (Pr.R k : Nat)) ((Pr.R k : Int) - (Pr.C k : Nat)) (Pr.C k : Nat) 3 y hy2
      have hpt : [(n : Int) - (Pr.R k : Nat), (Pr.R k : Int) - (Pr.C k : Nat), (Pr.C k : Nat)].getD y 0 = (pt n k).getD y 0 := rfl
      rw [hpt] at c3
      generalize (pt n k).getD y 0 = z at *
      have HC3 := Lib.hid c3
      have HBR := Lib.hid hbr
      have hyi : (y : Int) < 3 := by omega
      clear c3 hbr hpt l0 l2 hy
      by_cases hz : z = 0
      · have ht : (z == 0) = true := by simpa using hz
        have HZ := Lib.hid hz
        clear hz
        go_wp2_with fail
        refine (meAt_any n k h1 h2 hkc _).mono ?_
        rintro e w' ⟨rfl, rfl⟩
        have c3 := HC3.out
        go_wp2_with fail
        go_ret
        have hf := fbk_some n xs k (by have := HL.out; have := HN.out; omega) HALL.out (by rw [HBR.out, HZ.out]; rfl)
        rw [hf]
        exact ⟨rfl, balloc hb _⟩
      · have ht : (z == 0) = false := by simpa using hz
        have HZ := Lib.hid hz
        clear hz
        go_wp2_with fail
        refine (meAt_any n k h1 h2 hkc _).mono ?_
        rintro e w' ⟨rfl, rfl⟩
        have c3 := HC3.out
        go_wp2_with fail
        go_roundw
        case rel =>
          refine ⟨k + 1, by omega, by go_num, fun j hj => ?_, balloc hb _⟩
          by_cases hjk : j < k
          · exact HALL.out j hjk
          · obtain rfl : j = k := by omega
            rw [HBR.out]; simpa using HZ.out
        case measure => simp [intOf]; omega
    · have hf := Lib.hid (fbk_none n xs (by have := HL.out; have := HN.out; rw [show Pr.cnt n = k by omega]; exact HALL.out))
      go_wp2_with fail
      go_ret
      rw [hf.out]
      exact ⟨rfl, hb⟩
/-- What the program's cells hold of labels. -/
theorem labL_at (n : Nat) (xs : List Int) (k : Nat) (hk : k < xs.length) : (labL n xs).toArray[1 + k]? = some (.int .i64 (xs.getD k 0)) := by
  rw [List.getElem?_toArray, show 1 + k = k + 1 by omega]
  simp [labL, List.getElem?_append, hk, List.getD]
theorem labL_zero (n : Nat) (xs : List Int) : (labL n xs).toArray[0]? = some (.int .i64 n) := by simp [labL]
def brOut (o : Option Nat) : Int := match o with | some k => (k : Int) | none => 0
theorem idx3 (a b c : Int) (y : Nat) (hy : y < 3) (w : World) : (Instr.index 53 (.agg #[.int .i64 a, .int .i64 b, .int .i64 c]) (.int .i64 y)).run Try.prog w = .ok (.int .i64 ([a, b, c].getD y 0)) w := by
  rcases (show y = 0 ∨ y = 1 ∨ y = 2 by omega) with rfl | rfl | rfl
  · exact (show (Instr.index 53 (.agg #[.int .i64 a, .int .i64 b, .int .i64 c]) (.int .i64 0)).run Try.prog w = .ok (.int .i64 a) w by kernel_rfl)
  · exact (show (Instr.index 53 (.agg #[.int .i64 a, .int .i64 b, .int .i64 c]) (.int .i64 1)).run Try.prog w = .ok (.int .i64 b) w by kernel_rfl)
  · exact (show (Instr.index 53 (.agg #[.int .i64 a, .int .i64 b, .int .i64 c]) (.int .i64 2)).run Try.prog w = .ok (.int .i64 c) w by kernel_rfl)
set_option maxHeartbeats 800000 in
theorem firstBroken_any (n : Nat) (xs : List Int) (w : World) (hL : labB n xs = true) :
    Calls Try.prog 25 #[.agg (labL n xs).toArray] w fun e w' => e = .returned (.tuple #[.int .i64 (brOut (fbk n xs)), .bool (fbk n xs).isSome]) ∧ Below w.heap.size w w' := by
  obtain ⟨h1, h2, hl, hA⟩ := labB_yes hL
  have hc := (Pr.cnt_le n (by omega)).1
  have HL := Lib.hid hl
  have HA := Lib.hid hA
  have HC : Hid (∀ k, k < xs.length → (w.alloc (.cells (labL n xs).toArray 40)).cell? ⟨w.heap.size, 1 + k, none⟩ = some (.int .i64 (xs.getD k 0))) := fun k hk => by
    rw [cell_of_row _ _ _ _ _ (0, 0) (heap_alloc_new w _)]; exact labL_at n xs k hk
  have hm0 : (w.alloc (.cells (labL n xs).toArray 40)).cell? ⟨w.heap.size, 0, none⟩ = some (.int .i64 n) := by
    rw [cell_of_row _ _ _ _ _ (0, 0) (heap_alloc_new w _)]; exact labL_zero n xs
  clear hl hA hL
  generalize hcs : (labL n xs).toArray = cs at *
  clear hcs
  go_enter Try.func25, Try.ntmps25
  go_wp2_with fail
  refine (size_any n h2 _).mono ?_
  rintro e w1 ⟨rfl, hb1⟩
  have HC1 : Hid (∀ k, k < xs.length → w1.cell? ⟨w.heap.size, 1 + k, none⟩ = some (.int .i64 (xs.getD k 0))) := fun k hk => (hb1.cell (by simp)).trans (HC.out k hk)
  have HM1 : Hid (w1.cell? ⟨w.heap.size, 0, none⟩ = some (.int .i64 n)) := (hb1.cell (by simp)).trans hm0
  have hB1 := bnext (balloc (Below.refl w.heap.size w) (.cells cs 40)) hb1
  have hlt1 : w.heap.size < w1.heap.size := by have := hb1.size; simp at this; omega
  clear hm0 hb1
  go_wp2_with fail
  go_loopw [8] (fun v8 wr => ∃ k : Nat, k ≤ Pr.cnt n ∧ v8 = .int .i64 k ∧ (∀ j, j < k → isBr n xs j = false) ∧ Below w1.heap.size w1 wr) (fun v8 _ => Pr.cnt n - (intOf v8).toNat)
  case atStart => exact ⟨0, Nat.zero_le _, rfl, by omega, Below.refl _ _⟩
  case round =>
    obtain ⟨k, hk, rfl, hall, hb⟩ := hrel
    have HALL := Lib.hid hall
    clear hall
    by_cases hlt : k < Pr.cnt n
    · have hkx : k < xs.length := by have := HL.out; omega
      obtain ⟨l0, l2⟩ := allB_at HA.out k hkx
      have hbr : isBr n xs k = decide ((pt n k).getD (xs.getD k 0).toNat 0 = 0) := rfl
      have cm : wr.cell? ⟨w.heap.size, 0, none⟩ = some (.int .i64 n) := (hb.cell (by exact hlt1)).trans HM1.out
      have cx : wr.cell? ⟨w.heap.size, 1 + k, none⟩ = some (.int .i64 (xs.getD k 0)) := (hb.cell (by exact hlt1)).trans (HC1.out k hkx)
      obtain ⟨y, hy⟩ := Int.eq_ofNat_of_zero_le l0
      have hy2 : y < 3 := by omega
      have hkc : k < 45 := by omega
      rw [hy] at cx
      rw [hy, Int.toNat_natCast] at hbr
      have hix := idx3 ((n : Int) - (Pr.R k : Nat)) ((Pr.R k : Int) - (Pr.C k : Nat)) (Pr.C k : Nat) y hy2
      have hpt : [(n : Int) - (Pr.R k : Nat), (Pr.R k : Int) - (Pr.C k : Nat), (Pr.C k : Nat)].getD y 0 = (pt n k).getD y 0 := rfl
      rw [hpt] at hix
      generalize (pt n k).getD y 0 = z at *
      have HBR := Lib.hid hbr
      have hyi : (y : Int) < 3 := by omega
      have hk45 : (k : Int) < 45 := by omega
      have hzr := hb.size
      have hwr : w.heap.size < wr.heap.size := by omega
      have hbr0 := Below.refl wr.heap.size wr
      clear hbr hpt l0 l2 hy hkx
      by_cases hz : z = 0
      · have ht : (z == 0) = true := by simpa using hz
        have HZ := Lib.hid hz
        clear hz
        go_wp2_with fail
        go_region_held3 (fun w' => Below wr.heap.size wr w' ∧ w'.cell? ⟨w.heap.size, 0, none⟩ = some (.int .i64 n) ∧ w'.cell? ⟨w.heap.size, 1 + k, none⟩ = some (.int .i64 y))
          ((refine ⟨?_, ?_, ?_⟩ <;> first | assumption | exact Below.drew (Below.refl _ _) | (refine Below.drew ?_; assumption) | exact Below.refl _ _))
          (first | (go_at_call 36; go_split_ands; refine (spotAt_any n k h1 h2 hkc _).mono ?_; rintro e w' ⟨rfl, hb'⟩; have hB' : Below wr.heap.size wr w' := bnext (by assumption) hb'; have q0 := (hB'.cell (p := ⟨w.heap.size, 0, none⟩) hwr).trans cm; have q1 := (hB'.cell (p := ⟨w.heap.size, 1 + k, none⟩) hwr).trans cx))
        go_wp2_with fail
        go_ret2
        have hf := fbk_some n xs k hlt HALL.out (by rw [HBR.out, HZ.out]; rfl)
        rw [hf]
        exact ⟨rfl, bnext hB1 (bnext hb (by assumption))⟩
      · have ht : (z == 0) = false := by simpa using hz
        have HZ := Lib.hid hz
        clear hz
        go_wp2_with fail
        go_region_held3 (fun w' => Below wr.heap.size wr w' ∧ w'.cell? ⟨w.heap.size, 0, none⟩ = some (.int .i64 n) ∧ w'.cell? ⟨w.heap.size, 1 + k, none⟩ = some (.int .i64 y))
          ((refine ⟨?_, ?_, ?_⟩ <;> first | assumption | exact Below.drew (Below.refl _ _) | (refine Below.drew ?_; assumption) | exact Below.refl _ _))
          (first | (go_at_call 36; go_split_ands; refine (spotAt_any n k h1 h2 hkc _).mono ?_; rintro e w' ⟨rfl, hb'⟩; have hB' : Below wr.heap.size wr w' := bnext (by assumption) hb'; have q0 := (hB'.cell (p := ⟨w.heap.size, 0, none⟩) hwr).trans cm; have q1 := (hB'.cell (p := ⟨w.heap.size, 1 + k, none⟩) hwr).trans cx))
        go_wp2_with fail
        go_roundw
        case rel =>
          refine ⟨k + 1, by omega, by go_num, fun j hj => ?_, bnext hb (by assumption)⟩
          by_cases hjk : j < k
          · exact HALL.out j hjk
          · obtain rfl : j = k := by omega
            rw [HBR.out]; simpa using HZ.out
        case measure => simp [intOf]; omega
    · have hf := Lib.hid (fbk_none n xs (by rw [show Pr.cnt n = k by omega]; exact HALL.out))
      go_wp2_with fail
      go_ret2
      rw [hf.out]
      exact ⟨rfl, bnext hB1 hb⟩
end Go.Proofs.Ytngadmjpjpmeoab
