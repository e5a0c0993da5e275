import Derived.Test.YtpabplnmjkjbnabLb
import Derived.Test.YtpabplnmjkjbnabHh
import Derived.Laws.BytesArg
import Derived.Lib.SmallJoins
namespace Go.Proofs.Ytpabplnmjkjbnab
open Go.RowKit
set_option maxRecDepth 4000
/-- A place's digit, and the text of the first places. -/
def dgt (x : Int) : UInt8 := UInt8.ofNat (48 + x.toNat)
def sep (m k : Nat) : List UInt8 := if 0 < k ∧ k % m = 0 then [47] else []
def txB (m : Nat) (xs : List Int) : Nat → List UInt8
  | 0 => []
  | k + 1 => txB m xs k ++ sep m k ++ [dgt (xs.getD k 0)]
theorem txB_len (m : Nat) (xs : List Int) : ∀ k, (txB m xs k).length ≤ 2 * k
  | 0 => Nat.le_refl _
  | k + 1 => by
    have h := txB_len m xs k
    have : (sep m k).length ≤ 1 := by unfold sep; split <;> simp
    simp only [txB, List.length_append, List.length_cons, List.length_nil]
    omega
theorem conv_one (c : Int) (w : World) : (convert 47 9 (.slice (some ⟨w.heap.size, 0, none⟩) 1 1)).run Try.prog (w.alloc (.cells #[.int .u8 c] 5)) = .ok (.string ⟨#[UInt8.ofNat c.toNat]⟩) (w.alloc (.cells #[.int .u8 c] 5)) :=
  run_convert_bytes_arg _ 47 5 Try.underlying47 Try.underlying5 w.heap.size 0 1 1 [c] rfl (fun i hi => by
    obtain rfl : i = 0 := by omega
    exact blk_cell (heap_alloc_new w _) 0 _ rfl) 9 Try.underlying9
theorem l1Num_dgt (x : Int) (h0 : 0 ≤ x) (h2 : x ≤ 2) (w : World) :
    Calls Try.prog 25 #[.int .i64 x] w fun e w' => e = .returned (.string ⟨#[dgt x]⟩) ∧ Below w.heap.size w w' := by
  have h : x = 0 ∨ x = 1 ∨ x = 2 := by omega
  rcases h with rfl | rfl | rfl
  · have hc := conv_one 48 w
    go_enter Try.func25, Try.ntmps25
    go_wp2_with fail
    go_ret
    exact ⟨rfl, balloc (Below.refl _ _) _⟩
  · have hc := conv_one 49 w
    go_enter Try.func25, Try.ntmps25
    go_wp2_with fail
    go_ret
    exact ⟨rfl, balloc (Below.refl _ _) _⟩
  · have hc := conv_one 50 w
    go_enter Try.func25, Try.ntmps25
    go_wp2_with fail
    go_ret
    exact ⟨rfl, balloc (Below.refl _ _) _⟩
theorem str_app (A B : List UInt8) : (⟨A.toArray⟩ : ByteArray) ++ ⟨B.toArray⟩ = ⟨(A ++ B).toArray⟩ := by
  have h := Go.Joins.data_append ⟨A.toArray⟩ ⟨B.toArray⟩
  cases hx : (⟨A.toArray⟩ : ByteArray) ++ ⟨B.toArray⟩ with
  | mk d =>
    rw [hx] at h
    simp only at h
    congr 1
    apply Array.ext'
    simpa using h
set_option maxHeartbeats 1600000 in
theorem hxText_any (m : Nat) (xs : List Int) (a : Option Addr) (b len cap : Nat) (w : World) (hn : xs.length = len) (h : Rd w a b 0 xs) (hb0 : len = 0 ∨ b < w.heap.size) (h2 : 1 ≤ m) (h30 : len ≤ 30) (hA : allB 0 2 xs = true) :
    Calls Try.prog 14 #[.int .i64 m, .slice a len cap] w fun e w' => e = .returned (.string ⟨(txB m xs len).toArray⟩) ∧ Below w.heap.size w w' := by
  have HRD := Lib.hid (fun w' (hb : Below w.heap.size w w') => h.later hn hb0 hb)
  have HN := Lib.hid hn
  have HA := Lib.hid hA
  have hm0 : (m : Int) ≠ 0 := by omega
  clear h hb0 hn hA
  go_enter Try.func14, Try.ntmps14
  go_wp2_with fail
  go_loopw [5, 10] (fun v5 v10 wr => ∃ k : Nat, k ≤ len ∧ v10 = .int .i64 k ∧ v5 = .string ⟨(txB m xs k).toArray⟩ ∧ Below w.heap.size w wr) (fun _ v10 _ => len - (intOf v10).toNat)
  case atStart => exact ⟨0, Nat.zero_le _, rfl, rfl, Below.refl _ _⟩
  case round =>
    obtain ⟨k, hk, rfl, rfl, hb⟩ := hrel
    by_cases hlt : k < len
    · obtain ⟨rfl, c⟩ := (HRD.out wr hb).2 k (by rw [HN.out]; exact hlt)
      obtain ⟨l0, l2⟩ := allB_at HA.out k (by rw [HN.out]; exact hlt)
      rw [Nat.zero_add] at c
      have hki : (k : Int) < (len : Int) := by omega
      have HT : Hid (txB m xs (k + 1) = txB m xs k ++ sep m k ++ [dgt (xs.getD k 0)]) := Lib.hid rfl
      obtain ⟨r, hr⟩ : ∃ r : Nat, r = k % m := ⟨_, rfl⟩
      have e1 : Int.tmod (k : Int) (m : Int) = (r : Int) := by rw [hr]; exact (Int.ofNat_tmod k m).symm
      have hrk : r ≤ k := by rw [hr]; exact Nat.mod_le _ _
      have e7 : IntKind.i64.wrap (r : Int) = (r : Int) := IntWalk.i64_in _ ⟨by omega, by omega⟩
      have e8 : wrap64 (r : Int) = (r : Int) := IntWalk.wrap64_in _ ⟨by omega, by omega⟩
      generalize xs.getD k 0 = x at c l0 l2 HT
      have HX := Lib.hid (fun w' => l1Num_dgt x l0 l2 w')
      have HR := Lib.hid hr
      clear hr
      have htl := txB_len m xs k
      generalize txB m xs k = t at HT htl ⊢
      have hts : (⟨t.toArray⟩ : ByteArray).size = t.length := by simp [ByteArray.size]
      by_cases hs : 0 < k ∧ r = 0
      · have e := Lib.hid (show sep m k = [47] by rw [sep, if_pos ⟨hs.1, by rw [← HR.out]; exact hs.2⟩])
        have hk0 : (0 : Int) < (k : Int) := by omega
        have hr0 : r = 0 := hs.2
        subst hr0
        clear hs
        go_wp2_with fail
        refine (HX.out wr).mono ?_
        rintro e' w2 ⟨rfl, hb2⟩
        go_wp2_with fail
        go_roundw
        case rel => exact ⟨k + 1, by omega, by go_num, by rw [HT.out, e.out, ← str_app, ← str_app], bnext hb hb2⟩
        case measure => simp [intOf]; omega
      · have e := Lib.hid (show sep m k = [] by rw [sep, if_neg (by rw [← HR.out]; exact hs)])
        by_cases hk0 : 0 < k
        · have hk1 : (0 : Int) < (k : Int) := by omega
          have hr0 : ((r : Int) == 0) = false := by simp; omega
          clear hs
          go_wp2_with fail
          refine (HX.out wr).mono ?_
          rintro e' w2 ⟨rfl, hb2⟩
          go_wp2_with fail
          go_roundw
          case rel => exact ⟨k + 1, by omega, by go_num, by rw [HT.out, e.out, List.append_nil, ← str_app], bnext hb hb2⟩
          case measure => simp [intOf]; omega
        · have hk1 : ¬ (0 : Int) < (k : Int) := by omega
          clear hs
          go_wp2_with fail
          refine (HX.out wr).mono ?_
          rintro e' w2 ⟨rfl, hb2⟩
          go_wp2_with fail
          go_roundw
          case rel => exact ⟨k + 1, by omega, by go_num, by rw [HT.out, e.out, List.append_nil, ← str_app], bnext hb hb2⟩
          case measure => simp [intOf]; omega
    · have e : k = len := by omega
      subst e
      go_wp2_with fail
      go_ret
      exact ⟨rfl, hb⟩
end Go.Proofs.Ytpabplnmjkjbnab
