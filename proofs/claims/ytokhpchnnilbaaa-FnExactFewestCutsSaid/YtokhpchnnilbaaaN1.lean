import Derived.LoopN
import Derived.BigRegion
import Derived.BigQuiet
import Derived.Lib.Bytealg
import Derived.Test.YtokhpchnnilbaaaS0
namespace Go.Proofs.Ytokhpchnnilbaaa
open Go.RowKit
set_option maxRecDepth 4000
/-- Byte i of a text. -/
def byt (s : ByteArray) (i : Nat) : Nat := (s.data.toList.getD i 0).toNat
/-- The kind of bead i. -/
def kd (s : ByteArray) (i : Nat) : Nat := byt s i - 97
def okB (s : ByteArray) (i : Nat) : Bool := decide (97 ≤ byt s i) && decide (byt s i ≤ 100)
def goodS (s : ByteArray) : Bool := decide (s.size ≤ 16) && (List.range s.size).all (okB s)
/-- The place of a letter among abcd, or -1. -/
def idxK (c : Nat) : Int := if 97 ≤ c ∧ c ≤ 100 then (c : Int) - 97 else -1
theorem byt_lt (s : ByteArray) (i : Nat) : byt s i < 256 := (s.data.toList.getD i 0).toNat_lt
theorem byt_get (s : ByteArray) (i : Nat) (h : i < s.size) : (s[i]'h).toNat = byt s i := by
  obtain ⟨⟨l⟩⟩ := s
  have hl : i < l.length := h
  simp only [byt, List.getD, List.getElem?_eq_getElem hl, Option.getD_some]
  rfl
theorem idxK_tab : ∀ c : Nat, c < 256 → Lib.indexByte [97, 98, 99, 100] c.toUInt8 = idxK c := by decide +kernel
theorem goodS_no (s : ByteArray) (i : Nat) (hi : i < s.size) (h : okB s i = false) : goodS s = false := by
  simp only [goodS, Bool.and_eq_false_iff]
  right
  simp only [List.all_eq_false, List.mem_range]
  exact ⟨i, hi, by simp [h]⟩
theorem goodS_big (s : ByteArray) (h : ¬ s.size ≤ 16) : goodS s = false := by simp [goodS, h]
theorem goodS_yes (s : ByteArray) (h : s.size ≤ 16) (ha : ∀ i, i < s.size → okB s i = true) : goodS s = true := by
  simp only [goodS, Bool.and_eq_true, decide_eq_true_eq, List.all_eq_true, List.mem_range]
  exact ⟨h, ha⟩
theorem goodS_at {s : ByteArray} (h : goodS s = true) : s.size ≤ 16 ∧ ∀ i, i < s.size → 97 ≤ byt s i ∧ byt s i ≤ 100 := by
  simp only [goodS, Bool.and_eq_true, decide_eq_true_eq, List.all_eq_true, List.mem_range, okB] at h
  exact ⟨h.1, fun i hi => h.2 i hi⟩
theorem wrap_u8 : ∀ c : Nat, c < 256 → 97 ≤ c → IntKind.u8.wrap ((c : Int) - 97) = (c : Int) - 97 := by decide +kernel
set_option maxHeartbeats 800000 in
theorem lite_any (c : Nat) (hc : c < 256) (w : World) :
    Calls Try.prog 85 #[.string ⟨#[97, 98, 99, 100]⟩, .int .u8 c] w fun e w' => e = .returned (.int .i64 (idxK c)) ∧ w = w' := by
  have hidx := idxK_tab c hc
  go_enter Try.func85, Try.ntmps85
  go_wp2_with fail
  rw [run_callFunc_extern Try.func86 (by kernel_rfl) (by kernel_rfl) (by kernel_rfl) (e := Extern.BytealgIndexByte.indexByte) (by kernel_rfl), Lib.run_indexByteString]
  simp only [Result.andThen]
  rw [Oper.upon_value]
  rw [show ((c : Int).toNat.toUInt8) = c.toUInt8 by simp, hidx]
  go_wp2_with fail
  go_ret
  exact ⟨rfl, rfl⟩
set_option maxHeartbeats 800000 in
theorem strIdx_any (c : Nat) (hc : c < 256) (w : World) :
    Calls Try.prog 82 #[.string ⟨#[97, 98, 99, 100]⟩, .int .u8 c] w fun e w' => e = .returned (.int .i64 (idxK c)) ∧ w = w' := by
  have HG := Lib.hid (lite_any c hc w)
  go_enter Try.func82, Try.ntmps82
  go_wp2_with fail
  refine HG.out.mono ?_
  rintro e w' ⟨rfl, rfl⟩
  go_wp2_with fail
  go_ret
  exact ⟨rfl, rfl⟩
set_option maxHeartbeats 800000 in
theorem idxKind_any (c : Nat) (hc : c < 256) (w : World) :
    Calls Try.prog 70 #[.int .u8 c] w fun e w' => e = .returned (.int .i64 (idxK c)) ∧ w = w' := by
  have HG := Lib.hid (strIdx_any c hc w)
  go_enter Try.func70, Try.ntmps70
  go_wp2_with fail
  refine HG.out.mono ?_
  rintro e w' ⟨rfl, rfl⟩
  go_wp2_with fail
  go_ret
  exact ⟨rfl, rfl⟩
set_option maxHeartbeats 1600000 in
theorem nlGood_any (s : ByteArray) (w : World) :
    Calls Try.prog 43 #[.string s] w fun e w' => e = .returned (.bool (goodS s)) ∧ w = w' := by
  by_cases hbig : s.size ≤ 16
  · have HNO := Lib.hid (goodS_no s)
    have HYES := Lib.hid (goodS_yes s hbig)
    have HGET := Lib.hid (byt_get s)
    have HLT := Lib.hid (byt_lt s)
    go_enter Try.func43, Try.ntmps43
    go_wp2_with fail
    go_loop [3] (fun v3 => ∃ i : Nat, i ≤ s.size ∧ v3 = .int .i64 i ∧ ∀ j, j < i → okB s j = true) (fun v3 => s.size - (intOf v3).toNat)
    case atStart => exact ⟨0, by omega, rfl, by omega⟩
    case round =>
      obtain ⟨i, hi, rfl, hall⟩ := hrel
      have HA := Lib.hid hall
      clear hall
      by_cases hlt : i < s.size
      · have hii : (i : Int) < (s.size : Int) := by omega
        have hgt := HGET.out i hlt
        have hc := HLT.out i
        have hOK : okB s i = (decide (97 ≤ byt s i) && decide (byt s i ≤ 100)) := rfl
        have HF := Lib.hid hOK
        have HN := Lib.hid (HNO.out i hlt)
        have HT : Hid (okB s i = true → ∀ j, j < i + 1 → okB s j = true) := Lib.hid (fun hx j hj => by
          by_cases e : j = i
          · rw [e]; exact hx
          · exact HA.out j (by omega))
        clear hOK
        generalize byt s i = c at *
        by_cases h1 : c < 97
        · have h1' : (c : Int) < 97 := by omega
          have HX := Lib.hid (HN.out (by rw [HF.out]; simp; omega))
          go_wp2_with fail
          go_ret
          exact ⟨ret_bool HX.out.symm, rfl⟩
        · have h1' : ¬ (c : Int) < 97 := by omega
          have hw : IntKind.u8.wrap ((c : Int) - 97) = (c : Int) - 97 := wrap_u8 c hc (by omega)
          by_cases h2 : c ≤ 100
          · have h2' : ¬ (4 : Int) ≤ (c : Int) - 97 := by omega
            have HX := Lib.hid (HT.out (by rw [HF.out]; simp; omega))
            go_wp2_with fail
            go_round
            case rel => exact ⟨i + 1, by omega, by go_num, HX.out⟩
            case measure => simp [intOf]; omega
          · have h2' : (4 : Int) ≤ (c : Int) - 97 := by omega
            have HX := Lib.hid (HN.out (by rw [HF.out]; simp; omega))
            go_wp2_with fail
            go_ret
            exact ⟨ret_bool HX.out.symm, rfl⟩
      · have hii : ¬ (i : Int) < (s.size : Int) := by omega
        have HX := Lib.hid (HYES.out (fun j hj => HA.out j (by omega)))
        go_wp2_with fail
        go_ret
        exact ⟨ret_bool HX.out.symm, rfl⟩
  · have HG := Lib.hid (goodS_big s hbig)
    go_enter Try.func43, Try.ntmps43
    go_wp2_with fail
    go_ret
    exact ⟨ret_bool HG.out.symm, rfl⟩
/-- What necklaceOf answers. -/
theorem idxK_pos {c : Nat} (h : 97 ≤ c ∧ c ≤ 100) : idxK c = (c : Int) - 97 := by simp [idxK, h]
theorem idxK_neg {c : Nat} (h : ¬ (97 ≤ c ∧ c ≤ 100)) : idxK c = -1 := by simp only [idxK, if_neg h]
theorem okB_iff {s : ByteArray} {i : Nat} : okB s i = true ↔ 97 ≤ byt s i ∧ byt s i ≤ 100 := by simp [okB]
/-- The text if it is a necklace, else none. -/
def gT (s : ByteArray) : ByteArray := if goodS s = true then s else ⟨#[]⟩
theorem gT_yes {s : ByteArray} (h : goodS s = true) : gT s = s := by simp [gT, h]
theorem gT_no {s : ByteArray} (h : goodS s = false) : gT s = ⟨#[]⟩ := by simp [gT, h]
set_option maxHeartbeats 1600000 in
theorem neckOf_any (s : ByteArray) (w : World) :
    Calls Try.prog 44 #[.string s] w fun e w' => e = .returned (.tuple #[.string (gT s), .bool (goodS s)]) ∧ w = w' := by
  by_cases hbig : s.size ≤ 16
  · have HNO := Lib.hid (goodS_no s)
    have HYES := Lib.hid (goodS_yes s hbig)
    have HGET := Lib.hid (byt_get s)
    have HLT := Lib.hid (byt_lt s)
    go_enter Try.func44, Try.ntmps44
    go_wp2_with fail
    go_loop [10] (fun v10 => ∃ i : Nat, i ≤ s.size ∧ v10 = .int .i64 i ∧ ∀ j, j < i → okB s j = true) (fun v10 => s.size - (intOf v10).toNat)
    case atStart => exact ⟨0, by omega, rfl, by omega⟩
    case round =>
      obtain ⟨i, hi, rfl, hall⟩ := hrel
      have HA := Lib.hid hall
      clear hall
      by_cases hlt : i < s.size
      · have hii : (i : Int) < (s.size : Int) := by omega
        have hgt := HGET.out i hlt
        have hc := HLT.out i
        have HN := Lib.hid (HNO.out i hlt)
        have HT : Hid (okB s i = true → ∀ j, j < i + 1 → okB s j = true) := Lib.hid (fun hx j hj => by
          by_cases e : j = i
          · rw [e]; exact hx
          · exact HA.out j (by omega))
        have HK := Lib.hid (idxKind_any (byt s i) hc)
        by_cases h1 : 97 ≤ byt s i ∧ byt s i ≤ 100
        · have HX := Lib.hid (HT.out (okB_iff.2 h1))
          rw [idxK_pos h1] at HK
          generalize byt s i = c at *
          have h2 : ¬ (c : Int) - 97 < 0 := by omega
          go_wp2_with fail
          refine (HK.out _).mono ?_
          rintro e w' ⟨rfl, rfl⟩
          go_wp2_with fail
          go_round
          case rel => exact ⟨i + 1, by omega, by go_num, HX.out⟩
          case measure => simp [intOf]; omega
        · have HX := Lib.hid (HN.out (by cases h : okB s i; rfl; exact absurd (okB_iff.1 h) h1))
          rw [idxK_neg h1] at HK
          generalize byt s i = c at *
          go_wp2_with fail
          refine (HK.out _).mono ?_
          rintro e w' ⟨rfl, rfl⟩
          go_wp2_with fail
          go_returns
          exact ⟨by rw [gT_no HX.out, HX.out]; rfl, by first | rfl | assumption⟩
      · have hii : ¬ (i : Int) < (s.size : Int) := by omega
        have HX := Lib.hid (HYES.out (fun j hj => HA.out j (by omega)))
        go_wp2_with fail
        go_returns
        exact ⟨by rw [gT_yes HX.out, HX.out]; rfl, by first | rfl | assumption⟩
  · have HG := Lib.hid (goodS_big s hbig)
    go_enter Try.func44, Try.ntmps44
    go_wp2_with fail
    go_returns
    exact ⟨by rw [gT_no HG.out, HG.out]; rfl, by first | rfl | assumption⟩
end Go.Proofs.Ytokhpchnnilbaaa
