import Derived.Test.YtokhpchnnilbaaaN23
namespace Go.Proofs.Ytokhpchnnilbaaa
open Go.RowKit
set_option maxRecDepth 4000
theorem oi_lo9c {w : World} {base lo : Nat} {v : Value} {xs : List Int} (h : w.ownsRow base 3 1 v xs.length (xs.map (Value.int .i64))) (hl : lo ≤ base) : OI w lo w.heap.size v xs := ⟨_, own_low9 h hl, own_lt h⟩
theorem nE_pos {s : ByteArray} {k : Nat} (h : nE s k = true) : 0 < (fcL s k).length := by simpa [nE] using h
theorem nE_neg {s : ByteArray} {k : Nat} (h : nE s k = false) : (fcL s k).length = 0 := by simpa [nE] using h
theorem head_getD (l : List (List Int)) : l.headD [] = l.getD 0 [] := by cases l <;> rfl
set_option maxHeartbeats 3200000 in
theorem nlFirst_any (s : ByteArray) (hg : goodS s = true) (K : Nat) (hK : K < 5) (h1 : nE s K = true) (hb : ∀ j, j < K → nE s j = false) (w : World) :
    Calls Try.prog 60 #[.string s] w fun e w' => ∃ v, e = .returned v ∧ OI w' w.heap.size w'.heap.size v ((fcL s K).headD []) ∧ Below w.heap.size w w' := by
  have HS : Hid (∀ k : Nat, k < 5 → ∀ w : World, Calls Try.prog 63 #[.string s, .slice none 0 0, .int .i64 (k : Nat)] w (SpV w (fcL s k))) := Lib.hid (fun k hk w => nlSplits_start s hg k (by omega) w)
  have HP := Lib.hid (nE_pos h1)
  have HN : Hid (∀ j, j < K → (fcL s j).length = 0) := Lib.hid (fun j hj => nE_neg (hb j hj))
  clear hg h1 hb
  go_enter Try.func60, Try.ntmps60
  go_wp2_with fail
  go_loopw [3] (fun v3 wr => ∃ k : Nat, k ≤ K ∧ v3 = .int .i64 (k : Nat) ∧ Below w.heap.size w wr) (fun v3 _ => 5 - (intOf v3).toNat)
  case atStart => exact ⟨0, Nat.zero_le _, rfl, Below.refl _ _⟩
  case round =>
    obtain ⟨k, hk, rfl, hb⟩ := hrel
    obtain ⟨wq, hwq⟩ : ∃ wq : World, wq = wr := ⟨_, rfl⟩
    subst hwq
    have hz := hb.size
    have HSk := Lib.hid (HS.out k (by omega) wq)
    by_cases hlt : k < K
    · have h0 := HN.out k hlt
      have hb0 : ¬ (0 : Int) < ((fcL s k).length : Int) := by omega
      have HB0 := Lib.hid hb0
      clear hb0 h0
      go_wp2_with fail
      refine HSk.out.mono ?_
      rintro e w1 ⟨v, rfl, -, hb1⟩
      have hb0 := HB0.out
      go_wp2_with fail
      clear hb0
      go_roundw
      case rel => exact ⟨k + 1, by omega, by go_num, hb.trans (hb1.mono hz)⟩
      case measure => simp [intOf]; omega
    · have hkk : k = K := by omega
      subst hkk
      have h0 := HP.out
      have hb0 : (0 : Int) < ((fcL s k).length : Int) := by omega
      have HB0 := Lib.hid hb0
      clear hb0 h0
      go_wp2_with fail
      refine HSk.out.mono ?_
      rintro e w1 ⟨v, rfl, ho, hb1⟩
      have HO : Hid (OI w1 w.heap.size w1.heap.size v ((fcL s k).headD [])) := Lib.hid (oi_lo9c ho hz)
      have hb0 := HB0.out
      clear ho
      go_wp2_with fail
      go_ret
      exact ⟨_, rfl, HO.out, hb.trans (hb1.mono hz)⟩
set_option maxHeartbeats 3200000 in
theorem firstSplit_yes (s : ByteArray) (hg : goodS s = true) (K : Nat) (hK : K < 5) (h1 : nE s K = true) (hb : ∀ j, j < K → nE s j = false) (w : World) :
    Calls Try.prog 61 #[.string s] w fun e w' => ∃ v, e = .returned (.tuple #[v, .bool true]) ∧ OI w' w.heap.size w'.heap.size v ((fcL s K).headD []) ∧ Below w.heap.size w w' := by
  have HS : Hid (∀ k : Nat, k < 5 → ∀ w : World, Calls Try.prog 64 #[.string s, .int .i64 (k : Nat)] w fun e w' => ∃ v, e = .returned v ∧ LS w' w.heap.size v (fcL s k) ∧ Below w.heap.size w w') := Lib.hid (fun k hk w => fairCuts_any s hg k (by omega) w)
  have HP := Lib.hid (nE_pos h1)
  have HN : Hid (∀ j, j < K → (fcL s j).length = 0) := Lib.hid (fun j hj => nE_neg (hb j hj))
  clear hg h1 hb
  go_enter Try.func61, Try.ntmps61
  go_wp2_with fail
  go_loopw [6] (fun v6 wr => ∃ k : Nat, k ≤ K ∧ v6 = .int .i64 (k : Nat) ∧ Below w.heap.size w wr) (fun v6 _ => 5 - (intOf v6).toNat)
  case atStart => exact ⟨0, Nat.zero_le _, rfl, Below.refl _ _⟩
  case round =>
    obtain ⟨k, hk, rfl, hb⟩ := hrel
    obtain ⟨wq, hwq⟩ : ∃ wq : World, wq = wr := ⟨_, rfl⟩
    subst hwq
    have hz := hb.size
    have HSk := Lib.hid (HS.out k (by omega) wq)
    have hk5 : (k : Int) < 5 := by omega
    by_cases hlt : k < K
    · have h0 := HN.out k hlt
      have HB0 : Hid (¬ (0 : Int) < ((fcL s k).length : Int)) := Lib.hid (by omega)
      clear h0
      go_wp2_with fail
      refine HSk.out.mono ?_
      rintro e w1 ⟨v, rfl, hl, hb1⟩
      obtain ⟨aO, capO, bO, vs, rfl, -⟩ := ls_read hl
      have hb0 := HB0.out
      clear hl
      go_wp2_with fail
      clear hb0
      go_roundw
      case rel => exact ⟨k + 1, by omega, by go_num, hb.trans (hb1.mono hz)⟩
      case measure => simp [intOf]; omega
    · have hkk : k = K := by omega
      subst hkk
      have h0 := HP.out
      have HB0 : Hid ((0 : Int) < ((fcL s k).length : Int)) := Lib.hid (by omega)
      go_wp2_with fail
      refine HSk.out.mono ?_
      rintro e w1 ⟨v, rfl, hl, hb1⟩
      obtain ⟨aO, capO, bO, vs, rfl, hrd⟩ := ls_read hl
      obtain ⟨rfl, hlo1, hhi1, c1, hrow, -, -⟩ := hrd 0 h0
      rw [← head_getD] at hrow
      have HO : Hid (OI w1 w.heap.size w1.heap.size (vs 0) ((fcL s k).headD [])) := Lib.hid (oi_lo9c hrow hz)
      have hb0 := HB0.out
      clear hl hrd hrow h0
      go_wp2_with fail
      go_returns
      exact ⟨_, rfl, HO.out, hb.trans (hb1.mono hz)⟩
set_option maxHeartbeats 3200000 in
theorem firstSplit_no (s : ByteArray) (hg : goodS s = true) (hb : ∀ j, j < 5 → nE s j = false) (w : World) :
    Calls Try.prog 61 #[.string s] w fun e w' => e = .returned (.tuple #[.slice none 0 0, .bool false]) ∧ Below w.heap.size w w' := by
  have HS : Hid (∀ k : Nat, k < 5 → ∀ w : World, Calls Try.prog 64 #[.string s, .int .i64 (k : Nat)] w fun e w' => ∃ v, e = .returned v ∧ LS w' w.heap.size v (fcL s k) ∧ Below w.heap.size w w') := Lib.hid (fun k hk w => fairCuts_any s hg k (by omega) w)
  have HN : Hid (∀ j, j < 5 → (fcL s j).length = 0) := Lib.hid (fun j hj => nE_neg (hb j hj))
  clear hg hb
  go_enter Try.func61, Try.ntmps61
  go_wp2_with fail
  go_loopw [6] (fun v6 wr => ∃ k : Nat, k ≤ 5 ∧ v6 = .int .i64 (k : Nat) ∧ Below w.heap.size w wr) (fun v6 _ => 5 - (intOf v6).toNat)
  case atStart => exact ⟨0, Nat.zero_le _, rfl, Below.refl _ _⟩
  case round =>
    obtain ⟨k, hk, rfl, hb⟩ := hrel
    obtain ⟨wq, hwq⟩ : ∃ wq : World, wq = wr := ⟨_, rfl⟩
    subst hwq
    have hz := hb.size
    by_cases hlt : k < 5
    · have HSk := Lib.hid (HS.out k hlt wq)
      have hk5 : (k : Int) < 5 := by omega
      have h0 := HN.out k hlt
      have HB0 : Hid (¬ (0 : Int) < ((fcL s k).length : Int)) := Lib.hid (by omega)
      clear h0
      go_wp2_with fail
      refine HSk.out.mono ?_
      rintro e w1 ⟨v, rfl, hl, hb1⟩
      obtain ⟨aO, capO, bO, vs, rfl, -⟩ := ls_read hl
      have hb0 := HB0.out
      clear hl
      go_wp2_with fail
      clear hb0
      go_roundw
      case rel => exact ⟨k + 1, by omega, by go_num, hb.trans (hb1.mono hz)⟩
      case measure => simp [intOf]; omega
    · have hk5 : ¬ (k : Int) < 5 := by omega
      go_wp2_with fail
      go_returns
      exact ⟨rfl, hb⟩
end Go.Proofs.Ytokhpchnnilbaaa
