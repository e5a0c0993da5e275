import Derived.Test.YtokhpchnnilbaaaN3
namespace Go.Proofs.Ytokhpchnnilbaaa
open Go.RowKit
set_option maxRecDepth 4000
open Go.Maps
theorem grown_set (w : World) (p : Addr) (u : Value) : w.grownBy (w.setCell p u) (some p.block) :=
  ⟨rfl, rfl, rfl, by simp [World.setCell], fun i _ hne => Below.heap_setCell _ _ _ i (fun e => hne (by rw [e]))⟩
theorem cnt_upd (s : ByteArray) (i : Nat) (k : Nat) (hk : kd s i = k) (j : Nat) : ((cnt s (i + 1) j : Nat) : Int) = upd (fun j => (cnt s i j : Int)) k 1 j := by
  simp only [cnt, upd, stc, hk]
  by_cases e : j = k
  · subst e; simp
  · have : ¬ k = j := fun h => e h.symm
    simp [e, this]
set_option maxHeartbeats 3200000 in
theorem beads_any (s : ByteArray) (hg : goodS s = true) (w : World) :
    Calls Try.prog 46 #[.string s] w fun e w' => e = .returned (.map (some w.heap.size)) ∧ IsB w' w.heap.size 16 (fun j => (cnt s s.size j : Int)) ∧ Below w.heap.size w w' := by
  obtain ⟨h16, hb⟩ := goodS_at hg
  have HB := Lib.hid hb
  have HGET := Lib.hid (byt_get s)
  have HLE := Lib.hid (cnt_le s)
  have HU := Lib.hid (cnt_upd s)
  clear hg hb
  have hmm := @run_makeMap Try.prog
  go_enter Try.func46, Try.ntmps46
  go_wp2_with fail
  go_loopw [8] (fun v8 wr => ∃ i : Nat, i ≤ s.size ∧ v8 = .int .i64 i ∧ IsB wr w.heap.size i (fun j => (cnt s i j : Int)) ∧ Below w.heap.size w wr) (fun v8 _ => s.size - (intOf v8).toNat)
  case atStart => exact ⟨0, Nat.zero_le _, rfl, isB_made w, balloc (Below.refl _ _) _⟩
  case round =>
    obtain ⟨i, hi, rfl, ho, hb⟩ := hrel
    obtain ⟨wq, rfl⟩ : ∃ wq : World, wq = wr := ⟨_, rfl⟩
    by_cases hlt : i < s.size
    · obtain ⟨b0, b1⟩ := HB.out i hlt
      have hgt := HGET.out i hlt
      obtain ⟨k, hk⟩ : ∃ k, k = kd s i := ⟨_, rfl⟩
      have hk4 : k < 4 := by rw [hk]; unfold kd; omega
      have hkb : byt s i = k + 97 := by rw [hk]; unfold kd; omega
      have hle := HLE.out i k
      rw [hkb] at hgt
      have HAdd := Lib.hid (add_any w.heap.size i _ k hk4 1 ⟨by omega, by omega⟩ (by omega) (by omega) wq ho)
      have HUi := Lib.hid (HU.out i k hk.symm)
      have hii : (i : Int) < (s.size : Int) := by omega
      clear ho hk hkb
      go_wp2_with fail
      refine HAdd.out.mono ?_
      rintro e w2 ⟨rfl, hb2, hg2⟩
      go_wp2_with fail
      go_roundw
      case rel => exact ⟨i + 1, by omega, by go_num, hb2.congr (fun j _ => HUi.out j), hb.grown hg2 hb.size (fun k hk => by cases hk; exact Nat.le_refl _)⟩
      case measure => simp [intOf]; omega
    · have hi3 : i = s.size := by omega
      have hii : ¬ (i : Int) < (s.size : Int) := by omega
      go_wp2_with fail
      go_ret
      exact ⟨rfl, by rw [← hi3]; exact ho.mono (by omega), hb⟩
end Go.Proofs.Ytokhpchnnilbaaa
