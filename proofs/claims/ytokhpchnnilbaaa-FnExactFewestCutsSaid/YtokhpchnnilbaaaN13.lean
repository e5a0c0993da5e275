import Derived.Test.YtokhpchnnilbaaaN12
namespace Go.Proofs.Ytokhpchnnilbaaa
open Go.RowKit
set_option maxRecDepth 4000
set_option maxHeartbeats 3200000 in
theorem nlWindow_any (s : ByteArray) (hg : goodS s = true) (st l : Nat) (hst : st < s.size) (hll : l ≤ s.size) (w : World) :
    Calls Try.prog 65 #[.string s, .int .i64 st, .int .i64 l] w fun e w' => ∃ v, e = .returned v ∧ OI w' w.heap.size w'.heap.size v (cL (wcnt s st l)) ∧ Below w.heap.size w w' := by
  obtain ⟨h16, hb⟩ := goodS_at hg
  have HB := Lib.hid hb
  have HGET := Lib.hid (byt_get s)
  have HAT := Lib.hid (fun m => cL_at (wcnt s st m))
  have HSET := Lib.hid (wcnt_set s st)
  have HLE := Lib.hid (wcnt_le s st)
  clear hg hb
  obtain ⟨i0, hi, hz0, hz1, hz2⟩ := info_parts intInfo9
  go_enter Try.func65, Try.ntmps65
  go_wp2_with (at_make; refine wpList_make_full _ rfl _ _ 25 rfl w.heap.size 3 i0 (.int .i64 0) 1 Try.underlying25 hi hz0 hz1 _ _ _ _ 4 rfl rfl ?hC ?hL ?hb2 ?hb3 ?hb4 ?_)
  case hC => rfl
  case hL => rfl
  case hb2 => rw [hz2]; omega
  case hb3 => unfold maxLen; omega
  case hb4 => exact Nat.le_refl _
  intro w1 ho1 hg1
  have ho1' : w1.ownsRow w.heap.size 3 1 (.slice (some ⟨w.heap.size, 0, none⟩) 4 4) 4 ((cL (wcnt s st 0)).map (Value.int .i64)) := by
    have e : (madeCells #[Value.int .i64 0] 4).toList = [.int .i64 0, .int .i64 0, .int .i64 0, .int .i64 0] := made_ints' 4
    rw [e] at ho1
    exact ho1
  have hB1 : Below w.heap.size w w1 := (Below.refl _ _).grown hg1 (Nat.le_refl _) (fun k hk => by cases hk)
  clear ho1 hg1
  go_wp2_with fail
  go_loopw [8] (fun v8 wr => ∃ i : Nat, i ≤ l ∧ v8 = .int .i64 i ∧ wr.ownsRow w.heap.size 3 1 (.slice (some ⟨w.heap.size, 0, none⟩) 4 4) 4 ((cL (wcnt s st i)).map (Value.int .i64)) ∧ Below w.heap.size w wr) (fun v8 _ => l - (intOf v8).toNat)
  case atStart => exact ⟨0, Nat.zero_le _, rfl, ho1', hB1⟩
  case round =>
    clear ho1' hB1
    obtain ⟨i, hi, rfl, ho, hb⟩ := hrel
    obtain ⟨wq, hwq⟩ : ∃ wq : World, wq = wr := ⟨_, rfl⟩
    subst hwq
    by_cases hlt : i < l
    · obtain ⟨p, hp⟩ : ∃ p, p = (st + i) % s.size := ⟨_, rfl⟩
      have hps : p < s.size := by rw [hp]; exact Nat.mod_lt _ (by omega)
      obtain ⟨b0, b1⟩ := HB.out p hps
      have hps' : (st + i) % s.size < s.size := by rw [← hp]; exact hps
      have hgt := HGET.out ((st + i) % s.size) hps'
      obtain ⟨k, hk⟩ : ∃ k, k = kd s p := ⟨_, rfl⟩
      have hk4 : k < 4 := by rw [hk]; unfold kd; omega
      have hkb : byt s p = k + 97 := by rw [hk]; unfold kd; omega
      have hset := HSET.out i k (by rw [hk, hp]) hk4
      have hle := HLE.out i k
      have hat := HAT.out i k hk4
      rw [hp] at hkb
      rw [hkb] at hgt
      have ew : IntKind.u8.wrap (((k + 97 : Nat) : Int) - 97) = ((k + 97 : Nat) : Int) - 97 := wrap_u8 _ (by omega) (by omega)
      clear hp
      have hn0 : ¬ (s.size : Int) = 0 := by omega
      have o1 := n4_at ho k hk4 (cL_len _)
      rw [hat] at o1
      have f1 := ho.frozenAt k
      have hput := Lib.hid (n4_put ho k ((wcnt s st i k : Int) + 1))
      rw [hset] at hput
      have hbs := hb.setCell (p := ⟨w.heap.size, k, none⟩) (Nat.le_refl _) (.int .i64 ((wcnt s st i k : Int) + 1))
      have hii : (i : Int) < (l : Int) := by omega
      have hk4i : (k : Int) < 4 := by omega
      clear ho hb hset hat hk hkb
      generalize wcnt s st i k = q at *
      have ek : ((k + 97 : Nat) : Int) - 97 = (k : Int) := by omega
      have HE2 : Hid (wrap64 ((q : Int) + 1) = (q : Int) + 1) := Lib.hid (IntWalk.wrap64_in _ ⟨by omega, by omega⟩)
      clear HE2
      have hpl : ((st : Int) + (i : Int)) % (s.size : Int) < (s.size : Int) := Int.emod_lt_of_pos _ (by omega)
      have hp0 : 0 ≤ ((st : Int) + (i : Int)) % (s.size : Int) := Int.emod_nonneg _ hn0
      go_wp2_with fail
      clear hpl hp0
      go_roundw
      case rel => exact ⟨i + 1, by omega, by go_num, hput.out, hbs⟩
      case measure => simp [intOf]; omega
    · have hi3 : i = l := by omega
      have hii : ¬ (i : Int) < (l : Int) := by omega
      go_wp2_with fail
      go_ret
      exact ⟨_, rfl, by rw [← hi3]; exact ⟨_, ho, own_lt ho⟩, hb⟩
end Go.Proofs.Ytokhpchnnilbaaa
