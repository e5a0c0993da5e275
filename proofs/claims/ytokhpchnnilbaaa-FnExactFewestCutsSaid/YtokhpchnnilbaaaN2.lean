import Derived.RegionTactic
import Derived.Test.YtokhpchnnilbaaaN1
import Derived.Test.YtokhpchnnilbaaaZa
namespace Go.Proofs.Ytokhpchnnilbaaa
open Go.RowKit
set_option maxRecDepth 4000
theorem n4_at {w : World} {base g : Nat} {L : List Int} (h : w.ownsRow base 3 1 (.slice (some ⟨g, 0, none⟩) 4 4) 4 (L.map (Value.int .i64))) (k : Nat) (hk : k < 4) (hL : L.length = 4) : w.cell? ⟨g, k, none⟩ = some (.int .i64 (L.getD k 0)) := by
  rw [h.cellAt k (by omega), List.getElem?_map, List.getElem?_eq_getElem (by omega), List.getD_eq_getElem?_getD, List.getElem?_eq_getElem (by omega)]
  rfl
theorem n4_put {w : World} {base g : Nat} {L : List Int} (h : w.ownsRow base 3 1 (.slice (some ⟨g, 0, none⟩) 4 4) 4 (L.map (Value.int .i64))) (k : Nat) (x : Int) : (w.setCell ⟨g, k, none⟩ (.int .i64 x)).ownsRow base 3 1 (.slice (some ⟨g, 0, none⟩) 4 4) 4 ((L.set k x).map (Value.int .i64)) := by
  rw [List.map_set]
  exact (h.stored k (.int .i64 x)).1
/-- How many of the first m beads are of kind k. -/
def cnt (s : ByteArray) : Nat → Nat → Nat
  | 0, _ => 0
  | m + 1, k => cnt s m k + if kd s m = k then 1 else 0
def cL (f : Nat → Nat) : List Int := [(f 0 : Int), f 1, f 2, f 3]
theorem cnt_le (s : ByteArray) (m k : Nat) : cnt s m k ≤ m := by
  induction m with
  | zero => exact Nat.le_refl _
  | succ m ih => simp only [cnt]; split <;> omega
theorem cL_at (f : Nat → Nat) (k : Nat) (hk : k < 4) : (cL f).getD k 0 = (f k : Int) := by
  rcases (by omega : k = 0 ∨ k = 1 ∨ k = 2 ∨ k = 3) with rfl | rfl | rfl | rfl <;> rfl
theorem cL_set (f : Nat → Nat) (k : Nat) (hk : k < 4) : (cL f).set k ((f k : Int) + 1) = cL (fun j => f j + if k = j then 1 else 0) := by
  rcases (by omega : k = 0 ∨ k = 1 ∨ k = 2 ∨ k = 3) with rfl | rfl | rfl | rfl <;> simp [cL]
theorem cnt_set (s : ByteArray) (m : Nat) (hk : kd s m < 4) : (cL (cnt s m)).set (kd s m) ((cnt s m (kd s m) : Int) + 1) = cL (cnt s (m + 1)) := cL_set _ _ hk
theorem cL_len (f : Nat → Nat) : (cL f).length = 4 := rfl
theorem intInfo9 : (Try.prog.info? 3).map (fun i => (i.zero, i.size, i.bytes)) = some (some (.int .i64 0), 1, 8) := by kernel_rfl
set_option maxHeartbeats 3200000 in
theorem nlCounts_any (s : ByteArray) (hg : goodS s = true) (w : World) :
    Calls Try.prog 47 #[.string s] w fun e w' => ∃ v, e = .returned v ∧ OI w' w.heap.size w'.heap.size v (cL (cnt s s.size)) ∧ Below w.heap.size w w' := by
  obtain ⟨h16, hb⟩ := goodS_at hg
  have HB := Lib.hid hb
  have HGET := Lib.hid (byt_get s)
  have HAT := Lib.hid (fun m => cL_at (cnt s m))
  have HSET := Lib.hid (cnt_set s)
  have HLE := Lib.hid (cnt_le s)
  have HLT := Lib.hid (byt_lt s)
  clear hg hb
  obtain ⟨i0, hi, hz0, hz1, hz2⟩ := info_parts intInfo9
  go_enter Try.func47, Try.ntmps47
  go_wp2_with (at_make; refine wpList_make_full _ rfl _ _ 25 rfl w.heap.size 3 i0 (.int .i64 0) 1 Try.underlying25 hi hz0 hz1 _ _ _ _ 4 rfl rfl ?hC ?hL ?hb2 ?hb3 ?hb4 ?_)
  case hC => rfl
  case hL => rfl
  case hb2 => rw [hz2]; omega
  case hb3 => unfold maxLen; omega
  case hb4 => exact Nat.le_refl _
  intro w1 ho1 hg1
  have ho1' : w1.ownsRow w.heap.size 3 1 (.slice (some ⟨w.heap.size, 0, none⟩) 4 4) 4 ((cL (cnt s 0)).map (Value.int .i64)) := by
    have e : (madeCells #[Value.int .i64 0] 4).toList = [.int .i64 0, .int .i64 0, .int .i64 0, .int .i64 0] := made_ints' 4
    rw [e] at ho1
    exact ho1
  have hB1 : Below w.heap.size w w1 := (Below.refl _ _).grown hg1 (Nat.le_refl _) (fun k hk => by cases hk)
  clear ho1 hg1
  go_wp2_with fail
  go_loopw [4] (fun v4 wr => ∃ i : Nat, i ≤ s.size ∧ v4 = .int .i64 i ∧ wr.ownsRow w.heap.size 3 1 (.slice (some ⟨w.heap.size, 0, none⟩) 4 4) 4 ((cL (cnt s i)).map (Value.int .i64)) ∧ Below w.heap.size w wr) (fun v4 _ => s.size - (intOf v4).toNat)
  case atStart => exact ⟨0, Nat.zero_le _, rfl, ho1', hB1⟩
  case round =>
    clear ho1' hB1
    obtain ⟨i, hi, rfl, ho, hb⟩ := hrel
    obtain ⟨wq, rfl⟩ : ∃ wq : World, wq = wr := ⟨_, rfl⟩
    by_cases hlt : i < s.size
    · obtain ⟨b0, b1⟩ := HB.out i hlt
      have hgt := HGET.out i hlt
      obtain ⟨k, hk⟩ : ∃ k, k = kd s i := ⟨_, rfl⟩
      have hk4 : k < 4 := by rw [hk]; unfold kd; omega
      have hkb : byt s i = k + 97 := by rw [hk]; unfold kd; omega
      have hset := HSET.out i (by rw [← hk]; exact hk4)
      rw [← hk] at hset
      have hle := HLE.out i k
      have hat := HAT.out i k hk4
      rw [hkb] at hgt
      have ew : IntKind.u8.wrap (((k + 97 : Nat) : Int) - 97) = ((k + 97 : Nat) : Int) - 97 := wrap_u8 _ (by omega) (by omega)
      have o1 := n4_at ho k hk4 (cL_len _)
      rw [hat] at o1
      have f1 := ho.frozenAt k
      have hput := Lib.hid (n4_put ho k ((cnt s i k : Int) + 1))
      rw [hset] at hput
      have hbs := hb.setCell (p := ⟨w.heap.size, k, none⟩) (Nat.le_refl _) (.int .i64 ((cnt s i k : Int) + 1))
      have hii : (i : Int) < (s.size : Int) := by omega
      have hk4i : (k : Int) < 4 := by omega
      clear ho hb hset hat hk hkb
      generalize cnt s i k = q at *
      have e2 : wrap64 ((q : Int) + 1) = (q : Int) + 1 := IntWalk.wrap64_in _ ⟨by omega, by omega⟩
      have ek : ((k + 97 : Nat) : Int) - 97 = (k : Int) := by omega
      go_wp2_with fail
      go_roundw
      case rel => exact ⟨i + 1, by omega, by go_num, hput.out, hbs⟩
      case measure => simp [intOf]; omega
    · have hi3 : i = s.size := by omega
      have hii : ¬ (i : Int) < (s.size : Int) := by omega
      go_wp2_with fail
      go_ret
      exact ⟨_, rfl, by rw [← hi3]; exact ⟨_, ho, own_lt ho⟩, hb⟩
end Go.Proofs.Ytokhpchnnilbaaa
