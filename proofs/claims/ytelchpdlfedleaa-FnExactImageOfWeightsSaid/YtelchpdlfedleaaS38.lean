import Derived.LoopN
import Derived.RegionTactic
import Derived.Test.YtelchpdlfedleaaS37
namespace Go.Proofs.Ytelchpdlfedleaa
open Go.RowKit
set_option maxRecDepth 4000
def PtOk (P : Nat → Nat → Int) (cs : List (List Int)) : Prop := cs.length = 3 ∧ ∀ i, i < 3 → (cs.getD i []).length = 3 ∧ ∀ k, k < 3 → (cs.getD i []).getD k 0 = P i k
set_option maxHeartbeats 3200000 in
theorem fxMix_any (cs : List (List Int)) (xs : List Int) (P : Nat → Nat → Int) (hP : PtOk P cs) (hx : xs.length = 3) (hs : Small3 (wf xs) P) (a a2 : Option Addr) (cap cap2 : Nat) (w : World) (h : RdSS w w.heap.size a cs) (h2 : RdS w w.heap.size a2 xs) :
    Calls Try.prog 78 #[.slice a cs.length cap, .slice a2 xs.length cap2] w fun e w' => ∃ v, e = .returned v ∧ OI w' w.heap.size w'.heap.size v (mxr (wf xs) P 3 0) ∧ Below w.heap.size w w' := by
  obtain ⟨i0, hi, hz0, hz1, hz2⟩ := info_parts intInfo
  obtain ⟨hcl, hrow⟩ := hP
  obtain ⟨-, b, off, hc⟩ := h
  obtain ⟨b2, off2, hw, hwb⟩ := h2
  have HC : Hid (∀ i, i < 3 → a = some ⟨b, off, none⟩ ∧ b < w.heap.size ∧ ∃ ra rc rb ro, w.cell? ⟨b, off + i, none⟩ = some (.slice ra 3 rc) ∧ rb < w.heap.size ∧ ∀ k, k < 3 → ra = some ⟨rb, ro, none⟩ ∧ w.cell? ⟨rb, ro + k, none⟩ = some (.int .i64 (P i k))) := Lib.hid (fun i hi => by
    obtain ⟨e, hb, ra, rc, c1, rb, ro, hr, hrb⟩ := hc i (by omega)
    obtain ⟨l3, hp⟩ := hrow i hi
    rw [l3] at c1 hrb
    refine ⟨e, hb, ra, rc, rb, ro, c1, by omega, fun k hk => ?_⟩
    obtain ⟨e2, c2⟩ := hr.2 k (by omega)
    rw [hp k hk] at c2
    exact ⟨e2, c2⟩)
  have HW : Hid (∀ i, i < 3 → a2 = some ⟨b2, off2, none⟩ ∧ b2 < w.heap.size ∧ w.cell? ⟨b2, off2 + i, none⟩ = some (.int .i64 (wf xs i))) := Lib.hid (fun i hi => by
    obtain ⟨e2, c2⟩ := hw.2 i (by omega)
    exact ⟨e2, by omega, c2⟩)
  have HS := Lib.hid hs
  have HAB := Lib.hid (acc_bd hs)
  have HSB := Lib.hid (sum_bd hs)
  have HML := Lib.hid (mxr_len (wf xs) P)
  have HMA := Lib.hid (mxr_at (wf xs) P)
  have HMS := Lib.hid (mxr_set (wf xs) P)
  have HM3 := Lib.hid (mxr_sum (wf xs) P)
  have HME := Lib.hid (mxr_end (wf xs) P)
  have HM0 := Lib.hid (mxr_zero (wf xs) P)
  rw [hcl, hx]
  clear hc hrow hw hwb hs hcl
  have hxl := Lib.hid hx
  clear hx
  generalize wf xs = W at *
  go_enter Try.func78, Try.ntmps78
  go_wp2_with (at_make; refine wpList_make_full _ rfl _ _ 27 rfl w.heap.size 3 i0 (.int .i64 0) 1 Try.underlying27 hi hz0 hz1 _ _ _ _ 4 rfl rfl ?hC ?hL ?hb2 ?hb3 ?hb4 ?_)
  case hC => rfl
  case hL => rfl
  case hb2 => rw [hz2]; omega
  case hb3 => unfold maxLen; omega
  case hb4 => exact Nat.le_refl _
  intro w1 ho1 hg1
  have ho1' : w1.ownsRow w.heap.size 3 1 (.slice (some ⟨w.heap.size, 0, none⟩) 4 4) 4 ((mxr W P 0 0).map (Value.int .i64)) := by
    rw [HM0.out]
    have e : (madeCells #[Value.int .i64 0] 4).toList = [.int .i64 0, .int .i64 0, .int .i64 0, .int .i64 0] := made_ints' 4
    rw [e] at ho1
    exact ho1
  have hB1 : Below w.heap.size w w1 := (Below.refl _ _).grown hg1 (Nat.le_refl _) (fun k hk => by cases hk)
  clear ho1 hg1
  go_wp2_with fail
  go_loopw [13] (fun v13 wr => ∃ i : Nat, i ≤ 3 ∧ v13 = .int .i64 i ∧ wr.ownsRow w.heap.size 3 1 (.slice (some ⟨w.heap.size, 0, none⟩) 4 4) 4 ((mxr W P i 0).map (Value.int .i64)) ∧ Below w.heap.size w wr) (fun v13 _ => 3 - (intOf v13).toNat)
  case atStart => exact ⟨0, Nat.zero_le _, rfl, ho1', hB1⟩
  case round =>
    clear ho1' hB1
    obtain ⟨i, hi, rfl, ho, hb⟩ := hrel
    obtain ⟨wq, rfl⟩ : ∃ wq : World, wq = wr := ⟨_, rfl⟩
    by_cases hlt : i < 3
    · obtain ⟨rfl, hbl, ra, rc, rb, ro, c1, hrb, hp⟩ := HC.out i hlt
      obtain ⟨rfl, hbl2, g1⟩ := HW.out i hlt
      obtain ⟨rfl, -⟩ := hp 0 (by omega)
      have HP := Lib.hid (fun k hk => (hp k hk).2)
      have c1 := (hb.cell (p := ⟨b, off + i, none⟩) hbl).trans c1
      have hii : (i : Int) < 3 := by omega
      have HAi := Lib.hid (HMA.out i)
      have HSi := Lib.hid (HMS.out i)
      have HLi := Lib.hid (HML.out i)
      have hs3 := HM3.out i
      have HEi := Lib.hid (HME.out i)
      have HBi : Hid (∀ k, k < 3 → 0 ≤ accW W P i k ∧ accW W P i k ≤ 45000000) := Lib.hid (fun k hk => by have := HAB.out k hk i (by omega); omega)
      have hsb := HSB.out i (by omega)
      obtain ⟨⟨hw0, hw1⟩, hpb⟩ := HS.out i hlt
      have HPB := Lib.hid hpb
      have HG1 := Lib.hid g1
      clear hp hpb g1
      generalize W i = x at *
      generalize sumW W i = s at *
      go_wp2_with fail
      go_loopw [20] (fun v20 wr => ∃ k : Nat, k ≤ 3 ∧ v20 = .int .i64 k ∧ wr.ownsRow w.heap.size 3 1 (.slice (some ⟨w.heap.size, 0, none⟩) 4 4) 4 ((mxr W P i k).map (Value.int .i64)) ∧ Below w.heap.size w wr) (fun v20 _ => 3 - (intOf v20).toNat)
      case atStart => exact ⟨0, Nat.zero_le _, rfl, ho, hb⟩
      case round =>
        clear ho hb c1
        obtain ⟨k, hk, rfl, ho, hb⟩ := hrel
        obtain ⟨wm, rfl⟩ : ∃ wm : World, wm = wr := ⟨_, rfl⟩
        by_cases hltk : k < 3
        · have g1 := (hb.cell (p := ⟨b2, off2 + i, none⟩) hbl2).trans HG1.out
          have p1 := (hb.cell (p := ⟨rb, ro + k, none⟩) hrb).trans (HP.out k hltk)
          have o1 := own4_at ho k (by omega) (HLi.out k)
          rw [HAi.out k hltk] at o1
          have f1 := ho.frozenAt k
          obtain ⟨q0, q1⟩ := HBi.out k hltk
          obtain ⟨p0, p2⟩ := HPB.out k hltk
          have hkk : (k : Int) < 3 := by omega
          have hk4 : (k : Int) < 4 := by omega
          have hset := Lib.hid (HSi.out k hltk)
          have hput := Lib.hid (own4_put ho k (accW W P i k + x * P i k))
          rw [hset.out] at hput
          obtain ⟨m0, m1⟩ := prod_bd hw0 hw1 p0 p2
          have e1 : wrap64 (x * P i k) = x * P i k := IntWalk.wrap64_in _ ⟨by omega, by omega⟩
          have e2 : wrap64 (accW W P i k + x * P i k) = accW W P i k + x * P i k := IntWalk.wrap64_in _ ⟨by omega, by omega⟩
          have e3 : IntKind.i64.wrap (x * P i k) = x * P i k := IntWalk.i64_in _ ⟨by omega, by omega⟩
          have e4 : IntKind.i64.wrap (accW W P i k + x * P i k) = accW W P i k + x * P i k := IntWalk.i64_in _ ⟨by omega, by omega⟩
          have hbs := hb.setCell (p := ⟨w.heap.size, k, none⟩) (Nat.le_refl _) (.int .i64 (accW W P i k + x * P i k))
          clear ho hset
          go_wp2_with fail
          go_region
          go_wp2_with fail
          go_roundw
          case rel => exact ⟨k + 1, by omega, by go_num, hput.out, hbs.drew⟩
          case measure => simp [intOf]; omega
        · have hk3 : k = 3 := by omega
          subst hk3
          have g1 := (hb.cell (p := ⟨b2, off2 + i, none⟩) hbl2).trans HG1.out
          have o1 := own4_at ho 3 (by omega) (HLi.out 3)
          rw [hs3] at o1
          have f1 := ho.frozenAt 3
          have hput := Lib.hid (own4_put ho 3 (s + x))
          rw [HEi.out] at hput
          have e2 : wrap64 (s + x) = s + x := IntWalk.wrap64_in _ ⟨by omega, by omega⟩
          have e4 : IntKind.i64.wrap (s + x) = s + x := IntWalk.i64_in _ ⟨by omega, by omega⟩
          have hbs := hb.setCell (p := ⟨w.heap.size, 3, none⟩) (Nat.le_refl _) (.int .i64 (s + x))
          clear ho
          go_wp2_with fail
          go_region
          go_wp2_with fail
          go_roundw
          case rel => exact ⟨i + 1, by omega, by go_num, hput.out, hbs.drew⟩
          case measure => simp [intOf]; omega
    · have hi3 : i = 3 := by omega
      subst hi3
      go_wp2_with fail
      go_ret
      exact ⟨_, rfl, ⟨_, ho, own_lt ho⟩, hb⟩
end Go.Proofs.Ytelchpdlfedleaa
