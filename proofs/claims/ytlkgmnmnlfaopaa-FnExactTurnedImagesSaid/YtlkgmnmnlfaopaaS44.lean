import Derived.Test.YtlkgmnmnlfaopaaS43
import Derived.Test.YtlkgmnmnlfaopaaS2
import Derived.Test.YtlkgmnmnlfaopaaS4
namespace Go.Proofs.Ytlkgmnmnlfaopaa
open Go.RowKit
set_option maxRecDepth 4000
theorem rep_succ (i : Nat) (p : List Int) : List.replicate (i + 1) p = List.replicate i p ++ [p] := List.replicate_succ'
set_option maxHeartbeats 1600000 in
theorem specCI_yes (n : Nat) (h1 : 1 ≤ n) (h2 : n ≤ 5) (x y z : Int) (hp : ptI (3 * (n : Int)) [x, y, z] = true) (a : Option Addr) (cap : Nat) (w : World) (h : RdS w w.heap.size a [x, y, z]) :
    Calls Try.prog 49 #[.int .i64 n, .slice a 3 cap] w fun e w' => ∃ v, e = .returned (.tuple #[v, .bool true]) ∧ CellsV w' w.heap.size v (List.replicate (Pr.cnt n) [x, y, z]) ∧ Below w.heap.size w w' := by
  have HPT := Lib.hid (fun w' (hs : Same w w') => fxPoint_any n h2 [x, y, z] a cap _ w' (rds_same h hs))
  rw [hp] at HPT
  have HPT : Hid (∀ w', Same w w' → Calls Try.prog 86 #[.int .i64 n, .slice a 3 cap] w' fun e w'' => e = .returned (.bool true) ∧ Same w' w'') := HPT
  obtain ⟨b, off, hr, hrb⟩ := h
  have hbl : b < w.heap.size := by
    rcases hrb with e | e
    · simp at e
    · exact e
  obtain ⟨ha, c0⟩ := hr.2 0 (by simp)
  have c1 := (hr.2 1 (by simp)).2
  have c2 := (hr.2 2 (by simp)).2
  subst ha
  have HO := Lib.hid (fun w' (hb : Below w.heap.size w w') => l1Own3 x y z b off cap w' (Nat.lt_of_lt_of_le hbl hb.size) ((hb.cell (p := ⟨b, off, none⟩) hbl).trans c0) ((hb.cell (p := ⟨b, off + 1, none⟩) hbl).trans c1) ((hb.cell (p := ⟨b, off + 2, none⟩) hbl).trans c2))
  have hc21 := cnt21 n h2
  have HRS := Lib.hid (fun i => rep_succ i [x, y, z])
  have HRL : Hid (∀ i, (List.replicate i [x, y, z]).length = i) := Lib.hid (fun i => List.length_replicate)
  clear hp hr hrb c0 c1 c2 hbl
  go_enter Try.func49, Try.ntmps49
  go_wp2_with fail
  refine (fxSide_yes n ⟨by omega, by omega⟩ _).mono ?_
  rintro e w' ⟨rfl, rfl⟩
  go_wp2_with fail
  refine (HPT.out _ (Same.refl _)).mono ?_
  rintro e w1 ⟨rfl, hs⟩
  have hB1 := hs w.heap.size
  have hz1 := hB1.size
  clear hs
  go_wp2_with fail
  go_loopw [6, 7] (fun v6 v7 wr => ∃ i : Nat, i ≤ Pr.cnt n ∧ v7 = .int .i64 i ∧ CellsV wr w1.heap.size v6 (List.replicate i [x, y, z]) ∧ Below w1.heap.size w1 wr) (fun _ v7 _ => Pr.cnt n - (intOf v7).toNat)
  case atStart => exact ⟨0, Nat.zero_le _, rfl, cells_nil _ _, Below.refl _ _⟩
  case round =>
    obtain ⟨i, hi, rfl, ho, hb⟩ := hrel
    obtain ⟨wq, rfl⟩ : ∃ wq : World, wq = wr := ⟨_, rfl⟩
    by_cases hlt : i < Pr.cnt n
    · have hii : (i : Int) < (Pr.cnt n : Int) := by omega
      have HE := Lib.hid (HRS.out i)
      have hln := HRL.out i
      have hl2 : (List.replicate i [x, y, z]).length ≤ 21 := by omega
      clear hln
      have hzq := hb.size
      go_wp2_with fail
      refine (meCount_any n (by omega) _).mono ?_
      rintro e w' ⟨rfl, rfl⟩
      go_wp2_with fail
      refine (HO.out _ (bnext hB1 hb)).mono ?_
      rintro e w3 ⟨u, rfl, hu, hb3⟩
      obtain ⟨-, ua, uc, ub, rfl, -, -⟩ := own_shape hu
      go_wp2_with (at_builtin; refine append_row w1.heap.size _ _ w3 _ _ (List.replicate i [x, y, z]) [x, y, z] rfl _ _ rfl rfl rfl rfl ho hb3 hu rfl hzq (by omega) ?_; intro v' w5 hc5 hb5)
      go_roundw
      case rel => exact ⟨i + 1, by omega, by go_num, by rw [HE.out]; exact hc5, (hb.trans (hb3.mono hzq)).trans hb5⟩
      case measure => simp [intOf]; omega
    · have hi2 : i = Pr.cnt n := by omega
      rw [hi2] at ho ⊢
      clear hi2
      obtain ⟨va, vm, vc, rfl⟩ := cells_shape ho
      go_wp2_with fail
      refine (meCount_any n (by omega) _).mono ?_
      rintro e w' ⟨rfl, rfl⟩
      go_wp2_with fail
      go_returns
      exact ⟨_, rfl, cells_base ho hz1, bnext hB1 hb⟩
end Go.Proofs.Ytlkgmnmnlfaopaa
