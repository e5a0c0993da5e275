import Derived.RegionTactic
import Derived.Test.YtncpnkcdjfohgaaDoorMd8
namespace Go.Proofs.YtncpnkcdjfohgaaDoor
open Go.RowKit
set_option maxRecDepth 4000
/-- A row with the costs taken off. -/
def cst (t : List Int) (c : Nat → Int) : List Int := [t.getD 0 0 - c 0, t.getD 1 0 - c 1, t.getD 2 0 - c 2]
theorem cst_take (t : List Int) (c : Nat → Int) (k : Nat) (hk : k < 3) : (cst t c).take (k + 1) = (cst t c).take k ++ [t.getD k 0 - c k] := by
  rcases (by omega : k = 0 ∨ k = 1 ∨ k = 2) with rfl | rfl | rfl <;> rfl
theorem cst_len (t : List Int) (c : Nat → Int) (k : Nat) (hk : k ≤ 3) : ((cst t c).take k).length = k := by simp [cst]; omega
def costP (n i q : Nat) : Int := (sz3 n i q : Nat)
theorem costP_bd (n i q : Nat) (h2 : n ≤ 8) (hi : i < Pr.cnt n) : 0 ≤ costP n i q ∧ costP n i q ≤ 8 := by
  have hc := (Pr.cnt_le n (by omega)).1
  have hR := Pr.R_le_of_lt n (by omega) i hi
  have hC := (Pr.RC_bd i (by omega)).1
  unfold costP sz3
  split <;> (try split) <;> (try split) <;> omega
def rnts (ts : List (List Int)) (n i : Nat) : List (List Int) := ts.map fun t => cst t (costP n i)
/-- What the rooms are worth, their costs taken off. -/
def rnW (ts : List (List Int)) (n i p q : Nat) : Int := rmW ts p q - costP n i q
theorem rnts_rows {ts : List (List Int)} (hy : rowsB 3 20 ts = true) (n i : Nat) (h2 : n ≤ 8) (hi : i < Pr.cnt n) : Rows3 (rnts ts n i) (rnW ts n i) := by
  obtain ⟨h3, hr⟩ := rowsB_at hy
  have hg : ∀ p, p < 3 → (rnts ts n i).getD p [] = cst (ts.getD p []) (costP n i) := fun p hp => by
    rw [rnts, List.getD_eq_getElem?_getD, List.getElem?_map, List.getD_eq_getElem?_getD, List.getElem?_eq_getElem (by omega)]
    rfl
  refine ⟨by simp [rnts, h3], fun p hp => by rw [hg p hp]; rfl, fun p hp q hq => ?_, fun p hp q hq => ?_⟩
  · rw [hg p hp]
    rcases (by omega : q = 0 ∨ q = 1 ∨ q = 2) with rfl | rfl | rfl <;> rfl
  · have := rmW_bd hy p q hp
    have := costP_bd n i q h2 hi
    unfold rnW
    omega
set_option maxHeartbeats 3200000 in
theorem ckCosts_any (n i : Nat) (h1 : 1 ≤ n) (h2 : n ≤ 8) (hi : i < Pr.cnt n) (ts : List (List Int)) (hy : rowsB 3 20 ts = true) (a : Option Addr) (cap : Nat) (w : World) (h : RdSS w w.heap.size a ts) :
    Calls Tryd.prog 50 #[.int .i64 n, .slice a ts.length cap, .int .i64 i] w fun e w' => ∃ v, e = .returned v ∧ CellsV w' w.heap.size v (rnts ts n i) ∧ Below w.heap.size w w' := by
  have hcn := (Pr.cnt_le n (by omega)).1
  have hR := Pr.R_le_of_lt n (by omega) i hi
  have hC := (Pr.RC_bd i (by omega)).1
  have HM := Lib.hid (fun w => meAt_any n i h1 h2 (by omega) w)
  have HSZ : Hid (∀ k, k < 3 → ([(n : Int) - (Pr.R i : Nat), (Pr.R i : Int) - (Pr.C i : Nat), (Pr.C i : Nat)] : List Int).getD k 0 = costP n i k) := Lib.hid (fun k hk => sz3_pt n i k hR hC hk)
  have HCB := Lib.hid (fun k => costP_bd n i k h2 hi)
  obtain ⟨hl3, hrow⟩ := rowsB_at hy
  have HROW := Lib.hid hrow
  have hb3 : ts.length ≤ 3 := by omega
  have HRD := Lib.hid h
  have HV : Hid (rnts ts n i = (ts.take ts.length).map fun t => cst t (costP n i)) := Lib.hid (by rw [List.take_length]; rfl)
  generalize costP n i = c at *
  have HS : Hid (∀ k, k < ts.length → (ts.take (k + 1)).map (fun t => cst t c) = (ts.take k).map (fun t => cst t c) ++ [cst (ts.getD k []) c]) := Lib.hid (fun k hk => by
    rw [List.take_add_one, List.map_append, List.getElem?_eq_getElem hk, List.getD_eq_getElem?_getD, List.getElem?_eq_getElem hk]; rfl)
  have HL : Hid (∀ k, k ≤ ts.length → ((ts.take k).map fun t => cst t c).length = k) := Lib.hid (fun k hk => by simp; omega)
  clear h hrow hy hl3 hR hC hcn
  generalize (n : Int) - (Pr.R i : Nat) = ea at *
  generalize (Pr.R i : Int) - (Pr.C i : Nat) = eb at *
  generalize ((Pr.C i : Nat) : Int) = ec at *
  go_enter Tryd.func50, Tryd.ntmps50
  go_wp2_with fail
  refine (HM.out _).mono ?_
  rintro e w1 ⟨rfl, hw1⟩
  have hz1 : w1.heap.size = w.heap.size + 1 := by rw [hw1]; simp
  have hg1 : w1.heap[w.heap.size]? = some (.cells #[.int .i64 ea, .int .i64 eb, .int .i64 ec] 3 (0, 0)) := by rw [hw1]; exact heap_alloc_new _ _
  have hb1 : Below w.heap.size w w1 := by rw [hw1]; exact balloc (Below.refl _ _) _
  clear hw1
  have HRD1 := Lib.hid (rdss_mono (rdss_later HRD.out hb1) hb1.size)
  have HG1 := Lib.hid hg1
  clear hg1
  go_wp2_with fail
  go_loopw [8, 19] (fun v8 v19 wr => ∃ k : Nat, k ≤ ts.length ∧ v19 = .int .i64 k ∧ CellsV wr w1.heap.size v8 ((ts.take k).map fun t => cst t c) ∧ Below w1.heap.size w1 wr) (fun _ v19 _ => ts.length - (intOf v19).toNat)
  case atStart => exact ⟨0, Nat.zero_le _, rfl, cells_nil _ _, Below.refl _ _⟩
  case round =>
    obtain ⟨k, hk, rfl, hc, hb⟩ := hrel
    obtain ⟨wq, rfl⟩ : ∃ wq : World, wq = wr := ⟨_, rfl⟩
    by_cases hlt : k < ts.length
    · obtain ⟨-, b, off, hr⟩ := rdss_later HRD1.out hb
      obtain ⟨ha, hbl, ra, rc, c1, rb, ro, hrd, hrb⟩ := hr k hlt
      subst ha
      have hki : (k : Int) < (ts.length : Int) := by omega
      have HS1 := Lib.hid (HS.out k hlt)
      have HLK := Lib.hid (HL.out k hk)
      obtain ⟨htl, hta⟩ := HROW.out k hlt
      have HTL := Lib.hid htl
      have HTB := Lib.hid (fun q => getD_bd (by omega) (by omega) hta q)
      have HRW := Lib.hid hrd
      have hsz := hb.size
      have hgq := (hb.block w.heap.size (by omega)).trans HG1.out
      have HGQ := Lib.hid hgq
      clear hr hrd htl hta hgq
      generalize (ts.take k).map (fun t => cst t c) = L at *
      generalize ts.getD k [] = t at *
      have HCT := Lib.hid (fun q hq => cst_take t c q hq)
      have HCL := Lib.hid (fun q hq => cst_len t c q hq)
      have HCF : Hid ((cst t c).take 3 = cst t c) := Lib.hid rfl
      have HC := Lib.hid hc
      clear hc
      go_wp2_with fail
      go_loopw [11, 25] (fun v11 v25 wr => ∃ q : Nat, q ≤ t.length ∧ v25 = .int .i64 q ∧ wr.ownsRow wq.heap.size 3 1 v11 ((cst t c).take q).length (((cst t c).take q).map (Value.int .i64)) ∧ Below wq.heap.size wq wr) (fun _ v25 _ => t.length - (intOf v25).toNat)
      case atStart => exact ⟨0, Nat.zero_le _, rfl, World.ownsRow_nil _ _ _ _, Below.refl _ _⟩
      case round =>
        obtain ⟨q, hq, rfl, ho, hbi⟩ := hrel
        obtain ⟨wi, rfl⟩ : ∃ wi : World, wi = wr := ⟨_, rfl⟩
        by_cases hltq : q < t.length
        · have hq3 : q < 3 := by have := HTL.out; omega
          obtain ⟨hra, cq⟩ := HRW.out.2 q hltq
          subst hra
          have hrb' : rb < wq.heap.size := by omega
          have cq' := (hbi.cell (p := ⟨rb, ro + q, none⟩) hrb').trans cq
          have hqi : (q : Int) < (t.length : Int) := by omega
          have hqi3 : (q : Int) < 3 := by omega
          have hgi := (hbi.block w.heap.size (by omega)).trans HGQ.out
          have cc := blk_cell hgi q (.int .i64 (([ea, eb, ec] : List Int).getD q 0)) (by rcases (by omega : q = 0 ∨ q = 1 ∨ q = 2) with rfl | rfl | rfl <;> rfl)
          rw [HSZ.out q hq3] at cc
          have hx := HTB.out q
          have hy := HCB.out q
          have HN := Lib.hid (HCT.out q hq3)
          have hln := HCL.out q (by omega)
          have hzi := hbi.size
          clear cq hgi
          generalize (cst t c).take q = R at *
          generalize t.getD q 0 = x at *
          generalize c q = y at *
          go_wp2_with (at_builtin; refine append_int wq.heap.size _ _ R _ rfl _ _ rfl rfl rfl ho hzi (by omega) ?_; intro v' w3 ho3 hb3)
          go_roundw
          case rel => first | exact ⟨q + 1, by omega, by go_num, by rw [HN.out]; exact ho3, hbi.trans hb3⟩ | ((repeat apply Exists.intro); exact ⟨⟨q + 1, by omega, by go_num, by rw [HN.out]; exact ho3, hbi.trans hb3⟩, rfl⟩)
          case measure => simp [intOf]; omega
        · have hq3 : q = 3 := by have := HTL.out; omega
          rw [hq3, HCF.out] at ho
          clear hq3
          obtain ⟨-, a2, c2, b2, rfl, -, -⟩ := own_shape ho
          generalize cst t c = r at *
          go_wp2_with (at_builtin; refine append_row w1.heap.size _ wq wi _ _ L r rfl _ _ rfl rfl rfl rfl HC.out hbi ho rfl hsz (by have := HLK.out; omega) ?_; intro v' w5 hc5 hb5)
          go_roundw
          case rel => first | exact ⟨k + 1, by omega, by go_num, by rw [HS1.out]; exact hc5, (bnext hb hbi).trans hb5⟩ | ((repeat apply Exists.intro); exact ⟨⟨k + 1, by omega, by go_num, by rw [HS1.out]; exact hc5, (bnext hb hbi).trans hb5⟩, rfl⟩)
          case measure => simp [intOf]; omega
    · have hk2 : k = ts.length := by omega
      subst hk2
      rw [← HV.out] at hc
      go_wp2_with fail
      go_ret
      exact ⟨_, rfl, cells_base hc (by omega), hb1.trans (hb.mono (by omega))⟩
end Go.Proofs.YtncpnkcdjfohgaaDoor
