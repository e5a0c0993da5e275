import Derived.BigQuiet
import Derived.Test.YtelchpdlfedleaaS7
namespace Go.Proofs.Ytelchpdlfedleaa
open Go.RowKit
set_option maxRecDepth 4000
/-- The moves of some points. -/
def mrow (im : List (List Int)) (n i : Nat) : List Int := [mv im n i 0, mv im n i 1, mv im n i 2]
def mvs (im : List (List Int)) (n : Nat) (c : List Nat) : List (List Int) := c.map (mrow im n)
theorem mrow_take (im : List (List Int)) (n i : Nat) : (List.range 3).map (mv im n i) = mrow im n i := rfl
theorem mvs_next (im : List (List Int)) (n : Nat) (c : List Nat) (k : Nat) (hk : k < c.length) : mvs im n (c.take (k + 1)) = mvs im n (c.take k) ++ [mrow im n (c.getD k 0)] := by
  rw [mvs, mvs, List.take_add_one, List.map_append, List.getD_eq_getElem?_getD, List.getElem?_eq_getElem hk]
  rfl
set_option maxHeartbeats 3200000 in
theorem fxMoves_any (n : Nat) (h1 : 1 ≤ n) (h2 : n ≤ 5) (im : List (List Int)) (hy : imB n im = true) (c : List Nat) (hcl : c.length = 3) (hc : ∀ k, k < 3 → c.getD k 0 < Pr.cnt n) (a a2 : Option Addr) (cap cap2 b2 : Nat) (w : World) (h : RdSS w w.heap.size a im) (hrc : Rd w a2 b2 0 (c.map (fun (i : Nat) => (i : Int)))) (hb2 : b2 < w.heap.size) :
    Calls Try.prog 56 #[.int .i64 n, .slice a im.length cap, .slice a2 3 cap2] w fun e w' => ∃ v, e = .returned v ∧ CellsV w' w.heap.size v (mvs im n c) ∧ Below w.heap.size w w' := by
  have hcn := cnt21m n h2
  obtain ⟨hl, hrows⟩ := imB_at hy
  have hl21 : im.length ≤ 21 := by omega
  have HRD := Lib.hid h
  have HC : Hid (∀ k, k < 3 → c.getD k 0 < im.length ∧ c.getD k 0 < 21 ∧ a2 = some ⟨b2, 0, none⟩ ∧ w.cell? ⟨b2, k, none⟩ = some (.int .i64 (c.getD k 0 : Nat))) := Lib.hid (fun k hk => by
    obtain ⟨e1, e2⟩ := hrc.2 k (by simp; omega)
    have e3 : (c.map (fun (i : Nat) => (i : Int))).getD k 0 = ((c.getD k 0 : Nat) : Int) := by
      rw [List.getD_eq_getElem?_getD, List.getElem?_map, List.getD_eq_getElem?_getD, List.getElem?_eq_getElem (by omega)]; rfl
    rw [e3, Nat.zero_add] at e2
    exact ⟨by rw [hl]; exact hc k hk, by have := hc k hk; omega, e1, e2⟩)
  have HP3 : Hid (∀ i, i < im.length → (im.getD i []).length = 3) := Lib.hid (fun k hk => (ptI_at (hrows k hk)).1)
  have HQ : Hid (∀ k, k < im.length → ∀ j, j < 3 → 0 ≤ iq im k j ∧ iq im k j ≤ 15) := Lib.hid (fun k hk j hj => by have := iq_bd hy k j (by omega) hj; omega)
  have HP : Hid (∀ k, k < im.length → ∀ j, j < 3 → 0 ≤ pq n k j ∧ pq n k j ≤ 5) := Lib.hid (fun k hk j hj => by have := pq_bd n k j (by omega) (by omega) hj; omega)
  have HN := Lib.hid (fun k (hk : k < 3) => mvs_next im n c k (by omega))
  have HLN : Hid (∀ k, (mvs im n (c.take k)).length ≤ 3) := Lib.hid (fun k => by rw [mvs, List.length_map, List.length_take]; omega)
  have HALL : Hid (c.take 3 = c) := Lib.hid (List.take_of_length_le (by omega))
  have hz0 : (mvs im n (c.take 0)) = [] := by simp [mvs]
  have HZ0 := Lib.hid hz0
  clear h hy hrows hl hrc hc hcl hz0
  go_enter Try.func56, Try.ntmps56
  go_wp2_with fail
  go_loopw [7, 16] (fun v7 v16 wr => ∃ k : Nat, k ≤ 3 ∧ v16 = .int .i64 k ∧ CellsV wr w.heap.size v7 (mvs im n (c.take k)) ∧ Below w.heap.size w wr) (fun _ v16 _ => 3 - (intOf v16).toNat)
  case atStart => exact ⟨0, by omega, rfl, by rw [HZ0.out]; exact cells_nil _ _, Below.refl _ _⟩
  case round =>
    obtain ⟨k, hk, rfl, ho, hb⟩ := hrel
    obtain ⟨wq, rfl⟩ : ∃ wq : World, wq = wr := ⟨_, rfl⟩
    by_cases hlt : k < 3
    · have hki : (k : Int) < 3 := by omega
      obtain ⟨hil, hi21, rfl, ck⟩ := HC.out k hlt
      have ck := (hb.cell (p := ⟨b2, k, none⟩) hb2).trans ck
      have HNk := Lib.hid (HN.out k hlt)
      have hln := HLN.out k
      generalize c.getD k 0 = i at *
      obtain ⟨-, b, off, hrow⟩ := rdss_later HRD.out hb
      obtain ⟨ha, hbl, ra, rc, c1, hr⟩ := hrow i hil
      subst ha
      have h3 := HP3.out i hil
      obtain ⟨rb, ro, hr2, hrb⟩ := hr
      rw [h3] at c1 hrb
      have hrb' : rb < w.heap.size := by omega
      have hra := (hr2.2 0 (by omega)).1
      subst hra
      have HCI : Hid (∀ j, j < 3 → wq.cell? ⟨rb, ro + j, none⟩ = some (.int .i64 (iq im i j))) := Lib.hid (fun j hj => (hr2.2 j (by omega)).2)
      have HQk := Lib.hid (HQ.out i hil)
      have HPk := Lib.hid (HP.out i hil)
      have HCP := Lib.hid (pq_cell n i wq)
      have HMR := Lib.hid (mrow_take im n i)
      have HSUC : Hid (∀ k, (List.range (k + 1)).map (mv im n i) = (List.range k).map (mv im n i) ++ [iq im i k - 3 * pq n i k]) := Lib.hid (fun k => by rw [List.range_succ, List.map_append]; rfl)
      have HLK : Hid (∀ k, ((List.range k).map (mv im n i)).length = k) := Lib.hid (fun k => by simp)
      have hz := hb.size
      have hil' : (i : Int) < (im.length : Int) := by omega
      clear hrow hr2 h3
      generalize iq im i = q at *
      generalize pq n i = p at *
      go_wp2_with fail
      refine (meAt_any n i h1 (by omega) (by omega) _).mono ?_
      rintro e w2 ⟨rfl, hw2⟩
      have hB2 : Below wq.heap.size wq w2 := by rw [hw2]; exact balloc (Below.refl _ _) _
      have HC1 : Hid (∀ j, j < 3 → w2.cell? ⟨rb, ro + j, none⟩ = some (.int .i64 (q j))) := Lib.hid (fun j hj => (hB2.cell (p := ⟨rb, ro + j, none⟩) (by show rb < wq.heap.size; omega)).trans (HCI.out j hj))
      have HC2 : Hid (∀ j, j < 3 → w2.cell? ⟨wq.heap.size, j, none⟩ = some (.int .i64 (p j))) := Lib.hid (fun j hj => by rw [hw2]; exact HCP.out j hj)
      have hlt2 : wq.heap.size < w2.heap.size := by rw [hw2]; simp
      have c1 := (hB2.cell (p := ⟨b, off + i, none⟩) (by show b < wq.heap.size; omega)).trans c1
      have ho2 := cells_now ho hB2
      have hbw := bnext hb hB2
      have hzz := hbw.size
      clear hw2 ho hb HCI HCP ck hB2
      go_wp2_with fail
      go_loopw [11, 28] (fun v11 v28 wr => ∃ j : Nat, j ≤ 3 ∧ v28 = .int .i64 j ∧ wr.ownsRow w2.heap.size 3 1 v11 ((List.range j).map (mv im n i)).length (((List.range j).map (mv im n i)).map (Value.int .i64)) ∧ Below w2.heap.size w2 wr) (fun _ v28 _ => 3 - (intOf v28).toNat)
      case atStart => exact ⟨0, by omega, rfl, World.ownsRow_nil _ _ _ _, Below.refl _ _⟩
      case round =>
        obtain ⟨j, hj, rfl, ho, hb⟩ := hrel
        obtain ⟨wm, rfl⟩ : ∃ wm : World, wm = wr := ⟨_, rfl⟩
        by_cases hltj : j < 3
        · have hji : (j : Int) < 3 := by omega
          have cq := (hb.cell (p := ⟨rb, ro + j, none⟩) (by show rb < w2.heap.size; omega)).trans (HC1.out j hltj)
          have cp := (hb.cell (p := ⟨wq.heap.size, j, none⟩) hlt2).trans (HC2.out j hltj)
          obtain ⟨q0, q1⟩ := HQk.out j hltj
          obtain ⟨p0, p1⟩ := HPk.out j hltj
          have HS1 := Lib.hid (HSUC.out j)
          have hlj := HLK.out j
          have hzj := hb.size
          generalize (List.range j).map (mv im n i) = L at *
          generalize q j = qj at *
          generalize p j = pj at *
          go_wp2_with (at_builtin; refine append_int w2.heap.size _ _ L _ rfl _ _ rfl rfl rfl ho hzj (by omega) ?_; intro v' w6 ho6 hb6)
          go_roundw
          case rel => exact ⟨j + 1, by omega, by go_num, by rw [HS1.out]; exact ho6, hb.trans hb6⟩
          case measure => simp [intOf]; omega
        · have hj3 : j = 3 := by omega
          subst hj3
          rw [HMR.out] at ho
          obtain ⟨-, ua, uc, ub, rfl, -, -⟩ := own_shape ho
          have hB5 : Below w.heap.size w wm := hbw.trans (hb.mono hzz)
          go_wp2_with (at_builtin; refine append_row w.heap.size _ w2 wm _ _ (mvs im n (c.take k)) (mrow im n i) rfl _ _ rfl rfl rfl rfl ho2 hb ho rfl hzz (by omega) ?_; intro v' w5 hc5 hb5)
          go_roundw
          case rel => exact ⟨k + 1, by omega, by go_num, by rw [HNk.out]; exact hc5, hB5.trans hb5⟩
          case measure => simp [intOf]; omega
    · have hk3 : k = 3 := by omega
      subst hk3
      rw [HALL.out] at ho
      obtain ⟨va, vm, vc, rfl⟩ := cells_shape ho
      go_wp2_with fail
      go_ret
      exact ⟨_, rfl, ho, hb⟩
end Go.Proofs.Ytelchpdlfedleaa
