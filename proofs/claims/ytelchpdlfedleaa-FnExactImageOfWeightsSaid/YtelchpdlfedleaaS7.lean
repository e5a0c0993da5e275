import Derived.BigQuiet
import Derived.Test.YtelchpdlfedleaaS2
namespace Go.Proofs.Ytelchpdlfedleaa
open Go.RowKit
set_option maxRecDepth 4000
theorem cnt21m (n : Nat) (h : n ≤ 5) : Pr.cnt n ≤ 21 := by
  have : ∀ n, n < 6 → Pr.cnt n ≤ 21 := by decide
  exact this n (by omega)
theorem pq_cell (n i : Nat) (W : World) (j : Nat) (hj : j < 3) : (W.alloc (.cells #[.int .i64 ((n : Int) - (Pr.R i : Nat)), .int .i64 ((Pr.R i : Int) - (Pr.C i : Nat)), .int .i64 (Pr.C i : Nat)] 3)).cell? ⟨W.heap.size, j, none⟩ = some (.int .i64 (pq n i j)) := by
  rw [cell_of_row _ _ _ _ _ (0, 0) (heap_alloc_new W _)]
  match j, hj with
  | 0, _ => rfl
  | 1, _ => rfl
  | 2, _ => rfl
theorem lbM_at (im : List (List Int)) (n i k : Nat) (hk : k < 3) (h : ∀ j, j < k → 3 * pq n i j ≤ iq im i j) (h2 : iq im i k < 3 * pq n i k) : lbM im n i = k := by
  rw [lbM, lbl_at _ _ k hk h h2]
theorem lbM_none (im : List (List Int)) (n i : Nat) (h : ∀ j, j < 3 → 3 * pq n i j ≤ iq im i j) (k : Nat) (hk : k < 3) (hz : ∀ j, j < k → pq n i j = 0) (h2 : pq n i k ≠ 0) : lbM im n i = k := by
  rw [lbM, lbl_none _ _ h k hk hz h2]
set_option maxHeartbeats 3200000 in
theorem fxLabels_any (n : Nat) (h1 : 1 ≤ n) (h2 : n ≤ 5) (im : List (List Int)) (hy : imB n im = true) (a : Option Addr) (cap : Nat) (w : World) (h : RdSS w w.heap.size a im) :
    Calls Try.prog 51 #[.int .i64 n, .slice a im.length cap] w fun e w' => ∃ v, e = .returned v ∧ OI w' w.heap.size w'.heap.size v (lbL im n) ∧ Below w.heap.size w w' := by
  have hcn := cnt21m n h2
  obtain ⟨hl, hrows⟩ := imB_at hy
  have hl21 : im.length ≤ 21 := by omega
  have HRD := Lib.hid h
  have HL := Lib.hid hl
  have HP3 : Hid (∀ k, k < im.length → (im.getD k []).length = 3) := Lib.hid (fun k hk => (ptI_at (hrows k hk)).1)
  have HQ : Hid (∀ k, k < im.length → ∀ j, j < 3 → 0 ≤ iq im k j ∧ iq im k j ≤ 15) := Lib.hid (fun k hk j hj => by have := iq_bd hy k j (by omega) hj; omega)
  have HP : Hid (∀ k, k < im.length → ∀ j, j < 3 → 0 ≤ pq n k j ∧ pq n k j ≤ 5) := Lib.hid (fun k hk j hj => by have := pq_bd n k j (by omega) (by omega) hj; omega)
  have HCL : Hid (lbL im n = (List.range (Pr.cnt n)).map (lbM im n)) := Lib.hid rfl
  have HSUC : Hid (∀ k, (List.range (k + 1)).map (lbM im n) = (List.range k).map (lbM im n) ++ [lbM im n k]) := Lib.hid (fun k => by rw [List.range_succ, List.map_append]; rfl)
  have HLN : Hid (∀ k, ((List.range k).map (lbM im n)).length = k) := Lib.hid (fun k => by simp)
  clear h hy hrows hl
  go_enter Try.func51, Try.ntmps51
  go_wp2_with fail
  go_loopw [5, 12] (fun v5 v12 wr => ∃ k : Nat, k ≤ im.length ∧ v12 = .int .i64 k ∧ wr.ownsRow w.heap.size 3 1 v5 ((List.range k).map (lbM im n)).length (((List.range k).map (lbM im n)).map (Value.int .i64)) ∧ Below w.heap.size w wr) (fun _ v12 _ => im.length - (intOf v12).toNat)
  case atStart => exact ⟨0, Nat.zero_le _, rfl, World.ownsRow_nil _ _ _ _, Below.refl _ _⟩
  case round =>
    obtain ⟨k, hk, rfl, ho, hb⟩ := hrel
    obtain ⟨wq, rfl⟩ : ∃ wq : World, wq = wr := ⟨_, rfl⟩
    by_cases hlt : k < im.length
    · have hki : (k : Int) < (im.length : Int) := by omega
      obtain ⟨-, b, off, hrow⟩ := rdss_later HRD.out hb
      obtain ⟨ha, hbl, ra, rc, c1, hr⟩ := hrow k hlt
      subst ha
      have h3 := HP3.out k hlt
      obtain ⟨rb, ro, hr2, hrb⟩ := hr
      rw [h3] at c1 hrb
      have hrb' : rb < w.heap.size := by omega
      have hra := (hr2.2 0 (by omega)).1
      subst hra
      have HCI : Hid (∀ j, j < 3 → wq.cell? ⟨rb, ro + j, none⟩ = some (.int .i64 (iq im k j))) := Lib.hid (fun j hj => (hr2.2 j (by omega)).2)
      have HQk := Lib.hid (HQ.out k hlt)
      have HPk := Lib.hid (HP.out k hlt)
      have HV1 := Lib.hid (lbM_at im n k)
      have HV2 := Lib.hid (lbM_none im n k)
      have HSM := Lib.hid (pq_sum n k)
      have HCP := Lib.hid (pq_cell n k wq)
      have hs1 := HSUC.out k
      have hlk := HLN.out k
      have HS1 := Lib.hid hs1
      have hz := hb.size
      have hk45 : k < 45 := by omega
      clear hs1 hrow hr2
      generalize (List.range k).map (lbM im n) = L at *
      generalize iq im k = q at *
      generalize pq n k = p at *
      generalize lbM im n k = lv at *
      go_wp2_with fail
      refine (meAt_any n k h1 (by omega) hk45 _).mono ?_
      rintro e w2 ⟨rfl, hw2⟩
      have hB2 : Below wq.heap.size wq w2 := by rw [hw2]; exact balloc (Below.refl _ _) _
      have HC1 : Hid (∀ j, j < 3 → w2.cell? ⟨rb, ro + j, none⟩ = some (.int .i64 (q j))) := Lib.hid (fun j hj => (hB2.cell (p := ⟨rb, ro + j, none⟩) (by show rb < wq.heap.size; omega)).trans (HCI.out j hj))
      have HC2 : Hid (∀ j, j < 3 → w2.cell? ⟨wq.heap.size, j, none⟩ = some (.int .i64 (p j))) := Lib.hid (fun j hj => by rw [hw2]; exact HCP.out j hj)
      have ho2 := own_now ho hB2
      have hbw := bnext hb hB2
      clear hw2 ho hb HCI HCP c1
      go_wp2_with fail
      go_loopw [9] (fun v9 wr => ∃ j : Nat, j ≤ 3 ∧ v9 = .int .i64 j ∧ Same w2 wr ∧ ∀ i, i < j → 3 * p i ≤ q i) (fun v9 _ => 3 - (intOf v9).toNat)
      case atStart => exact ⟨0, by omega, rfl, Same.refl _, by omega⟩
      case round =>
        obtain ⟨j, hj, rfl, hs, hall⟩ := hrel
        have HA := Lib.hid hall
        clear hall
        by_cases hlt3 : j < 3
        · have hj3 : (j : Int) < 3 := by omega
          have cq := (hs.cell ⟨rb, ro + j, none⟩).trans (HC1.out j hlt3)
          have cp := (hs.cell ⟨wq.heap.size, j, none⟩).trans (HC2.out j hlt3)
          obtain ⟨q0, q1⟩ := HQk.out j hlt3
          obtain ⟨p0, p1⟩ := HPk.out j hlt3
          by_cases hge : 3 * p j ≤ q j
          · have HX : Hid (∀ i, i < j + 1 → 3 * p i ≤ q i) := Lib.hid (fun i hi => by
              by_cases e : i = j
              · rw [e]; exact hge
              · exact HA.out i (by omega))
            generalize q j = qj at *
            generalize p j = pj at *
            go_wp2_with fail
            go_quiet (fail)
            go_wp2
            go_roundw
            case rel => exact ⟨j + 1, by omega, by go_num, hs.drewN _, HX.out⟩
            case measure => simp [intOf]; omega
          · have HE : Hid (lv = j) := Lib.hid (HV1.out j hlt3 HA.out (by omega))
            have hgF : decide (3 * p j ≤ q j) = false := by simpa using hge
            have hj3F : ((j : Int) == 3) = false := by simp; omega
            generalize q j = qj at *
            generalize p j = pj at *
            go_wp2_with fail
            go_quiet (fail)
            obtain ⟨w3, hw3⟩ : ∃ w3, w3 = wr.drewN nq := ⟨_, rfl⟩
            have hS3 : Same w2 w3 := by rw [hw3]; exact hs.drewN _
            have ho3 := own_now ho2 (hS3 w2.heap.size)
            have hB3 : Below w.heap.size w w3 := hbw.trans (hS3 _)
            have hz3 := hB3.size
            rw [← hw3]
            clear hw3 ho2
            go_wp2_with (at_builtin; refine append_int w.heap.size _ _ L _ rfl _ _ rfl rfl rfl ho3 hz3 (by omega) ?_; intro v' w6 ho6 hb6)
            go_roundw
            case rel => first | exact ⟨k + 1, by omega, by go_num, by rw [HS1.out, HE.out]; exact ho6, hB3.trans hb6⟩ | ((repeat apply Exists.intro); exact ⟨⟨k + 1, by omega, by go_num, by rw [HS1.out, HE.out]; exact ho6, hB3.trans hb6⟩, rfl⟩)
            case measure => simp [intOf]; omega
        · have hj3 : j = 3 := by omega
          subst hj3
          have HV3 := Lib.hid (HV2.out HA.out)
          clear HV1 HV2 HQk
          go_wp2_with fail
          go_quiet (fail)
          obtain ⟨w3, hw3⟩ : ∃ w3, w3 = wr.drewN nq := ⟨_, rfl⟩
          have hS3 : Same w2 w3 := by rw [hw3]; exact hs.drewN _
          rw [← hw3]
          clear hw3 hs
          go_wp2_with fail
          go_loopw [9] (fun v9 wr => ∃ j : Nat, j < 3 ∧ v9 = .int .i64 j ∧ Same w2 wr ∧ ∀ i, i < j → p i = 0) (fun v9 _ => 3 - (intOf v9).toNat)
          case atStart => exact ⟨0, by omega, rfl, hS3, by omega⟩
          case round =>
            clear hS3
            obtain ⟨j, hj, rfl, hs, hall⟩ := hrel
            have HZ := Lib.hid hall
            clear hall
            have cp := (hs.cell ⟨wq.heap.size, j, none⟩).trans (HC2.out j hj)
            by_cases hp0 : p j = 0
            · have hj2 : j + 1 < 3 := by
                rcases (by omega : j = 0 ∨ j = 1 ∨ j = 2) with rfl | rfl | rfl
                · omega
                · omega
                · have a0 := HZ.out 0 (by omega)
                  have a1 := HZ.out 1 (by omega)
                  have := HSM.out
                  omega
              have HX : Hid (∀ i, i < j + 1 → p i = 0) := Lib.hid (fun i hi => by
                by_cases e : i = j
                · rw [e]; exact hp0
                · exact HZ.out i (by omega))
              rw [hp0] at cp
              have hji : (j : Int) < 3 := by omega
              go_wp2_with fail
              go_roundw
              case rel => exact ⟨j + 1, hj2, by go_num, hs, HX.out⟩
              case measure => simp [intOf]; omega
            · have HE : Hid (lv = j) := Lib.hid (HV3.out j hj HZ.out hp0)
              have hpF : (p j == 0) = false := by simpa using hp0
              have hji : (j : Int) < 3 := by omega
              generalize p j = pj at *
              have ho3 := own_now ho2 (hs w2.heap.size)
              have hB3 : Below w.heap.size w wr := hbw.trans (hs _)
              have hz3 := hB3.size
              clear ho2
              go_wp2_with (at_builtin; refine append_int w.heap.size _ _ L _ rfl _ _ rfl rfl rfl ho3 hz3 (by omega) ?_; intro v' w6 ho6 hb6)
              go_roundw
              case rel => first | exact ⟨k + 1, by omega, by go_num, by rw [HS1.out, HE.out]; exact ho6, hB3.trans hb6⟩ | ((repeat apply Exists.intro); exact ⟨⟨k + 1, by omega, by go_num, by rw [HS1.out, HE.out]; exact ho6, hB3.trans hb6⟩, rfl⟩)
              case measure => simp [intOf]; omega
    · have hk2 : k = Pr.cnt n := by have := HL.out; omega
      subst hk2
      rw [← HCL.out] at ho
      go_wp2_with fail
      go_ret
      exact ⟨_, rfl, ⟨_, ho, own_lt ho⟩, hb⟩
end Go.Proofs.Ytelchpdlfedleaa
