import Derived.Test.YtjbdhgomcchoaaaCk
namespace Go.Proofs.Ytjbdhgomcchoaaa
open Go.RowKit
/-- Cells, three numbers each, that can be read. -/
def TRd (w : World) (a : Option Addr) (b : Nat) (xs : List Int) : Prop := ∀ j, j < xs.length → a = some ⟨b, 0, none⟩ ∧ w.cell? ⟨b, j, none⟩ = some (.int .i64 (xs.getD j 0))
theorem trio_shape {w : World} {base : Nat} {v : Value} {cs : List (List Int)} (h : TrioV w base v cs) :
    cs.flatten.length = cs.length * 3 ∧ ∃ a cap b, v = .slice a cs.length cap ∧ TRd w a b cs.flatten := by
  obtain ⟨h1, h2⟩ := h
  have hn : cs.flatten.length = cs.length * 3 := by rw [List.length_map] at h1; exact h1
  refine ⟨hn, ?_⟩
  rcases h2 with ⟨rfl, h0⟩ | ⟨g, cap, cur, rfl, hg, hh, hc, hm, hs, ht⟩
  · have : cs = [] := List.eq_nil_of_length_eq_zero h0
    subst this
    exact ⟨none, 0, 0, rfl, fun j hj => by simp at hj⟩
  · refine ⟨_, cap, g, rfl, fun j hj => ⟨rfl, ?_⟩⟩
    rw [cell_of_row w g j cur _ (0, 0) hh]
    have e : (cur.toList.take (cs.length * 3))[j]? = (cs.flatten.map (Value.int .i64))[j]? := by rw [ht]
    rw [List.getElem?_take, if_pos (by omega)] at e
    rw [← Array.getElem?_toList, e, List.getElem?_map, List.getD_eq_getElem?_getD, List.getElem?_eq_getElem hj]
    rfl
theorem cells_shape {w : World} {base : Nat} {v : Value} {cs : List (List Int)} (h : CellsV w base v cs) : ∃ a n cap, v = .slice a n cap := by
  obtain ⟨vs, hvs, -, -⟩ := h
  rcases hvs.2 with ⟨h, -⟩ | ⟨g, cap, cur, h, -⟩
  · exact ⟨_, _, _, h⟩
  · exact ⟨_, _, _, h⟩
theorem ci_at : ∀ n, n < 9 → ∀ k, k < (ci n).length → (ci n).getD k [] = [(ci n).flatten.getD (k * 3) 0, (ci n).flatten.getD (k * 3 + 1) 0, (ci n).flatten.getD (k * 3 + 2) 0] := by decide +kernel
set_option maxHeartbeats 1600000 in
theorem impl_cells (n : Nat) (h1 : 1 ≤ n) (h2 : n ≤ 8) (w : World) :
    Calls Try.prog 16 #[.int .i64 n] w fun e w' => ∃ v, e = .returned (.tuple #[v, .bool true]) ∧ CellsV w' w.heap.size v (ci n) ∧ Below w.heap.size w w' := by
  go_enter Try.func16, Try.ntmps16
  go_wp2_with fail
  refine (meshOf_yes n h1 h2 _).mono ?_
  rintro e w1 ⟨rfl, hb1⟩
  go_wp2_with fail
  refine (cells_any n h1 h2 _).mono ?_
  rintro e w2 ⟨v, rfl, hc2, hb2⟩
  obtain ⟨hfl, a, cap, b, rfl, hrd⟩ := trio_shape hc2
  go_wp2_with fail
  have HA := Lib.hid (ci_at n (by omega))
  have hcl := ci_len n
  have hbd : (ci n).length ≤ 1000 := by
    have : 2 * n * (n + 1) ≤ 16 * 9 := Nat.mul_le_mul (by omega) (by omega)
    omega
  clear hcl
  have HF := Lib.hid hfl
  clear hfl
  go_loopw [6, 19] (fun v6 v19 wr => ∃ k : Nat, k ≤ (ci n).length ∧ v19 = .int .i64 k ∧ CellsV wr w2.heap.size v6 ((ci n).take k) ∧ Below w2.heap.size w2 wr) (fun _ v19 _ => (ci n).length - (intOf v19).toNat)
  case atStart => exact ⟨0, Nat.zero_le _, rfl, by rw [List.take_zero]; exact cells_nil _ _, Below.refl _ _⟩
  case round =>
    obtain ⟨k, hk, rfl, hc, hb⟩ := hrel
    obtain ⟨wi, rfl⟩ : ∃ wi : World, wi = wr := ⟨_, rfl⟩
    by_cases hlt : k < (ci n).length
    · obtain ⟨rfl, c0⟩ := hrd (k * 3) (by have := HF.out; omega)
      have c1 := (hrd (k * 3 + 1) (by have := HF.out; omega)).2
      have c2 := (hrd (k * 3 + 2) (by have := HF.out; omega)).2
      have hbl : b < w2.heap.size := own_lt hc2 b rfl
      have d0 := (hb.cell (p := ⟨b, k * 3, none⟩) hbl).trans c0
      have d1 := (hb.cell (p := ⟨b, k * 3 + 1, none⟩) hbl).trans c1
      have d2 := (hb.cell (p := ⟨b, k * 3 + 2, none⟩) hbl).trans c2
      clear c0 c1 c2
      have hE := Lib.hid (HA.out k hlt)
      have hwb := hb.size
      generalize (ci n).flatten.getD (k * 3) 0 = x at d0 hE
      generalize (ci n).flatten.getD (k * 3 + 1) 0 = y at d1 hE
      generalize (ci n).flatten.getD (k * 3 + 2) 0 = z at d2 hE
      go_wp2_with fail
      refine (clone_three x y z wi.heap.size _ (by simp) ⟨by simp [maxLen], fun j hj => ⟨rfl, ?_⟩⟩).mono ?_
      · rw [cell_of_row _ _ _ _ _ (0, 0) (heap_alloc_new wi _)]
        match j, hj with
        | 0, _ => rfl
        | 1, _ => rfl
        | 2, _ => rfl
        | j + 3, hj => exact absurd hj (by simp)
      · rintro e w3 ⟨u, rfl, hu, hb3⟩
        have hB3 : Below wi.heap.size wi w3 := (balloc (Below.refl wi.heap.size wi) _).trans (hb3.mono (by simp))
        have hc3 := hc
        have hu3 := hu.mono (show wi.heap.size ≤ _ by simp)
        have hw3 : w2.heap.size ≤ w3.heap.size := Nat.le_trans hwb hB3.size
        have hB4 := hb.trans (hB3.mono hwb)
        have hkl : ((ci n).take k).length < 1000000000 := by rw [List.length_take]; omega
        obtain ⟨-, ua, uc, ub, rfl, -, -⟩ := own_shape hu
        clear hc hu hb3 d0 d1 d2
        go_wp2_with (at_builtin; refine append_row w2.heap.size _ wi _ _ _ ((ci n).take k) [x, y, z] rfl _ _ rfl rfl rfl (by simp) hc3 hB3 hu3 rfl hwb hkl ?_; intro v' w5 hc5 hb5)
        go_roundw
        case rel => exact ⟨k + 1, by omega, by go_num, by rw [List.take_add_one, show (ci n)[k]?.toList = [[x, y, z]] by rw [← hE.out, List.getD_eq_getElem?_getD, List.getElem?_eq_getElem hlt]; rfl]; exact hc5, hB4.trans hb5⟩
        case measure => simp [intOf]; omega
    · have hk2 : k = (ci n).length := by omega
      rw [hk2, List.take_length] at hc
      clear hk2
      obtain ⟨sa, sn, sc, rfl⟩ := cells_shape hc
      go_wp2_with fail
      go_ret2
      have hw12 : Below w1.heap.size w1 w2 := bnext (balloc (Below.refl _ _) _) hb2
      exact ⟨_, rfl, cells_base hc (Nat.le_trans hb1.size hw12.size), hb1.trans ((hw12.mono hb1.size).trans (hb.mono (Nat.le_trans hb1.size hw12.size)))⟩
end Go.Proofs.Ytjbdhgomcchoaaa
