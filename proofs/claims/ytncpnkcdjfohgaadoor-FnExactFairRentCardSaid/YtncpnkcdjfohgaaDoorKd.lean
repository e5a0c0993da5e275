import Derived.Test.YtncpnkcdjfohgaaDoorKb
import Derived.Test.YtncpnkcdjfohgaaDoorZc
namespace Go.Proofs.YtncpnkcdjfohgaaDoor
open Go.RowKit
set_option maxRecDepth 4000
theorem frozen_blk {w : World} {b : Nat} {C : Array Value} {t : TypeId} (h : w.heap[b]? = some (.cells C t (0, 0))) (off : Nat) : w.frozen? ⟨b, off, none⟩ = false := by simp [World.frozen?, h]
/-- Numbers that lie somewhere in a block. -/
def WF (w : World) (b off n : Nat) (f : Nat → Int) : Prop := ∃ (C : Array Value) (t : TypeId), w.heap[b]? = some (.cells C t (0, 0)) ∧ ∀ j, j < n → C[off + j]? = some (.int .i64 (f j))
theorem WF.cell {w : World} {b off n : Nat} {f : Nat → Int} (h : WF w b off n f) (j : Nat) (hj : j < n) : w.cell? ⟨b, off + j, none⟩ = some (.int .i64 (f j)) := by
  obtain ⟨C, t, hg, hc⟩ := h
  exact blk_cell hg _ _ (hc j hj)
theorem WF.frozen {w : World} {b off n : Nat} {f : Nat → Int} (h : WF w b off n f) (j : Nat) : w.frozen? ⟨b, j, none⟩ = false := by
  obtain ⟨C, t, hg, -⟩ := h
  exact frozen_blk hg j
theorem WF.set {w : World} {b off n : Nat} {f : Nat → Int} (h : WF w b off n f) (j : Nat) (hj : j < n) (x : Int) : WF (w.setCell ⟨b, off + j, none⟩ (.int .i64 x)) b off n (fun i => if i = j then x else f i) := by
  obtain ⟨C, t, hg, hc⟩ := h
  refine ⟨_, t, heap_setCell_same w b (off + j) _ _ _ hg, fun i hi => ?_⟩
  rw [Array.getElem?_setIfInBounds]
  have hlt : off + j < C.size := (Array.getElem?_eq_some_iff.1 (hc j hj)).1
  by_cases e : i = j
  · subst e
    rw [if_pos rfl, if_pos hlt]
    simp
  · rw [if_neg (by omega), hc i hi]
    show _ = some (Value.int .i64 (if i = j then x else f i))
    rw [if_neg e]
theorem WF.congr {w : World} {b off n : Nat} {f g : Nat → Int} (h : WF w b off n f) (e : ∀ j, j < n → f j = g j) : WF w b off n g := by
  obtain ⟨C, t, hg, hc⟩ := h
  exact ⟨C, t, hg, fun j hj => by rw [hc j hj, e j hj]⟩
theorem mkd_getD (k : Int) (n : Nat) (xs : List Int) (i : Nat) : (mkd k n xs).getD i 0 = if i < n then k + i else xs.getD i 0 := by
  rw [mkd, List.getD_eq_getElem?_getD, List.getElem?_append, List.length_map, List.length_range]
  by_cases e : i < n
  · rw [if_pos e, if_pos e, List.getElem?_map, List.getElem?_range e]
    rfl
  · rw [if_neg e, if_neg e, List.getElem?_drop, show n + (i - n) = i by omega, List.getD_eq_getElem?_getD]
set_option maxHeartbeats 400000 in
theorem markIntS_off (b off n cap : Nat) (f : Nat → Int) (k : Int) (w : World) (hw : WF w b off n f) (hn : n ≤ 1000000000000) (hk0 : 0 ≤ k) (hk : k + n ≤ 9223372036854775807) :
    Calls Tryd.prog 17 #[.slice (some ⟨b, off, none⟩) n cap, .int .i64 k] w fun e w' => e = .returned (.int .i64 (k + n)) ∧ WF w' b off n (fun i => k + i) ∧ Below b w w' ∧ ∀ k', k' ≠ b → w'.heap[k']? = w.heap[k']? := by
  go_enter Tryd.func17, Tryd.ntmps17
  go_wp2
  go_loopw [1, 5] (fun v1 v5 wr => ∃ j : Nat, j ≤ n ∧ v5 = .int .i64 j ∧ v1 = .int .i64 (k + j) ∧ WF wr b off n (fun i => if i < j then k + i else f i) ∧ Below b w wr ∧ ∀ k', k' ≠ b → wr.heap[k']? = w.heap[k']?) (fun _ v5 _ => n - (intOf v5).toNat)
  case atStart => exact ⟨0, Nat.zero_le _, rfl, by simp, hw.congr (fun j _ => by rw [if_neg (by omega)]), Below.refl _ _, fun _ _ => rfl⟩
  case round =>
    obtain ⟨j, hj, rfl, rfl, hw', hb, ho'⟩ := hrel
    have HO := Lib.hid ho'
    clear ho'
    by_cases hlt : j < n
    · have hji : (j : Int) < (n : Int) := by omega
      have hf := hw'.frozen (off + j)
      have hc := hw'.cell j hlt
      have HS := Lib.hid ((hw'.set j hlt (k + j)).congr (g := fun i => if i < j + 1 then k + i else f i) (fun i _ => by
        by_cases e : i = j
        · subst e; rw [if_pos rfl, if_pos (by omega)]
        · rw [if_neg e]
          by_cases e2 : i < j
          · rw [if_pos e2, if_pos (by omega)]
          · rw [if_neg e2, if_neg (by omega)]))
      rw [if_neg (by omega)] at hc
      clear hw' hw
      go_wp2
      go_roundw
      case rel => exact ⟨j + 1, by omega, by go_num, by simp; omega, HS.out, hb.setCell (Nat.le_refl _) _, fun k' hk' => (Below.heap_setCell _ _ _ _ (by exact hk')).trans (HO.out k' hk')⟩
      case measure => simp [intOf]; omega
    · have hj2 : j = n := by omega
      subst hj2
      go_wp2
      go_ret
      exact ⟨rfl, hw'.congr (fun i hi => by rw [if_pos hi]), hb, HO.out⟩
/-- Numbers that the call owns, anywhere in a block from lo on and below hi. -/
def OJ (w : World) (lo hi : Nat) (v : Value) (xs : List Int) : Prop :=
  OI w lo hi v xs ∨ ∃ b off cap, v = .slice (some ⟨b, off, none⟩) xs.length cap ∧ lo ≤ b ∧ b < hi ∧ xs.length ≤ 1000000000000 ∧ WF w b off xs.length (fun j => xs.getD j 0)
theorem oj_oi {w : World} {lo hi : Nat} {v : Value} {xs : List Int} (h : OI w lo hi v xs) : OJ w lo hi v xs := .inl h
theorem WF.keep {w w' : World} {b off n : Nat} {f : Nat → Int} (h : WF w b off n f) (e : w'.heap[b]? = w.heap[b]?) : WF w' b off n f := by
  obtain ⟨C, t, hg, hc⟩ := h
  exact ⟨C, t, e.trans hg, hc⟩
theorem WF.rd {w : World} {b off : Nat} {xs : List Int} (h : WF w b off xs.length (fun j => xs.getD j 0)) (hn : xs.length ≤ 1000000000000) : Rd w (some ⟨b, off, none⟩) b off xs := ⟨by unfold maxLen; omega, fun j hj => ⟨rfl, h.cell j hj⟩⟩
theorem oj_keep {w w' : World} {lo hi l h' : Nat} {v : Value} {xs : List Int} (h : OJ w lo hi v xs) (c : Chg l h' w w') (hs : hi ≤ w.heap.size) (hr : h' ≤ lo ∨ hi ≤ l) : OJ w' lo hi v xs := by
  rcases h with h | ⟨b, off, cap, rfl, h1, h2, h3, h4⟩
  · exact .inl (oi_keep h c hs hr)
  · exact .inr ⟨b, off, cap, rfl, h1, h2, h3, h4.keep (c.block b (by omega) (by omega))⟩
theorem oj_shape {w : World} {lo hi : Nat} {v : Value} {xs : List Int} (h : OJ w lo hi v xs) : ∃ (a : Option Addr) (cap : Nat) (_ : Nat), v = .slice a xs.length cap ∧ RdS w hi a xs := by
  rcases h with h | ⟨b, off, cap, rfl, h1, h2, h3, h4⟩
  · obtain ⟨a, cap, b, e, -, hr⟩ := oi_shape h
    exact ⟨a, cap, b, e, hr⟩
  · exact ⟨_, cap, b, rfl, b, off, h4.rd h3, .inr h2⟩
theorem oj_rds2 {w : World} {lo hi n cap : Nat} {a : Option Addr} {xs : List Int} (h : OJ w lo hi (.slice a n cap) xs) : RdS w hi a xs := by
  obtain ⟨a', c', b, hv, hr⟩ := oj_shape h
  simp only [Value.slice.injEq] at hv
  obtain ⟨rfl, -, rfl⟩ := hv
  exact hr
theorem oj_rds {w : World} {lo hi cap : Nat} {a : Option Addr} {xs : List Int} (h : OJ w lo hi (.slice a xs.length cap) xs) : RdS w hi a xs := oj_rds2 h
theorem markIntS_oj (xs : List Int) (a : Option Addr) (lo hi cap : Nat) (k : Int) (w : World) (ho : OJ w lo hi (.slice a xs.length cap) xs) (hk0 : 0 ≤ k) (hk : k + xs.length ≤ 9223372036854775807) :
    Calls Tryd.prog 17 #[.slice a xs.length cap, .int .i64 k] w fun e w' => e = .returned (.int .i64 (k + xs.length)) ∧ OJ w' lo hi (.slice a xs.length cap) (mkd k xs.length xs) ∧ Chg lo hi w w' := by
  rcases ho with ho | ⟨b, off, c, hv, h1, h2, h3, h4⟩
  · refine (markIntS_chg xs a lo hi cap k w ho hk0 hk).mono ?_
    rintro e w' ⟨rfl, h, hc⟩
    exact ⟨rfl, .inl h, hc⟩
  · simp only [Value.slice.injEq] at hv
    obtain ⟨rfl, -, rfl⟩ := hv
    refine (markIntS_off b off xs.length cap _ k w h4 h3 hk0 hk).mono ?_
    rintro e w' ⟨rfl, h, hb, hk'⟩
    have hl := mkd_len k xs.length xs (Nat.le_refl _)
    refine ⟨rfl, .inr ⟨b, off, cap, by rw [hl], h1, h2, by rw [hl]; exact h3, ?_⟩, hb.os, hb.tape, hb.output, hb.size, fun j _ hj => hk' j (by omega)⟩
    rw [hl]
    exact h.congr (fun i hi => by rw [mkd_getD, if_pos hi])
end Go.Proofs.YtncpnkcdjfohgaaDoor
