import Derived.Test.YtncpnkcdjfohgaaDoorMa6
namespace Go.Proofs.YtncpnkcdjfohgaaDoor
open Go.RowKit
set_option maxRecDepth 4000
/-- The greatest of numbers, at least 0. -/
def Mx (S : Int → Prop) (G : Int) : Prop := 0 ≤ G ∧ (∀ x, S x → x ≤ G) ∧ (G = 0 ∨ S G)
theorem Mx.uniq {S : Int → Prop} {G H : Int} (h : Mx S G) (k : Mx S H) : G = H := by
  obtain ⟨h1, h2, h3⟩ := h
  obtain ⟨k1, k2, k3⟩ := k
  have a : G ≤ H := h3.elim (fun e => by omega) (fun e => k2 _ e)
  have b : H ≤ G := k3.elim (fun e => by omega) (fun e => h2 _ e)
  omega
theorem Mx.congr {S S' : Int → Prop} {G : Int} (h : Mx S G) (e : ∀ x, S' x → S x ∨ x = 0) (e' : ∀ x, S x → S' x) : Mx S' G := by
  obtain ⟨h1, h2, h3⟩ := h
  exact ⟨h1, fun x hx => (e x hx).elim (fun hx => h2 x hx) (fun hx => by omega), h3.imp id (fun h => e' _ h)⟩
theorem Mx.less {S S' : Int → Prop} {G : Int} (h : Mx S G) (e : ∀ x, S' x → S x) (e' : ∀ x, S x → S' x ∨ x = 0) : Mx S' G := by
  obtain ⟨h1, h2, h3⟩ := h
  exact ⟨h1, fun x hx => h2 x (e x hx), h3.elim .inl (fun h => (e' _ h).elim .inr .inl)⟩
theorem Mx.step {S S' : Int → Prop} {G y : Int} (h : Mx S G) (e : ∀ x, S' x ↔ (S x ∨ x = y)) : Mx S' (if y < G then G else y) := by
  obtain ⟨h1, h2, h3⟩ := h
  by_cases hy : y < G
  · rw [if_pos hy]
    refine ⟨h1, fun x hx => ((e x).1 hx).elim (h2 x) (fun hx => by omega), h3.imp id (fun h => (e _).2 (.inl h))⟩
  · rw [if_neg hy]
    refine ⟨by omega, fun x hx => ((e x).1 hx).elim (fun hx => by have := h2 x hx; omega) (fun hx => by omega), .inr ((e _).2 (.inr rfl))⟩
theorem mx_exists (f : Nat → Int) : ∀ k : Nat, ∃ G, Mx (fun x => ∃ q, q < k ∧ x = f q) G
  | 0 => ⟨0, Int.le_refl _, fun x ⟨q, h, _⟩ => absurd h (Nat.not_lt_zero _), .inl rfl⟩
  | k + 1 => by
    obtain ⟨G, hG⟩ := mx_exists f k
    refine ⟨_, hG.step (y := f k) fun x => ⟨fun ⟨q, h1, h2⟩ => ?_, fun h => ?_⟩⟩
    · by_cases e : q = k
      · exact .inr (by rw [h2, e])
      · exact .inl ⟨q, by omega, h2⟩
    · rcases h with ⟨q, h1, h2⟩ | h
      · exact ⟨q, by omega, h2⟩
      · exact ⟨k, by omega, h⟩
set_option maxHeartbeats 400000 in
theorem l1Most_if (a b : Int) (w : World) :
    Calls Tryd.prog 84 #[.int .i64 a, .int .i64 b] w fun e w' => e = .returned (.int .i64 (if b < a then a else b)) ∧ w = w' := by
  by_cases h : b < a
  · rw [if_pos h]
    go_enter Tryd.func84, Tryd.ntmps84
    go_wp2_with fail
    go_ret
    exact ⟨rfl, rfl⟩
  · rw [if_neg h]
    go_enter Tryd.func84, Tryd.ntmps84
    go_wp2_with fail
    go_ret
    exact ⟨rfl, rfl⟩
/-- The greatest of the first k + 1 numbers. -/
def mxr (xs : List Int) : Nat → Int
  | 0 => xs.getD 0 0
  | k + 1 => max (mxr xs k) (xs.getD (k + 1) 0)
set_option maxHeartbeats 800000 in
theorem slicesMax_any (xs : List Int) (a : Option Addr) (b off cap : Nat) (w : World) (hl : 1 ≤ xs.length) (h : Rd w a b off xs) :
    Calls Tryd.prog 106 #[.slice a xs.length cap] w fun e w' => e = .returned (.int .i64 (mxr xs (xs.length - 1))) ∧ w = w' := by
  obtain ⟨hm, hc⟩ := h
  unfold maxLen at hm
  obtain ⟨ha, c0⟩ := hc 0 hl
  subst ha
  rw [Nat.add_zero] at c0
  have HC := Lib.hid (fun k hk => (hc k hk).2)
  have HM0 : Hid (mxr xs 0 = xs.getD 0 0) := Lib.hid rfl
  have HMS : Hid (∀ k, mxr xs (k + 1) = max (mxr xs k) (xs.getD (k + 1) 0)) := Lib.hid (fun _ => rfl)
  have hli : ¬ ((xs.length : Int) < 1) := by omega
  have hli2 : (0 : Int) < (xs.length : Int) := by omega
  clear hc
  go_enter Tryd.func106, Tryd.ntmps106
  go_wp2_with fail
  go_loop [3, 4] (fun v3 v4 => ∃ k : Nat, k + 1 ≤ xs.length ∧ v4 = .int .i64 ((k + 1 : Nat) : Int) ∧ v3 = .int .i64 (mxr xs k)) (fun _ v4 => xs.length - (intOf v4).toNat)
  case atStart => exact ⟨0, hl, rfl, by rw [HM0.out]; rfl⟩
  case round =>
    obtain ⟨k, hk, rfl, rfl⟩ := hrel
    by_cases hlt : k + 1 < xs.length
    · have ck := HC.out (k + 1) hlt
      have hki : ((k + 1 : Nat) : Int) < (xs.length : Int) := by omega
      have HX := Lib.hid (HMS.out k)
      clear c0
      generalize xs.getD (k + 1) 0 = x at *
      generalize mxr xs k = m at *
      have HX2 : Hid (mxr xs (k + 1) = if m < x then x else m) := Lib.hid (by rw [HX.out]; split <;> omega)
      go_wp2_with fail
      go_round
      case rel => exact ⟨k + 1, by omega, by go_num, by rw [HX2.out]⟩
      case measure => simp [intOf]; omega
    · have hk2 : k = xs.length - 1 := by omega
      have hki : ¬ ((k + 1 : Nat) : Int) < (xs.length : Int) := by omega
      have HK := Lib.hid hk2
      clear hk2
      go_wp2_with fail
      go_ret
      exact ⟨by rw [← HK.out]; rfl, rfl⟩
theorem Mx.three {S S' : Int → Prop} {G x y z : Int} (h : Mx S G) (e : ∀ u, S' u ↔ (S u ∨ u = x ∨ u = y ∨ u = z)) : Mx S' (max G (max (max x y) z)) := by
  obtain ⟨h1, h2, h3⟩ := h
  refine ⟨by omega, fun u hu => ?_, ?_⟩
  · rcases (e u).1 hu with h | rfl | rfl | rfl
    · have := h2 u h; omega
    · omega
    · omega
    · omega
  · rcases (by omega : max G (max (max x y) z) = G ∨ max G (max (max x y) z) = x ∨ max G (max (max x y) z) = y ∨ max G (max (max x y) z) = z) with h | h | h | h
    · rw [h]; exact h3.imp id (fun h => (e _).2 (.inl h))
    · exact .inr ((e _).2 (.inr (.inl h)))
    · exact .inr ((e _).2 (.inr (.inr (.inl h))))
    · exact .inr ((e _).2 (.inr (.inr (.inr h))))
end Go.Proofs.YtncpnkcdjfohgaaDoor
