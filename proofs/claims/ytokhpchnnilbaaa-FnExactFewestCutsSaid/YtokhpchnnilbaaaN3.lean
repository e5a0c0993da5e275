import Derived.Maps.OwnSet
import Derived.Maps.OwnOps
import Derived.Maps.RangeWalk
import Derived.Test.YtokhpchnnilbaaaN2
namespace Go.Proofs.Ytokhpchnnilbaaa
open Go.RowKit
set_option maxRecDepth 4000
open Go.Maps
theorem lawB : Keyed Try.prog 5 := int_keyed Try.underlying5
theorem zeroB (w : World) : (zeroValue 3).run Try.prog w = .ok (.int .i64 0) w := by kernel_rfl
/-- What the key of kind k reads as. -/
def kyB (k : Nat) : Lit := .int .u8 ((k + 97 : Nat) : Int)
theorem kyB_ne {j k : Nat} (h : j ≠ k) : kyB j ≠ kyB k := by
  intro e
  simp only [kyB, Lit.int.injEq, true_and] at e
  omega
theorem kyB_key (k : Nat) (hk : k < 4) : keyOf Try.prog 5 (.int .u8 ((k + 97 : Nat) : Int)) = some (kyB k) :=
  keyOf_int_mk Try.underlying5 (WalkArith.wf_u8 (by omega))
/-- How many of four numbers are not nought. -/
def nz1 (x : Int) : Nat := if x = 0 then 0 else 1
def nz (c : Nat → Int) : Nat := nz1 (c 0) + nz1 (c 1) + nz1 (c 2) + nz1 (c 3)
/-- A map holds the numbers c of the four kinds, and no others. -/
def MapD (D : DataW Unit) (c : Nat → Int) : Prop :=
  (∀ k, k < 4 → D.atKey (kyB k) (.lit (.int .i64 0)) = .lit (.int .i64 (c k))) ∧ (∀ k, k < 4 → Maps.has D (kyB k) = decide (c k ≠ 0)) ∧ (∀ kl, Maps.has D kl = true → ∃ k, k < 4 ∧ kl = kyB k) ∧ Maps.size D = nz c
def IsB (w : World) (b n : Nat) (c : Nat → Int) : Prop := ∃ D : DataW Unit, w.ownsMap Try.prog 5 (plainElem Try.prog 3) b n D ∧ MapD D c
def stc (c : Nat → Int) (k : Nat) (y : Int) (j : Nat) : Int := if j = k then y else c j
theorem nz_stc (c : Nat → Int) (k : Nat) (hk : k < 4) (y : Int) : nz (stc c k y) + nz1 (c k) = nz c + nz1 y := by
  rcases (by omega : k = 0 ∨ k = 1 ∨ k = 2 ∨ k = 3) with rfl | rfl | rfl | rfl <;> simp [nz, stc] <;> omega
theorem mapD_put {D : DataW Unit} {c : Nat → Int} (h : MapD D c) (ht : Tidy D) (k : Nat) (hk : k < 4) (y : Int) (hy : y ≠ 0) : MapD (D.put (kyB k) (.lit (.int .i64 y))) (stc c k y) := by
  obtain ⟨h1, h2, h3, h4⟩ := h
  have hkl : WideAt.IsKeyLit (kyB k) := trivial
  refine ⟨fun j hj => ?_, fun j hj => ?_, fun kl hkl' => ?_, ?_⟩
  · by_cases e : j = k
    · subst e; rw [atKey_put_same ht.isMap hkl]; simp [stc]
    · rw [atKey_put_other (kyB_ne e), h1 j hj]; simp [stc, e]
  · by_cases e : j = k
    · subst e; rw [has_put_same ht.isMap hkl]; simp [stc, hy]
    · rw [has_put_other (kyB_ne e), h2 j hj]; simp [stc, e]
  · by_cases e : kl = kyB k
    · exact ⟨k, hk, e⟩
    · rw [has_put_other e] at hkl'; exact h3 kl hkl'
  · have hs := size_put (k := kyB k) ht (.lit (.int .i64 y))
    have hn := nz_stc c k hk y
    rw [hs, h2 k hk, h4]
    have e1 : nz1 y = 1 := by simp [nz1, hy]
    by_cases e : c k = 0
    · simp [e]; simp [nz1, e] at hn; simp [hy] at hn; omega
    · simp [e]; simp [nz1, e] at hn; simp [hy] at hn; omega
theorem mapD_del {D : DataW Unit} {c : Nat → Int} (h : MapD D c) (ht : Tidy D) (k : Nat) (hk : k < 4) (d : DataW Unit) : MapD ((D.put (kyB k) d).del (kyB k)) (stc c k 0) := by
  obtain ⟨h1, h2, h3, h4⟩ := h
  have hkl : WideAt.IsKeyLit (kyB k) := trivial
  refine ⟨fun j hj => ?_, fun j hj => ?_, fun kl hkl' => ?_, ?_⟩
  · by_cases e : j = k
    · subst e; rw [atKey_del_same]; simp [stc]
    · rw [atKey_del_other (kyB_ne e), atKey_put_other (kyB_ne e), h1 j hj]; simp [stc, e]
  · by_cases e : j = k
    · subst e; rw [has_del_same]; simp [stc]
    · rw [has_del_other (kyB_ne e), has_put_other (kyB_ne e), h2 j hj]; simp [stc, e]
  · by_cases e : kl = kyB k
    · exact ⟨k, hk, e⟩
    · rw [has_del_other e, has_put_other e] at hkl'; exact h3 kl hkl'
  · have hs := size_put (k := kyB k) ht d
    have ht2 : Tidy (D.put (kyB k) d) := ht.put hkl d
    have hd := size_del (k := kyB k) ht2
    rw [has_put_same ht.isMap hkl] at hd
    have hn := nz_stc c k hk 0
    rw [h2 k hk, h4] at hs
    by_cases e : c k = 0
    · simp [e] at hs; simp [nz1, e] at hn; simp at hd; omega
    · simp [e] at hs; simp [nz1, e] at hn; simp at hd; omega
theorem mapD_empty : MapD (.map [] : DataW Unit) (fun _ => 0) := ⟨fun _ _ => rfl, fun _ _ => rfl, fun kl (h : Maps.has (.map [] : DataW Unit) kl = true) => by simp [Maps.has] at h, rfl⟩
theorem mapD_congr {D : DataW Unit} {c c' : Nat → Int} (h : MapD D c) (e : ∀ k, k < 4 → c' k = c k) : MapD D c' := by
  obtain ⟨h1, h2, h3, h4⟩ := h
  exact ⟨fun k hk => by rw [e k hk]; exact h1 k hk, fun k hk => by rw [e k hk]; exact h2 k hk, h3, by rw [h4]; simp only [nz, e 0 (by omega), e 1 (by omega), e 2 (by omega), e 3 (by omega)]⟩
theorem isB_made (w : World) : IsB (w.alloc (.map #[] 0)) w.heap.size 0 (fun _ => 0) := ⟨_, World.ownsMap_made _ _ _ _, mapD_empty⟩
theorem IsB.mono {w : World} {b n n' : Nat} {c : Nat → Int} (h : IsB w b n c) (hn : n ≤ n') : IsB w b n' c := by
  obtain ⟨D, h1, h2⟩ := h; exact ⟨D, h1.mono hn, h2⟩
theorem IsB.congr {w : World} {b n : Nat} {c c' : Nat → Int} (h : IsB w b n c) (e : ∀ k, k < 4 → c' k = c k) : IsB w b n c' := by
  obtain ⟨D, h1, h2⟩ := h; exact ⟨D, h1, mapD_congr h2 e⟩
theorem IsB.kept {w w' : World} {b n : Nat} {row : Option Nat} {c : Nat → Int} (h : IsB w b n c) (hg : w.grownBy w' row) (hne : some b ≠ row) : IsB w' b n c := by
  obtain ⟨D, h1, h2⟩ := h; exact ⟨D, h1.kept hg hne, h2⟩
theorem IsB.lt {w : World} {b n : Nat} {c : Nat → Int} (h : IsB w b n c) : b < w.heap.size := by
  obtain ⟨D, h1, h2⟩ := h; exact h1.lt
def upd (c : Nat → Int) (k : Nat) (x : Int) : Nat → Int := stc c k (c k + x)
set_option maxHeartbeats 3200000 in
theorem add_any (b n : Nat) (c : Nat → Int) (k : Nat) (hk : k < 4) (x : Int) (hc : -1000 ≤ c k ∧ c k ≤ 1000) (hx : -1000 ≤ x ∧ x ≤ 1000) (hn : n ≤ 1000) (w : World) (h : IsB w b n c) :
    Calls Try.prog 71 #[.map (some b), .int .u8 ((k + 97 : Nat) : Int), .int .i64 x] w fun e w' => e = .returned (.tuple #[]) ∧ IsB w' b (n + 1) (upd c k x) ∧ w.grownBy w' (some b) := by
  obtain ⟨D, hown, hD⟩ := h
  have ht := hown.tidy lawB
  have ew : wrap64 (c k + x) = c k + x := IntWalk.wrap64_in _ ⟨by omega, by omega⟩
  have hkey := kyB_key k hk
  have h1 := hD.1 k hk
  by_cases hz : c k + x = 0
  · have HR := Lib.hid (mapD_del hD ht k hk (.lit (.int .i64 0)))
    have HA : Hid ((D.put (kyB k) (.lit (.int .i64 0))).atKey (kyB k) (.lit (.int .i64 0)) = .lit (.int .i64 0)) := Lib.hid (atKey_put_same ht.isMap (show WideAt.IsKeyLit (kyB k) from trivial) _ _)
    have HU : Hid (upd c k x = stc c k 0) := Lib.hid (by simp only [upd, hz])
    rw [HU.out]
    go_enter Try.func71, Try.ntmps71
    go_wp2_with (first
      | (at_lookup; refine wpList_lookup_own_int _ rfl _ _ 44 rfl 5 3 .i64 lawB Try.underlying44 Try.underlying3 (zeroB _) b (n + 1) _ rfl hown1 _ _ rfl hkey ?_; intro c1 hat1 hwc1; obtain rfl : c1 = 0 := (by rw [HA.out] at hat1; simpa using hat1.symm); clear hat1)
      | (at_lookup; refine wpList_lookup_own_int _ rfl _ _ 44 rfl 5 3 .i64 lawB Try.underlying44 Try.underlying3 (zeroB _) b n _ rfl hown _ _ rfl hkey ?_; intro c1 hat1 hwc1; obtain rfl : c1 = c k := (by rw [h1] at hat1; simpa using hat1.symm); clear hat1)
      | (at_mapUpdate; refine wpList_mapUpdate_own _ rfl _ _ _ 44 rfl 5 3 lawB Try.underlying44 _ b n _ rfl hown (by unfold maxLen; omega) _ _ _ rfl rfl hkey _ [] (plainElem_int Try.underlying3 (WalkArith.wf_i64 (by omega))) ?_; intro w1 hown1 hg1)
      | (at_delete; refine wpList_delete_own _ rfl _ _ 44 5 rfl 3 lawB Try.underlying44 _ b (n + 1) _ rfl hown1 _ _ rfl hkey ?_; intro w2 hown2 hturn2)
      | fail)
    go_end0
    exact ⟨rfl, ⟨_, hown2, HR.out⟩, hg1.andThen hturn2.grown (fun j hj => by cases hj; exact Or.inr rfl)⟩
  · have HR := Lib.hid (mapD_put hD ht k hk (c k + x) hz)
    have HA : Hid ((D.put (kyB k) (.lit (.int .i64 (c k + x)))).atKey (kyB k) (.lit (.int .i64 0)) = .lit (.int .i64 (c k + x))) := Lib.hid (atKey_put_same ht.isMap (show WideAt.IsKeyLit (kyB k) from trivial) _ _)
    have HU : Hid (upd c k x = stc c k (c k + x)) := Lib.hid rfl
    rw [HU.out]
    go_enter Try.func71, Try.ntmps71
    go_wp2_with (first
      | (at_lookup; refine wpList_lookup_own_int _ rfl _ _ 44 rfl 5 3 .i64 lawB Try.underlying44 Try.underlying3 (zeroB _) b (n + 1) _ rfl hown1 _ _ rfl hkey ?_; intro c1 hat1 hwc1; obtain rfl : c1 = c k + x := (by rw [HA.out] at hat1; simpa using hat1.symm); clear hat1)
      | (at_lookup; refine wpList_lookup_own_int _ rfl _ _ 44 rfl 5 3 .i64 lawB Try.underlying44 Try.underlying3 (zeroB _) b n _ rfl hown _ _ rfl hkey ?_; intro c1 hat1 hwc1; obtain rfl : c1 = c k := (by rw [h1] at hat1; simpa using hat1.symm); clear hat1)
      | (at_mapUpdate; refine wpList_mapUpdate_own _ rfl _ _ _ 44 rfl 5 3 lawB Try.underlying44 _ b n _ rfl hown (by unfold maxLen; omega) _ _ _ rfl rfl hkey _ [] (plainElem_int Try.underlying3 (WalkArith.wf_i64 (by omega))) ?_; intro w1 hown1 hg1)
      | fail)
    go_end0
    exact ⟨rfl, ⟨_, hown1, HR.out⟩, hg1⟩
end Go.Proofs.Ytokhpchnnilbaaa
