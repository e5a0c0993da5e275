import Derived.Test.YtokhpchnnilbaaaZk
namespace Go.Proofs.Ytokhpchnnilbaaa
open Go.RowKit
set_option maxRecDepth 4000
/-! Tucker's lemma for the octahedron, by counting chains of signed sets modulo two (after Ky Fan). -/
namespace Tk
def xs {α : Type} (A : List α) (g : α → Bool) : Bool := A.foldr (fun a r => xor (g a) r) false
theorem xs_cons {α : Type} (a : α) (A : List α) (g : α → Bool) : xs (a :: A) g = xor (g a) (xs A g) := rfl
theorem xs_nil {α : Type} (g : α → Bool) : xs [] g = false := rfl
theorem xs_append {α : Type} (A B : List α) (g : α → Bool) : xs (A ++ B) g = xor (xs A g) (xs B g) := by
  induction A with
  | nil => simp [xs_nil]
  | cons a A ih => simp only [List.cons_append, xs_cons, ih, Bool.xor_assoc]
theorem xs_false {α : Type} (A : List α) (g : α → Bool) (h : ∀ a ∈ A, g a = false) : xs A g = false := by
  induction A with
  | nil => rfl
  | cons a A ih => rw [xs_cons, h a (by simp), ih (fun b hb => h b (by simp [hb]))]; rfl
theorem xs_congr {α : Type} (A : List α) (g h : α → Bool) (e : ∀ a ∈ A, g a = h a) : xs A g = xs A h := by
  induction A with
  | nil => rfl
  | cons a A ih => rw [xs_cons, xs_cons, e a (by simp), ih (fun b hb => e b (by simp [hb]))]
theorem xs_xor {α : Type} (A : List α) (g h : α → Bool) : xs A (fun a => xor (g a) (h a)) = xor (xs A g) (xs A h) := by
  induction A with
  | nil => rfl
  | cons a A ih =>
    simp only [xs_cons, ih]
    cases g a <;> cases h a <;> cases xs A g <;> cases xs A h <;> rfl
theorem xs_comm {α β : Type} (A : List α) (B : List β) (g : α → β → Bool) : xs A (fun a => xs B (fun b => g a b)) = xs B (fun b => xs A (fun a => g a b)) := by
  induction A with
  | nil => simp only [xs_nil]; exact (xs_false _ _ (fun _ _ => rfl)).symm
  | cons a A ih => simp only [xs_cons, ih, xs_xor]
theorem xs_sym {α : Type} (A : List α) (g : α → α → Bool) (hs : ∀ a b, g a b = g b a) (hd : ∀ a, g a a = false) : xs A (fun a => xs A (fun b => g a b)) = false := by
  induction A with
  | nil => rfl
  | cons a A ih =>
    simp only [xs_cons, hd, xs_xor, ih]
    rw [xs_congr A (fun x => g x a) (fun x => g a x) (fun x _ => hs x a)]
    cases xs A (fun x => g a x) <;> rfl
theorem xs_some {α : Type} {A : List α} {g : α → Bool} (h : xs A g = true) : ∃ a ∈ A, g a = true := by
  induction A with
  | nil => cases h
  | cons a A ih =>
    rw [xs_cons] at h
    cases ha : g a
    · rw [ha] at h
      obtain ⟨b, hb, hg⟩ := ih (by simpa using h)
      exact ⟨b, by simp [hb], hg⟩
    · exact ⟨a, by simp, ha⟩
/-- The signed places below K. -/
abbrev SP := Nat × Bool
def alph (K : Nat) : List SP := (List.range K).flatMap (fun c => [(c, true), (c, false)])
theorem mem_alph {K : Nat} {p : SP} : p ∈ alph K ↔ p.1 < K := by
  obtain ⟨c, s⟩ := p
  simp only [alph, List.mem_flatMap, List.mem_range, List.mem_cons, List.not_mem_nil, or_false]
  constructor
  · rintro ⟨d, hd, h | h⟩ <;> cases h <;> exact hd
  · intro h; exact ⟨c, h, by cases s <;> simp⟩
theorem alph_succ (K : Nat) : alph (K + 1) = alph K ++ [(K, true), (K, false)] := by simp [alph, List.range_succ]
/-- Sums over all words of m signed places. -/
def xw (A : List SP) : Nat → (List SP → Bool) → Bool
  | 0, f => f []
  | m + 1, f => xs A (fun a => xw A m (fun w => f (a :: w)))
theorem xw_congr (A : List SP) : ∀ (m : Nat) (f g : List SP → Bool), (∀ w, w.length = m → (∀ p ∈ w, p ∈ A) → f w = g w) → xw A m f = xw A m g
  | 0, f, g, h => h [] rfl (by simp)
  | m + 1, f, g, h => xs_congr _ _ _ (fun a ha => xw_congr A m _ _ (fun w hw hp => h (a :: w) (by simp [hw]) (by
      intro p hp'
      rcases List.mem_cons.1 hp' with rfl | hp'
      · exact ha
      · exact hp p hp')))
theorem xw_false (A : List SP) : ∀ (m : Nat) (f : List SP → Bool), (∀ w, w.length = m → (∀ p ∈ w, p ∈ A) → f w = false) → xw A m f = false
  | 0, f, h => h [] rfl (by simp)
  | m + 1, f, h => xs_false _ _ (fun a ha => xw_false A m _ (fun w hw hp => h (a :: w) (by simp [hw]) (by
      intro p hp'
      rcases List.mem_cons.1 hp' with rfl | hp'
      · exact ha
      · exact hp p hp')))
theorem xw_xor (A : List SP) : ∀ (m : Nat) (f g : List SP → Bool), xw A m (fun w => xor (f w) (g w)) = xor (xw A m f) (xw A m g)
  | 0, _, _ => rfl
  | m + 1, f, g => by
    simp only [xw]
    rw [← xs_xor]
    exact xs_congr _ _ _ (fun a _ => xw_xor A m _ _)
theorem xw_xs {β : Type} (A : List SP) (B : List β) : ∀ (m : Nat) (f : List SP → β → Bool), xw A m (fun w => xs B (fun b => f w b)) = xs B (fun b => xw A m (fun w => f w b))
  | 0, _ => rfl
  | m + 1, f => by
    simp only [xw]
    rw [← xs_comm]
    exact xs_congr _ _ _ (fun a _ => xw_xs A B m _)
theorem xw_some (A : List SP) : ∀ (m : Nat) (f : List SP → Bool), xw A m f = true → ∃ w, w.length = m ∧ (∀ p ∈ w, p ∈ A) ∧ f w = true
  | 0, f, h => ⟨[], rfl, by simp, h⟩
  | m + 1, f, h => by
    obtain ⟨a, ha, h1⟩ := xs_some h
    obtain ⟨w, hw, hp, h2⟩ := xw_some A m _ h1
    exact ⟨a :: w, by simp [hw], fun p hp' => (List.mem_cons.1 hp').elim (fun e => e ▸ ha) (hp p), h2⟩
/-- The last place apart. -/
theorem xw_last (A : List SP) : ∀ (m : Nat) (f : List SP → Bool), xw A (m + 1) f = xw A m (fun w => xs A (fun a => f (w ++ [a])))
  | 0, _ => rfl
  | m + 1, f => by
    show xs A (fun a => xw A (m + 1) (fun w => f (a :: w))) = _
    exact xs_congr _ _ _ (fun a _ => xw_last A m (fun w => f (a :: w)))
/-- Two places next to each other may be changed. -/
theorem xw_swap (A : List SP) : ∀ (j m : Nat) (f : List SP → Bool), j + 1 < m → (∀ u a b v, u.length = j → f (u ++ a :: b :: v) = f (u ++ b :: a :: v)) → (∀ u a v, u.length = j → f (u ++ a :: a :: v) = false) → xw A m f = false
  | 0, m + 2, f, _, hs, hd => by
    show xs A (fun a => xs A (fun b => xw A m (fun w => f (a :: b :: w)))) = false
    exact xs_sym A (fun a b => xw A m (fun w => f (a :: b :: w))) (fun a b => xw_congr A m _ _ (fun w _ _ => hs [] a b w rfl)) (fun a => xw_false A m _ (fun w _ _ => hd [] a w rfl))
  | j + 1, m + 1, f, h, hs, hd => xs_false _ _ (fun c _ => xw_swap A j m _ (by omega) (fun u a b v hu => hs (c :: u) a b v (by simp [hu])) (fun u a v hu => hd (c :: u) a v (by simp [hu])))
  | 0, 0, _, h, _, _ => by omega
  | 0, 1, _, h, _, _ => by omega
  | j + 1, 0, _, h, _, _ => by omega
def negW (w : List SP) : List SP := w.map (fun p => (p.1, !p.2))
theorem xs_alph (K : Nat) (g : SP → Bool) : xs (alph K) (fun p => g (p.1, !p.2)) = xs (alph K) g := by
  induction K with
  | zero => rfl
  | succ K ih =>
    rw [alph_succ, xs_append, xs_append, ih]
    congr 1
    simp only [xs_cons, xs_nil, Bool.not_true, Bool.not_false]
    cases g (K, true) <;> cases g (K, false) <;> rfl
theorem xw_neg (K : Nat) : ∀ (m : Nat) (f : List SP → Bool), xw (alph K) m (fun w => f (negW w)) = xw (alph K) m f
  | 0, _ => rfl
  | m + 1, f => by
    show xs (alph K) (fun a => xw (alph K) m (fun w => f ((a.1, !a.2) :: negW w))) = _
    rw [xs_congr _ _ (fun a => xw (alph K) m (fun w => f ((a.1, !a.2) :: w))) (fun a _ => xw_neg K m (fun w => f ((a.1, !a.2) :: w)))]
    exact xs_alph K (fun a => xw (alph K) m (fun w => f (a :: w)))
/-- Words without the greatest place are words over one place less. -/
def noK (K : Nat) (w : List SP) : Bool := w.all (fun p => p.1 != K)
theorem xw_less (K : Nat) : ∀ (m : Nat) (f : List SP → Bool), xw (alph (K + 1)) m (fun w => noK K w && f w) = xw (alph K) m f
  | 0, _ => rfl
  | m + 1, f => by
    show xs (alph (K + 1)) (fun a => xw (alph (K + 1)) m (fun w => noK K (a :: w) && f (a :: w))) = _
    rw [alph_succ, xs_append]
    have e1 : xs [(K, true), (K, false)] (fun a => xw (alph K ++ [(K, true), (K, false)]) m (fun w => noK K (a :: w) && f (a :: w))) = false := by
      apply xs_false
      intro a ha
      apply xw_false
      intro w _ _
      have : a.1 = K := by
        rcases List.mem_cons.1 ha with rfl | ha
        · rfl
        · rw [List.mem_singleton] at ha; rw [ha]
      simp [noK, this]
    rw [e1, Bool.xor_false]
    apply xs_congr
    intro a ha
    rw [← alph_succ]
    have hlt := mem_alph.1 ha
    rw [← xw_less K m (fun w => f (a :: w))]
    apply xw_congr
    intro w _ _
    have hne : (a.1 != K) = true := by simp; omega
    simp [noK, hne]
end Tk
end Go.Proofs.Ytokhpchnnilbaaa
