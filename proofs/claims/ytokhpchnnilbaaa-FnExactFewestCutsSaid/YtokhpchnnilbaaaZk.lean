import Derived.Test.YtokhpchnnilbaaaZa
import Derived.Test.YtokhpchnnilbaaaZb
import Derived.Deep.Matrix
namespace Go.Proofs.Ytokhpchnnilbaaa
open Go.RowKit
set_option maxRecDepth 4000
/-- Between two worlds only blocks from lo on and below hi may have turned, and new ones have come. -/
structure Chg (lo hi : Nat) (w w' : World) : Prop where
  os : w'.os = w.os
  tape : w'.tape = w.tape
  output : w'.output = w.output
  size : w.heap.size ≤ w'.heap.size
  block : ∀ k, k < w.heap.size → (k < lo ∨ hi ≤ k) → w'.heap[k]? = w.heap[k]?
theorem chg_below {w w' : World} (h : Below w.heap.size w w') : Chg 0 0 w w' := ⟨h.os, h.tape, h.output, h.size, fun k hk _ => h.block k hk⟩
theorem chg_same {w w' : World} (h : Same w w') : Chg 0 0 w w' := chg_below (h _)
theorem chg_refl (lo hi : Nat) (w : World) : Chg lo hi w w := ⟨rfl, rfl, rfl, Nat.le_refl _, fun _ _ _ => rfl⟩
theorem Chg.trans {lo hi : Nat} {a b c : World} (h : Chg lo hi a b) (k : Chg lo hi b c) : Chg lo hi a c :=
  ⟨k.os.trans h.os, k.tape.trans h.tape, k.output.trans h.output, Nat.le_trans h.size k.size, fun i hi hr => (k.block i (Nat.lt_of_lt_of_le hi h.size) hr).trans (h.block i hi hr)⟩
/-- What stays below B. -/
theorem below_chg {B lo hi : Nat} {w a b : World} (h : Below B w a) (c : Chg lo hi a b) (hB : B ≤ a.heap.size) (hr : B ≤ lo ∨ hi = 0) : Below B w b :=
  h.trans ⟨c.os, c.tape, c.output, c.size, fun k hk => c.block k (by omega) (by omega)⟩
/-- A slice of numbers that can be read, in a block below B. -/
def RdS (w : World) (B : Nat) (a : Option Addr) (xs : List Int) : Prop := ∃ b off, Rd w a b off xs ∧ (xs.length = 0 ∨ b < B)
theorem rds_chg {w w' : World} {B lo hi : Nat} {a : Option Addr} {xs : List Int} (h : RdS w B a xs) (c : Chg lo hi w w') (hB : B ≤ w.heap.size) (hr : B ≤ lo ∨ hi = 0) : RdS w' B a xs := by
  obtain ⟨b, off, h, hb⟩ := h
  refine ⟨b, off, ⟨h.1, fun j hj => ⟨(h.2 j hj).1, ?_⟩⟩, hb⟩
  rcases hb with h0 | hb
  · omega
  · exact (World.cell?_of_block (w := w) (a := ⟨b, off + j, none⟩) (c.block b (by omega) (by omega))).trans (h.2 j hj).2
/-- A slice of slices of numbers that can be read, all blocks below B; rows may share memory. -/
def RdSS (w : World) (B : Nat) (a : Option Addr) (cs : List (List Int)) : Prop :=
  cs.length ≤ maxLen ∧ ∃ b off, ∀ k, k < cs.length → a = some ⟨b, off, none⟩ ∧ b < B ∧ ∃ ra rc, w.cell? ⟨b, off + k, none⟩ = some (.slice ra (cs.getD k []).length rc) ∧ RdS w B ra (cs.getD k [])
theorem rdss_chg {w w' : World} {B lo hi : Nat} {a : Option Addr} {cs : List (List Int)} (h : RdSS w B a cs) (c : Chg lo hi w w') (hB : B ≤ w.heap.size) (hr : B ≤ lo ∨ hi = 0) : RdSS w' B a cs := by
  obtain ⟨hm, b, off, h⟩ := h
  refine ⟨hm, b, off, fun k hk => ?_⟩
  obtain ⟨ha, hb, ra, rc, hc, hr'⟩ := h k hk
  exact ⟨ha, hb, ra, rc, (World.cell?_of_block (w := w) (a := ⟨b, off + k, none⟩) (c.block b (by omega) (by omega))).trans hc, rds_chg hr' c hB hr⟩
theorem rds_mono {w : World} {B B' : Nat} {a : Option Addr} {xs : List Int} (h : RdS w B a xs) (hB : B ≤ B') : RdS w B' a xs := by
  obtain ⟨b, off, h, hb⟩ := h
  exact ⟨b, off, h, by omega⟩
theorem rdss_mono {w : World} {B B' : Nat} {a : Option Addr} {cs : List (List Int)} (h : RdSS w B a cs) (hB : B ≤ B') : RdSS w B' a cs := by
  obtain ⟨hm, b, off, h⟩ := h
  refine ⟨hm, b, off, fun k hk => ?_⟩
  obtain ⟨ha, hb, ra, rc, hc, hr'⟩ := h k hk
  exact ⟨ha, by omega, ra, rc, hc, rds_mono hr' hB⟩
/-- The same in a world that has grown: for a walk. -/
theorem rds_later {w w' : World} {a : Option Addr} {xs : List Int} (h : RdS w w.heap.size a xs) (hb : Below w.heap.size w w') : RdS w' w.heap.size a xs := rds_chg h (chg_below hb) (Nat.le_refl _) (.inr rfl)
theorem rdss_later {w w' : World} {a : Option Addr} {cs : List (List Int)} (h : RdSS w w.heap.size a cs) (hb : Below w.heap.size w w') : RdSS w' w.heap.size a cs := rdss_chg h (chg_below hb) (Nat.le_refl _) (.inr rfl)
theorem rds_isRow {w : World} {a : Option Addr} {len cap : Nat} {zs : List Int} (h : IsRow w a len cap zs) : (zs.take len).length = len ∧ RdS w w.heap.size a (zs.take len) := by
  obtain ⟨h1, b, off, h2, h3⟩ := isRow_rd h
  exact ⟨h1, b, off, h2, by rw [h1]; exact h3⟩
/-- Numbers that the call owns, in a block from lo on and below hi. -/
def OI (w : World) (lo hi : Nat) (v : Value) (xs : List Int) : Prop := ∃ et, w.ownsRow lo et 1 v xs.length (xs.map (Value.int .i64)) ∧ ∀ k, v.ownBlock = some k → k < hi
theorem oi_keep {w w' : World} {lo hi l h' : Nat} {v : Value} {xs : List Int} (h : OI w lo hi v xs) (c : Chg l h' w w') (hs : hi ≤ w.heap.size) (hr : h' ≤ lo ∨ hi ≤ l) : OI w' lo hi v xs := by
  obtain ⟨et, h1, h2⟩ := h
  refine ⟨et, own_keep h1 (fun k hk => ?_), h2⟩
  have hlo := (h1.lt k hk).1
  have hhi := h2 k hk
  exact c.block k (by omega) (by omega)
theorem oi_new {et : TypeId} {w w' : World} {v : Value} {xs : List Int} (h : w'.ownsRow w.heap.size et 1 v xs.length (xs.map (Value.int .i64))) : OI w' w.heap.size w'.heap.size v xs := ⟨et, h, own_lt h⟩
theorem oi_nil (w : World) (lo hi : Nat) : OI w lo hi (.slice none 0 0) [] := ⟨3, World.ownsRow_nil _ _ _ _, fun k hk => by simp [Value.ownBlock] at hk⟩
theorem oi_shape {w : World} {lo hi : Nat} {v : Value} {xs : List Int} (h : OI w lo hi v xs) : ∃ a cap b, v = .slice a xs.length cap ∧ Rd w a b 0 xs ∧ RdS w hi a xs := by
  obtain ⟨et, h1, h2⟩ := h
  obtain ⟨-, a, cap, b, rfl, ha, hr⟩ := own_shape h1
  refine ⟨a, cap, b, rfl, hr, b, 0, hr, ?_⟩
  rcases ha with rfl | rfl
  · left
    rcases Nat.eq_zero_or_pos xs.length with h0 | h0
    · exact h0
    · have := (hr.2 0 h0).1; cases this
  · exact .inr (h2 b rfl)
/-- Rows that the call owns, all blocks from lo on and below hi. -/
def OSS (w : World) (lo hi : Nat) (v : Value) (cs : List (List Int)) : Prop :=
  ∃ vs : List Value, w.ownsRow lo 25 1 v cs.length vs ∧ (∀ k, k < cs.length → w.ownsRow lo 3 1 (vs.getD k undef) (cs.getD k []).length ((cs.getD k []).map (Value.int .i64))) ∧
    (∀ i j, i < j → j < cs.length → ∀ b, (vs.getD i undef).ownBlock = some b → (vs.getD j undef).ownBlock ≠ some b) ∧
    (∀ k, v.ownBlock = some k → k < hi) ∧ ∀ i, i < cs.length → ∀ k, (vs.getD i undef).ownBlock = some k → k < hi
theorem oss_cells {w : World} {lo hi : Nat} {v : Value} {cs : List (List Int)} (h : OSS w lo hi v cs) : CellsV w lo v cs := by
  obtain ⟨vs, h1, h2, h3, -, -⟩ := h
  exact ⟨vs, h1, h2, h3⟩
theorem oss_new {w w' : World} {v : Value} {cs : List (List Int)} (h : CellsV w' w.heap.size v cs) : OSS w' w.heap.size w'.heap.size v cs := by
  obtain ⟨vs, h1, h2, h3⟩ := h
  exact ⟨vs, h1, h2, h3, own_lt h1, fun i hi => own_lt (h2 i hi)⟩
theorem oss_keep {w w' : World} {lo hi l h' : Nat} {v : Value} {cs : List (List Int)} (h : OSS w lo hi v cs) (c : Chg l h' w w') (hs : hi ≤ w.heap.size) (hr : h' ≤ lo ∨ hi ≤ l) : OSS w' lo hi v cs := by
  obtain ⟨vs, h1, h2, h3, h4, h5⟩ := h
  have hk : ∀ k, lo ≤ k → k < hi → w'.heap[k]? = w.heap[k]? := fun k k1 k2 => c.block k (by omega) (by omega)
  exact ⟨vs, own_keep h1 (fun k hk' => hk k (h1.lt k hk').1 (h4 k hk')), fun i hi => own_keep (h2 i hi) (fun k hk' => hk k ((h2 i hi).lt k hk').1 (h5 i hi k hk')), h3, h4, h5⟩
theorem oss_rd {w : World} {lo hi n cap : Nat} {a : Option Addr} {cs : List (List Int)} (h : OSS w lo hi (.slice a n cap) cs) : n = cs.length ∧ RdSS w hi a cs := by
  obtain ⟨vs, hrow, h2, h3, h4, h5⟩ := h
  obtain ⟨h1, hx⟩ := id hrow
  have hvl : vs.length = cs.length := by simpa using h1
  rcases hx with ⟨hv, h0⟩ | ⟨g, cap', cur, hv, hg, hh, hc, hm, hs, ht⟩
  · simp only [Value.slice.injEq] at hv
    exact ⟨by omega, by unfold maxLen; omega, 0, 0, fun k hk => by omega⟩
  · simp only [Value.slice.injEq] at hv
    obtain ⟨rfl, rfl, rfl⟩ := hv
    refine ⟨rfl, Nat.le_trans hc hm, g, 0, fun k hk => ?_⟩
    have hck : w.cell? ⟨g, 0 + k, none⟩ = some (vs.getD k undef) := by
      rw [Nat.zero_add, cell_of_row w g k cur _ (0, 0) hh]
      have e : (cur.toList.take (cs.length * 1))[k]? = vs[k]? := by rw [ht]
      rw [List.getElem?_take, if_pos (by omega)] at e
      rw [← Array.getElem?_toList, e, List.getD_eq_getElem?_getD, List.getElem?_eq_getElem (by omega)]
      rfl
    obtain ⟨ra, rc, rb, hu, hr, hrs⟩ := oi_shape (⟨_, h2 k hk, h5 k hk⟩ : OI w lo hi (vs.getD k undef) (cs.getD k []))
    exact ⟨rfl, h4 g rfl, ra, rc, by rw [hck, hu], hrs⟩
/-- One row, read off and written anew in its own block. -/
theorem oss_row {w : World} {lo hi n cap : Nat} {a : Option Addr} {cs : List (List Int)} (h : OSS w lo hi (.slice a n cap) cs) :
    n = cs.length ∧ cs.length ≤ maxLen ∧ ∀ k, k < cs.length → ∃ g ra rc, a = some ⟨g, 0, none⟩ ∧ w.cell? ⟨g, k, none⟩ = some (.slice ra (cs.getD k []).length rc) ∧
      (w.ownsRow lo 3 1 (.slice ra (cs.getD k []).length rc) (cs.getD k []).length ((cs.getD k []).map (Value.int .i64)) ∧ ∀ b, (Value.slice ra (cs.getD k []).length rc).ownBlock = some b → b < hi) ∧
      ∀ (w' : World) (c' : List Int), w'.ownsRow lo 3 1 (.slice ra (cs.getD k []).length rc) c'.length (c'.map (Value.int .i64)) →
        (∀ k', (ra = none ∨ ∃ b, ra = some ⟨b, 0, none⟩ ∧ k' ≠ b) → w'.heap[k']? = w.heap[k']?) → OSS w' lo hi (.slice a n cap) (cs.set k c') := by
  obtain ⟨vs, hrow, h3, h4, hh1, hh2⟩ := h
  obtain ⟨h1, h2⟩ := id hrow
  have hvl : vs.length = cs.length := by simpa using h1
  rcases h2 with ⟨hv, h0⟩ | ⟨g, cap', cur, hv, hg, hh, hc, hm, hs, ht⟩
  · simp only [Value.slice.injEq] at hv
    exact ⟨by omega, by unfold maxLen; omega, fun k hk => by omega⟩
  · simp only [Value.slice.injEq] at hv
    obtain ⟨rfl, rfl, rfl⟩ := hv
    refine ⟨rfl, Nat.le_trans hc hm, fun k hk => ?_⟩
    have hck : w.cell? ⟨g, k, none⟩ = some (vs.getD k undef) := by
      rw [cell_of_row w g k cur _ (0, 0) hh]
      have e : (cur.toList.take (cs.length * 1))[k]? = vs[k]? := by rw [ht]
      rw [List.getElem?_take, if_pos (by omega)] at e
      rw [← Array.getElem?_toList, e, List.getD_eq_getElem?_getD, List.getElem?_eq_getElem (by omega)]
      rfl
    obtain ⟨-, ra, rc, rb, hu, hx, hr⟩ := own_shape (h3 k hk)
    have hbn := block_ne hrow (h3 k hk)
    refine ⟨g, ra, rc, rfl, by rw [hck, hu], by rw [← hu]; exact ⟨h3 k hk, hh2 k hk⟩, fun w' c' hown hkeep => ?_⟩
    have hblk : ∀ k', (∀ b, (vs.getD k undef).ownBlock = some b → k' ≠ b) → w'.heap[k']? = w.heap[k']? := fun k' hne => hkeep k' (hx.imp_right fun h => ⟨rb, h, hne rb (by rw [hu, h]; rfl)⟩)
    refine ⟨vs, ?_, fun i hi => ?_, fun i j hij hj => ?_, hh1, fun i hi => ?_⟩
    · rw [List.length_set]
      exact own_keep hrow (fun k' hk' => hblk k' (fun b hb e => hbn b hb (by rw [hk', e])))
    · rw [List.length_set] at hi
      by_cases hik : i = k
      · subst hik
        rw [show (cs.set i c').getD i [] = c' by simp [List.getD, hi], hu]
        exact hown
      · rw [show (cs.set k c').getD i [] = cs.getD i [] by simp [List.getD, Ne.symm hik]]
        refine own_keep (h3 i hi) (fun k' hk' => hblk k' (fun b hb e => ?_))
        subst e
        rcases Nat.lt_or_gt_of_ne hik with hl | hl
        · exact h4 i k hl hk k' hk' hb
        · exact h4 k i hl hi k' hb hk'
    · rw [List.length_set] at hj
      exact h4 i j hij hj
    · rw [List.length_set] at hi
      exact hh2 i hi
theorem oss_shape {w : World} {lo hi : Nat} {v : Value} {cs : List (List Int)} (h : OSS w lo hi v cs) : ∃ a cap, v = .slice a cs.length cap ∧ RdSS w hi a cs := by
  obtain ⟨a, n, cap, rfl⟩ := cells_shape (oss_cells h)
  obtain ⟨rfl, hr⟩ := oss_rd h
  exact ⟨a, cap, rfl, hr⟩
end Go.Proofs.Ytokhpchnnilbaaa

namespace Go.Proofs.Ytokhpchnnilbaaa
open Go.RowKit
set_option maxRecDepth 4000
/-- Sizes within the law's bound. -/
def SmallSS (cs : List (List Int)) : Prop := cs.length ≤ 1048576 ∧ ∀ k, (cs.getD k []).length ≤ 1048576
theorem copy_rows (cs : List (List Int)) (k : Nat) (hk : k < cs.length) : (cs.take k ++ List.replicate (cs.length - k) ([] : List Int)).set k (cs.getD k []) = cs.take (k + 1) ++ List.replicate (cs.length - (k + 1)) ([] : List Int) := by
  apply List.ext_getElem?
  intro i
  simp only [List.getElem?_set, List.length_append, List.length_take, List.length_replicate, List.getElem?_append, List.getElem?_take, List.getElem?_replicate]
  by_cases h1 : k = i
  · subst h1
    rw [if_pos rfl, if_pos (by omega), if_pos (by omega), if_pos (by omega), List.getD_eq_getElem?_getD, List.getElem?_eq_getElem hk]; rfl
  · rw [if_neg h1]
    by_cases h2 : i < k
    · rw [if_pos (by omega), if_pos h2, if_pos (by omega), if_pos (by omega)]
    · by_cases h3 : i < cs.length
      · rw [if_neg (by omega), if_pos (by omega), if_neg (by omega), if_pos (by omega)]
      · rw [if_neg (by omega), if_neg (by omega), if_neg (by omega), if_neg (by omega)]
theorem eqIntS_rd (xs : List Int) (a a' : Option Addr) (B B' cap cap' : Nat) (w : World) (h : RdS w B a xs) (h' : RdS w B' a' xs) :
    Calls Try.prog 21 #[.slice a xs.length cap, .slice a' xs.length cap'] w fun e w' => e = .returned (.bool true) ∧ Same w w' := by
  obtain ⟨b, off, h, -⟩ := h
  obtain ⟨b', off', h', -⟩ := h'
  exact eqIntS_same xs a a' b off b' off' _ _ cap cap' w rfl rfl h h'
theorem RdS.drewN {w : World} {B : Nat} {a : Option Addr} {xs : List Int} (h : RdS w B a xs) (m : Nat) : RdS (w.drewN m) B a xs := by
  obtain ⟨b, off, h, h2⟩ := h
  exact ⟨b, off, h.drewN m, h2⟩
theorem markIntS_chg (xs : List Int) (a : Option Addr) (lo hi cap : Nat) (k : Int) (w : World) (ho : OI w lo hi (.slice a xs.length cap) xs) (hk0 : 0 ≤ k) (hk : k + xs.length ≤ 9223372036854775807) :
    Calls Try.prog 22 #[.slice a xs.length cap, .int .i64 k] w fun e w' => e = .returned (.int .i64 (k + xs.length)) ∧ OI w' lo hi (.slice a xs.length cap) (mkd k xs.length xs) ∧ Chg lo hi w w' := by
  obtain ⟨et, ho⟩ := ho
  refine (markIntS_only et xs a lo xs.length cap k w ho.1 hk0 hk).mono ?_
  rintro e w' ⟨rfl, h1, h2, h3⟩
  obtain ⟨-, a', c', b, hv, hx, hr⟩ := own_shape ho.1
  simp only [Value.slice.injEq] at hv
  obtain ⟨rfl, -, rfl⟩ := hv
  refine ⟨rfl, ⟨et, by rw [mkd_len _ _ _ (Nat.le_refl _)]; exact h1, ho.2⟩, h2.os, h2.tape, h2.output, h2.size, fun j _ hj => h3 j ?_⟩
  rcases hx with h | h
  · exact .inl h
  · have h4 := (ho.1.lt b (by rw [h]; rfl)).1
    have h5 := ho.2 b (by rw [h]; rfl)
    exact .inr ⟨b, h, by omega⟩
theorem offs_big (ls : List Nat) (h : ∀ i, ls.getD i 0 ≤ 1048576) : ∀ j, offs ls j ≤ 1048576 * j
  | 0 => Nat.le_refl _
  | j + 1 => by have := offs_big ls h j; have := h j; simp only [offs]; omega
theorem heldIntS_rd (xs : List Int) (k : Int) (a : Option Addr) (B n cap : Nat) (w : World) (hn : (mkd k xs.length xs).length = n) (h : RdS w B a (mkd k xs.length xs)) (hk0 : 0 ≤ k) (hk : k + xs.length ≤ 9223372036854775807) :
    Calls Try.prog 23 #[.slice a n cap, .int .i64 k] w fun e w' => e = .returned (.int .i64 (k + n)) ∧ w = w' := by
  obtain ⟨b, off, h, -⟩ := h
  have hl : (mkd k xs.length xs).length = xs.length := mkd_len _ _ _ (Nat.le_refl _)
  exact heldIntS_yes _ a b off n cap k w hn h hk0 (by rw [hl]; exact hk) (fun j hj => mkd_all k xs j (by rw [hl] at hj; exact hj))
theorem rds_max {w : World} {B : Nat} {a : Option Addr} {xs : List Int} (h : RdS w B a xs) : xs.length ≤ maxLen := by
  obtain ⟨b, off, h, -⟩ := h
  exact h.1
theorem toIntS_rd (xs : List Int) (a : Option Addr) (cap B : Nat) (w : World) (h : RdS w B a xs) (hB : B ≤ w.heap.size) (hsz : xs.length ≤ 1048576) :
    Calls Try.prog 25 #[.slice a xs.length cap] w fun e w' => ∃ v, e = .returned v ∧ OI w' w.heap.size w'.heap.size v xs ∧ Below w.heap.size w w' := by
  obtain ⟨b, off, h, hb⟩ := h
  refine (toIntS_any xs a b off xs.length cap w rfl h (by omega) hsz).mono ?_
  rintro e w' ⟨v, rfl, ho, hb⟩
  exact ⟨v, rfl, oi_new ho, hb⟩
theorem small_lens {cs : List (List Int)} (h : SmallSS cs) : ∃ ls : List Nat, Lens ls cs ∧ (∀ i, ls.getD i 0 ≤ 1048576) ∧ ls.length ≤ 1048576 :=
  ⟨cs.map List.length, lens_self cs, fun i => by rw [← (lens_self cs).2 i]; exact h.2 i, by simpa using h.1⟩
theorem oss_rds {w : World} {lo hi cap : Nat} {a : Option Addr} {cs : List (List Int)} (h : OSS w lo hi (.slice a cs.length cap) cs) : RdSS w hi a cs := (oss_rd h).2
theorem oss_rds2 {w : World} {lo hi n cap : Nat} {a : Option Addr} {cs : List (List Int)} (h : OSS w lo hi (.slice a n cap) cs) : RdSS w hi a cs := (oss_rd h).2
theorem oi_rds2 {w : World} {lo hi n cap : Nat} {a : Option Addr} {xs : List Int} (h : OI w lo hi (.slice a n cap) xs) : RdS w hi a xs := by
  obtain ⟨a', c', b, hv, -, hr⟩ := oi_shape h
  simp only [Value.slice.injEq] at hv
  obtain ⟨rfl, -, rfl⟩ := hv
  exact hr
theorem oi_rds {w : World} {lo hi cap : Nat} {a : Option Addr} {xs : List Int} (h : OI w lo hi (.slice a xs.length cap) xs) : RdS w hi a xs := oi_rds2 h
end Go.Proofs.Ytokhpchnnilbaaa

namespace Go.Proofs.Ytokhpchnnilbaaa
open Go.RowKit Go.ChangeShapes Go.WideShapes
set_option maxRecDepth 4000
/-- A slice of slices that came in, opened. -/
theorem rdss_open {H : Type} {enc : TypeId × Value → H} {W : World} {base : Nat} {held : Bool} {fuel : Nat} {a : Option Addr} {len cap : Nat} {x : DataW H × List MemPlace}
    (hf : DataW.trod enc Try.prog W base (fun _ => true) held fuel 56 (Value.slice a len cap).cells.toList = some x) : ∃ cs : List (List Int), len = cs.length ∧ RdSS W W.heap.size a cs := by
  rcases Go.Deep.open_int_rows Try.underlying56 Try.underlying25 Try.underlying3 (by kernel_rfl) (by kernel_rfl) hf with ⟨hcs, _⟩ | ⟨p, l, c, A, L, C, Z, hcs, _, hl, hm, _, hrow⟩
  · simp [Value.cells] at hcs
    obtain ⟨rfl, rfl, rfl⟩ := hcs
    exact ⟨[], rfl, by simp [maxLen], 0, 0, fun k hk => by simp at hk⟩
  · simp [Value.cells] at hcs
    obtain ⟨rfl, rfl, rfl⟩ := hcs
    have hg : ∀ k, k < len → ((List.range len).map (fun r => (Z r).take (L r))).getD k [] = (Z k).take (L k) := fun k hk => by
      rw [List.getD_eq_getElem?_getD, List.getElem?_map, List.getElem?_range hk]; rfl
    refine ⟨(List.range len).map (fun r => (Z r).take (L r)), by simp, by simp; omega, p.block, p.off, fun k hk => ?_⟩
    rw [List.length_map, List.length_range] at hk
    rw [hg k hk]
    have h0 := (hrow 0 (by omega)).1
    obtain ⟨h1, h2, h3, h4, h5, h6, h7⟩ := hrow k (by omega)
    have hlen : ((Z k).take (L k)).length = L k := by simp; omega
    have hsp := World.cell?_spot h0
    have hbl := World.block_lt_of_cell? W _ h0
    obtain ⟨b, off, spot⟩ := p
    have hspot : spot = none := by simpa [Addr.add] using hsp
    subst hspot
    refine ⟨rfl, by simpa [Addr.add] using hbl, A k, C k, by rw [hlen]; rw [show (Addr.add ⟨b, off, none⟩ k : Addr) = ⟨b, off + k, none⟩ from Addr.add_lit ..] at h1; exact h1, ?_⟩
    by_cases hL : L k = 0
    · refine ⟨0, 0, ⟨by rw [hlen, hL]; simp [maxLen], fun j hj => by rw [hlen, hL] at hj; omega⟩, .inl (by rw [hlen, hL])⟩
    · cases hA : A k with
      | none => exact absurd (h6 hA) (by omega)
      | some a' =>
        obtain ⟨-, hc⟩ := h7 a' hA
        have hc0 := hc 0 (by omega)
        have hsp := World.cell?_spot hc0
        have hbl := World.block_lt_of_cell? W _ hc0
        obtain ⟨b', off', spot'⟩ := a'
        have hspot : spot' = none := by simpa [Addr.add] using hsp
        subst hspot
        refine ⟨b', off', ⟨by rw [hlen]; omega, fun j hj => ⟨rfl, ?_⟩⟩, .inr (by simpa [Addr.add] using hbl)⟩
        rw [hlen] at hj
        have h := hc j (by omega)
        rw [show (Addr.add ⟨b', off', none⟩ j : Addr) = ⟨b', off' + j, none⟩ from Addr.add_lit ..] at h
        rw [h]
        simp [List.getD, hj]
end Go.Proofs.Ytokhpchnnilbaaa
