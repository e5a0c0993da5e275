import Derived.Maps.AppendAt
import Derived.Test.YtokhpchnnilbaaaN18a
import Derived.Test.YtokhpchnnilbaaaN10
import Derived.Test.YtokhpchnnilbaaaZa
namespace Go.Proofs.Ytokhpchnnilbaaa
open Go.RowKit
set_option maxRecDepth 4000
/-- A list of rows of the call's own; rows may be shared with other lists; an empty row is nil. -/
def LS (w : World) (base : Nat) (v : Value) (ls : List (List Int)) : Prop :=
  ∃ vs : List Value, w.ownsRow base 25 1 v ls.length vs ∧ ∀ k, k < ls.length → w.ownsRow base 3 1 (vs.getD k undef) (ls.getD k []).length ((ls.getD k []).map (Value.int .i64)) ∧ (vs.getD k undef).oneCell' = true ∧ ((ls.getD k []).length = 0 → vs.getD k undef = .slice none 0 0)
theorem ls_nil (w : World) (base : Nat) : LS w base (.slice none 0 0) [] := ⟨[], World.ownsRow_nil _ _ _ _, fun k hk => by simp at hk⟩
theorem ls_now {w w' : World} {base : Nat} {v : Value} {ls : List (List Int)} (h : LS w base v ls) (hb : Below w.heap.size w w') : LS w' base v ls := by
  obtain ⟨vs, h1, h2⟩ := h
  exact ⟨vs, own_now h1 hb, fun k hk => ⟨own_now (h2 k hk).1 hb, (h2 k hk).2⟩⟩
theorem own_low9 {w : World} {base base' e size n : Nat} {v : Value} {xs : List Value} (h : w.ownsRow base e size v n xs) (hb : base' ≤ base) : w.ownsRow base' e size v n xs := ⟨h.1, by
  rcases h.2 with h | ⟨g, cap, cur, hv, hg', r⟩
  · exact .inl h
  · exact .inr ⟨g, cap, cur, hv, by omega, r⟩⟩
theorem ls_low {w : World} {base base' : Nat} {v : Value} {ls : List (List Int)} (h : LS w base v ls) (hb : base' ≤ base) : LS w base' v ls := by
  obtain ⟨vs, h1, h2⟩ := h
  exact ⟨vs, own_low9 h1 hb, fun k hk => ⟨own_low9 (h2 k hk).1 hb, (h2 k hk).2⟩⟩
theorem ls_lt {w : World} {base : Nat} {v : Value} {ls : List (List Int)} (h : LS w base v ls) : ∀ k, v.ownBlock = some k → base ≤ k ∧ k < w.heap.size := by
  obtain ⟨vs, h1, h2⟩ := h
  exact fun k hk => h1.lt k hk
/-- What can be read. -/
theorem ls_read {w : World} {base : Nat} {v : Value} {ls : List (List Int)} (h : LS w base v ls) : ∃ a cap b, ∃ vs : Nat → Value, v = .slice a ls.length cap ∧ ∀ k, k < ls.length → a = some ⟨b, 0, none⟩ ∧ base ≤ b ∧ b < w.heap.size ∧ w.cell? ⟨b, k, none⟩ = some (vs k) ∧ w.ownsRow base 3 1 (vs k) (ls.getD k []).length ((ls.getD k []).map (Value.int .i64)) ∧ (vs k).oneCell' = true ∧ ((ls.getD k []).length = 0 → vs k = .slice none 0 0) := by
  obtain ⟨vs, h1, h2⟩ := h
  have hl : vs.length = ls.length := by simpa using h1.1
  rcases id h1.2 with ⟨rfl, hn⟩ | ⟨g, cap, cur, rfl, hg, hh, r⟩
  · exact ⟨none, 0, 0, fun _ => undef, by rw [hn], fun k hk => by omega⟩
  · refine ⟨_, cap, g, fun k => vs.getD k undef, rfl, fun k hk => ⟨rfl, hg, (h1.lt g rfl).2, ?_, h2 k hk⟩⟩
    have := h1.cellAt k (by omega)
    rw [this]
    show _ = some (vs.getD k undef)
    rw [List.getElem?_eq_getElem (by omega), List.getD_eq_getElem?_getD, List.getElem?_eq_getElem (by omega)]
    rfl
theorem row_read {w : World} {base : Nat} {v : Value} {xs : List Int} (h : w.ownsRow base 3 1 v xs.length (xs.map (Value.int .i64))) (h0 : 0 < xs.length) : ∃ cap b, v = .slice (some ⟨b, 0, none⟩) xs.length cap ∧ base ≤ b ∧ b < w.heap.size ∧ ∀ j, j < xs.length → w.cell? ⟨b, j, none⟩ = some (.int .i64 (xs.getD j 0)) := by
  obtain ⟨-, a, cap, b, rfl, hx, hr⟩ := own_shape h
  obtain ⟨e1, -⟩ := hr.2 0 h0
  subst e1
  refine ⟨cap, b, rfl, (h.lt b rfl).1, (h.lt b rfl).2, fun j hj => ?_⟩
  have := (hr.2 j hj).2
  rw [Nat.zero_add] at this
  exact this
section
variable {ops : Array Oper} {rest : List Oper} {o : Oper} {a : Act} {Q : Exit → Act → World → Prop}
theorem append_ls (base g : Nat) (w0 : World) (v u : Value) (cs : List (List Int)) (c : List Int)
    (hgd : o.guard = none) (s y : Operand) (ho : o.op = .call { callee := .builtin .append, args := #[s, y], argTypes := #[57, 57] })
    (hs : a.eval s = v) (hx : a.eval y = .slice (some ⟨g, 0, none⟩) 1 1) (hg : g = w0.heap.size)
    (hci : LS w0 base v cs) (hu : w0.ownsRow base 3 1 u c.length (c.map (Value.int .i64))) (hu1 : u.oneCell' = true) (hu0 : c.length = 0 → u = .slice none 0 0) (hbase : base ≤ w0.heap.size) (hlen : cs.length < 1000000000)
    (h : ∀ v' w', LS w' base v' (cs ++ [c]) → w0.grownBy w' v.ownBlock → (v'.ownBlock = v.ownBlock ∨ ∃ b, v'.ownBlock = some b ∧ w0.heap.size ≤ b) → wpList Try.prog ops Q rest (a.put o.dst v') w') :
    wpList Try.prog ops Q (o :: rest) a (w0.alloc (.cells #[u] 25)) := by
  subst hg
  obtain ⟨vs, h1, h2⟩ := hci
  have hvl : vs.length = cs.length := by simpa using h1.1
  obtain ⟨i0, hi, hz0, hz1, hz2⟩ := info_parts rowsInfo
  refine wpList_append_own_at _ hgd s y 57 ho base 25 i0 (.slice none 0 0) 1 24 Try.underlying57 hi hz0 hz1 hz2 rfl (by decide) v cs.length _ hs (h1.alloc _) ⟨w0.heap.size, 0, none⟩ 1 1 [u] hx rfl ?_ ?_ ?_ ?_ ?_ ?_
  · intro j x hj
    match j, hj with
    | 0, hj =>
      simp at hj; subst hj
      simp only [Addr.add, if_pos]
      rw [World.cell?_alloc_at _ _ _ _ rfl]; rfl
  · intro x hx'; simp at hx'; subst hx'; exact hu1
  · unfold maxLen; omega
  · omega
  · simp; omega
  · intro v' w1 hown' hgrow _ hloc
    have keep : ∀ (x : Value) (n : Nat) (xs : List Value), w0.ownsRow base 3 1 x n xs → w1.ownsRow base 3 1 x n xs := fun x n xs hrow =>
      (hrow.alloc (.cells #[u] 25)).kept hgrow (by
        cases hn : x.ownBlock with
        | none => exact .inl rfl
        | some k => exact .inr (block_ne h1 hrow k hn))
    have eL : ∀ k, k < cs.length → (vs ++ [u]).getD k undef = vs.getD k undef := fun k hk2 => by simp [List.getD, List.getElem?_append, hvl, hk2]
    have eR : (vs ++ [u]).getD cs.length undef = u := by simp [List.getD, ← hvl]
    have fL : ∀ k, k < cs.length → (cs ++ [c]).getD k [] = cs.getD k [] := fun k hk2 => by simp [List.getD, List.getElem?_append, hk2]
    have fR : (cs ++ [c]).getD cs.length [] = c := by simp [List.getD]
    refine h v' w1 ⟨vs ++ [u], by simpa using hown', fun k hk => ?_⟩ ((World.grownBy_alloc w0 _ v.ownBlock).trans hgrow) ?_
    · by_cases hk2 : k < cs.length
      · rw [eL k hk2, fL k hk2]
        exact ⟨keep _ _ _ (h2 k hk2).1, (h2 k hk2).2⟩
      · have : k = cs.length := by simp at hk; omega
        subst this
        rw [eR, fR]
        exact ⟨keep _ _ _ hu, hu1, hu0⟩
    · rcases hloc with e | e
      · exact .inl e
      · exact .inr ⟨_, e, by simp⟩
end
/-- Lists of so many cuts, the first one from f on, in order. -/
def clF (g : Nat → List (List Int)) (f : Nat) : Nat → List (List Int)
  | 0 => []
  | m + 1 => clF g f m ++ g (f + m)
def cl (n : Nat) : Nat → Nat → List (List Int)
  | 0, _ => [[]]
  | k + 1, f => clF (fun x => (cl n k (x + 1)).map (fun l => (x : Int) :: l)) f (n - f)
theorem clF_len (g : Nat → List (List Int)) (f B : Nat) (h : ∀ x, (g x).length ≤ B) : ∀ m, (clF g f m).length ≤ m * B
  | 0 => by simp [clF]
  | m + 1 => by
    have := clF_len g f B h m
    have := h (f + m)
    simp only [clF, List.length_append, Nat.succ_mul]
    omega
theorem cl_len (n : Nat) (hn : n ≤ 16) : ∀ k f, (cl n k f).length ≤ 16 ^ k
  | 0, f => by simp [cl]
  | k + 1, f => by
    have ih := cl_len n hn k
    have h := clF_len (fun x => (cl n k (x + 1)).map (fun l => (x : Int) :: l)) f (16 ^ k) (fun x => by simpa using ih (x + 1)) (n - f)
    simp only [cl]
    refine Nat.le_trans h ?_
    rw [Nat.pow_succ, Nat.mul_comm]
    exact Nat.mul_le_mul_left _ (by omega)
theorem clF_mem (g : Nat → List (List Int)) (f : Nat) (l : List Int) : ∀ m, l ∈ clF g f m ↔ ∃ j, j < m ∧ l ∈ g (f + j)
  | 0 => by simp [clF]
  | m + 1 => by
    simp only [clF, List.mem_append, clF_mem g f l m]
    constructor
    · rintro (⟨j, hj, h⟩ | h)
      · exact ⟨j, by omega, h⟩
      · exact ⟨m, by omega, h⟩
    · rintro ⟨j, hj, h⟩
      by_cases e : j < m
      · exact .inl ⟨j, e, h⟩
      · have : j = m := by omega
        subst this; exact .inr h
theorem cl_row (n : Nat) : ∀ k f l, l ∈ cl n k f → l.length = k
  | 0, f, l, h => by simp [cl] at h; simp [h]
  | k + 1, f, l, h => by
    simp only [cl, clF_mem, List.mem_map] at h
    obtain ⟨j, -, l', h1, rfl⟩ := h
    simp [cl_row n k _ l' h1]
theorem getD_mem9 {α : Type} {l : List α} {d : α} {j : Nat} (h : j < l.length) : l.getD j d ∈ l := by
  rw [List.getD_eq_getElem?_getD, List.getElem?_eq_getElem h]; exact List.getElem_mem h
theorem take_map_snoc (l : List (List Int)) (x : Int) (j : Nat) (h : j < l.length) : ((l.take (j + 1)).map (fun r => x :: r)) = (l.take j).map (fun r => x :: r) ++ [x :: l.getD j []] := by
  rw [List.take_add_one, List.getElem?_eq_getElem h, List.getD_eq_getElem?_getD, List.getElem?_eq_getElem h]
  simp only [List.map_append, List.map_cons, List.map_nil, Option.toList_some, Option.getD_some]
set_option maxHeartbeats 800000 in
theorem cutLists_zero (s : ByteArray) (f : Int) (w : World) :
    Calls Try.prog 79 #[.string s, .int .i64 0, .int .i64 f] w fun e w' => ∃ v, e = .returned v ∧ LS w' w.heap.size v [[]] ∧ Below w.heap.size w w' := by
  have hba := balloc (Below.refl w.heap.size w) (.cells #[.slice none 0 0] 25)
  have hL : LS (w.alloc (.cells #[.slice none 0 0] 25)) w.heap.size (.slice (some ⟨w.heap.size, 0, none⟩) 1 1) [[]] :=
    ⟨[.slice none 0 0], ⟨rfl, .inr ⟨w.heap.size, 1, #[.slice none 0 0], rfl, Nat.le_refl _, heap_alloc_new w _, Nat.le_refl _, by simp [maxLen], rfl, rfl⟩⟩, fun k hk => by
      have : k = 0 := by simp at hk; omega
      subst this
      exact ⟨World.ownsRow_nil _ _ _ _, rfl, fun _ => rfl⟩⟩
  go_enter Try.func79, Try.ntmps79
  go_wp2_with fail
  go_ret
  exact ⟨_, rfl, hL, hba⟩
end Go.Proofs.Ytokhpchnnilbaaa
