import Derived.Test.YtelchpdlfedleaaZa
import Derived.Test.YtelchpdlfedleaaZb
namespace Go.Proofs.Ytelchpdlfedleaa
/-- A walk through doors comes to no room twice: each room that it leaves has two doors, each door is in two rooms at most, and the door at the beginning is in the first room alone. -/
theorem walk_inj {α : Type} (k : Nat → Nat) (d : Nat → α) (N : Nat) (mem : α → Nat → Prop)
    (hin : ∀ i, i ≤ N → mem (d i) (k i)) (hout : ∀ i, i < N → mem (d (i + 1)) (k i)) (hne : ∀ i, i < N → d (i + 1) ≠ d i) (hk : ∀ i, i < N → k (i + 1) ≠ k i)
    (htwo : ∀ i, i < N → ∀ e, mem e (k i) → e = d i ∨ e = d (i + 1)) (hcells : ∀ e a b c, mem e a → mem e b → mem e c → a ≠ b → a ≠ c → b = c)
    (hstart : ∀ a, mem (d 0) a → a = k 0) : ∀ j, j ≤ N → ∀ i, i < j → k i ≠ k j := by
  intro j
  induction j using Nat.strongRecOn with
  | _ j ih =>
    intro hj i hij he
    obtain ⟨m, rfl⟩ : ∃ m, j = m + 1 := ⟨j - 1, by omega⟩
    have hom := hout m (by omega)
    have hkm := hk m (by omega)
    have hmem := hin (m + 1) hj
    rw [← he] at hmem
    rcases htwo i (by omega) _ hmem with e | e
    · match i, hij, he, e, hmem with
      | 0, _, he, e, _ =>
        rw [e] at hom
        have := hstart _ hom
        exact hkm (by rw [this, he])
      | i + 1, hij, he, e, hmem =>
        have h1 := hout i (by omega)
        rw [e] at hom hmem
        have h2 := hcells (d (i + 1)) (k (i + 1)) (k m) (k i) hmem hom h1 (by rw [he]; exact hkm) (hk i (by omega))
        exact ih m (by omega) (by omega) i (by omega) h2.symm
    · have h1 := hin (i + 1) (by omega)
      rw [e] at hom hmem
      have h2 := hcells (d (i + 1)) (k i) (k m) (k (i + 1)) hmem hom h1 (by rw [he]; exact hkm) (fun h => hk i (by omega) h.symm)
      by_cases hlt : i + 1 < m
      · exact ih m (by omega) (by omega) (i + 1) hlt h2.symm
      · by_cases heq : i + 1 = m
        · subst heq
          exact hne (i + 1) (by omega) e
        · have : i = m := by omega
          subst this
          exact hkm (by rw [← he])
/-- .. so that it is no longer than there are rooms. -/
theorem inj_le : ∀ (M : Nat) (k : Nat → Nat) (N : Nat), (∀ i, i ≤ N → k i < M) → (∀ j, j ≤ N → ∀ i, i < j → k i ≠ k j) → N + 1 ≤ M
  | 0, k, N, hb, _ => absurd (hb 0 (Nat.zero_le _)) (Nat.not_lt_zero _)
  | M + 1, k, N, hb, hinj => by
    by_cases h : ∃ i, i ≤ N ∧ k i = M
    · obtain ⟨q, hq, hM⟩ := h
      match N, hb, hinj, hq with
      | 0, _, _, _ => omega
      | N + 1, hb, hinj, hq =>
        have hd : ∀ i, i ≤ N + 1 → i ≠ q → k i ≠ M := fun i hi hne e => by
          rcases Nat.lt_or_gt_of_ne hne with h | h
          · exact hinj q hq i h (by rw [e, hM])
          · exact hinj i hi q h (by rw [e, hM])
        have := inj_le M (fun i => if i < q then k i else k (i + 1)) N (fun i hi => by
          by_cases hlt : i < q
          · simp only [hlt, if_true]
            have h1 := hb i (by omega)
            have h2 := hd i (by omega) (by omega)
            omega
          · simp only [hlt, if_false]
            have h1 := hb (i + 1) (by omega)
            have h2 := hd (i + 1) (by omega) (by omega)
            omega) (fun j hj i hij => by
          by_cases h1 : i < q
          · by_cases h2 : j < q
            · simp only [h1, h2, if_true]; exact hinj j (by omega) i hij
            · simp only [h1, h2, if_true, if_false]; exact hinj (j + 1) (by omega) i (by omega)
          · have h2 : ¬ j < q := by omega
            simp only [h1, h2, if_false]; exact hinj (j + 1) (by omega) (i + 1) (by omega))
        omega
    · have := inj_le M k N (fun i hi => by
        have h1 := hb i hi
        have h2 : k i ≠ M := fun e => h ⟨i, hi, e⟩
        omega) hinj
      omega
end Go.Proofs.Ytelchpdlfedleaa

namespace Go.Proofs.Ytelchpdlfedleaa
open Go.RowKit
set_option maxRecDepth 4000
/-- Whether a number is in a list. -/
def hasB (xs : List Int) (v : Int) : Bool := decide (v ∈ xs)
theorem hasB_step (xs : List Int) (v : Int) (k : Nat) (hk : k < xs.length) (h : hasB (xs.take k) v = false) :
    (((xs.getD k 0 == v) = true → hasB xs v = true) ∧ ((xs.getD k 0 == v) = false → hasB (xs.take (k + 1)) v = false)) := by
  have e : xs.take (k + 1) = xs.take k ++ [xs.getD k 0] := by
    rw [List.take_add_one, List.getD_eq_getElem?_getD, List.getElem?_eq_getElem hk]; rfl
  refine ⟨fun hx => ?_, fun hx => ?_⟩
  · simp only [beq_iff_eq] at hx
    simp only [hasB, decide_eq_true_eq]
    rw [← hx, List.getD_eq_getElem?_getD, List.getElem?_eq_getElem hk]
    exact List.getElem_mem hk
  · simp only [hasB, decide_eq_false_iff_not, e, List.mem_append, List.mem_singleton] at h ⊢
    simp only [beq_eq_false_iff_ne] at hx
    exact fun hh => hh.elim h (fun hh => hx hh.symm)
set_option maxHeartbeats 400000 in
theorem l1Has_any (xs : List Int) (v : Int) (a : Option Addr) (b off n cap : Nat) (w : World) (hn : xs.length = n) (h : Rd w a b off xs) :
    Calls Try.prog 145 #[.slice a n cap, .int .i64 v] w fun e w' => e = .returned (.bool (hasB xs v)) ∧ w = w' := by
  subst hn
  obtain ⟨hm, hc⟩ := h
  unfold maxLen at hm
  have HC := Lib.hid hc
  clear hc
  go_enter Try.func145, Try.ntmps145
  go_wp2
  go_loop [9] (fun v9 => ∃ k : Nat, k ≤ xs.length ∧ v9 = .int .i64 k ∧ Hid (hasB (xs.take k) v = false)) (fun v9 => xs.length - (intOf v9).toNat)
  case atStart => exact ⟨0, Nat.zero_le _, rfl, Lib.hid (by simp [hasB])⟩
  case round =>
    obtain ⟨k, hk, rfl, hf⟩ := hrel
    by_cases hlt : k < xs.length
    · obtain ⟨ha, c⟩ := HC.out k hlt
      subst ha
      have HS := Lib.hid (hasB_step xs v k hlt hf.out)
      have hi : (k : Int) < (xs.length : Int) := by omega
      generalize xs.getD k 0 = x at c HS
      cases hx : (x == v)
      · have H2 := Lib.hid (HS.out.2 hx)
        go_wp2
        go_round
        case rel => exact ⟨k + 1, by omega, by go_num, H2⟩
        case measure => simp [intOf]; omega
      · have H2 := Lib.hid (HS.out.1 hx)
        go_wp2
        go_ret
        exact ⟨by rw [H2.out]; rfl, rfl⟩
    · have H2 : Hid (hasB xs v = false) := by
        have := hf.out
        rwa [show k = xs.length by omega, List.take_length] at this
      go_wp2
      go_ret
      exact ⟨by rw [H2.out]; rfl, rfl⟩
set_option maxHeartbeats 400000 in
theorem index_any (xs : List Int) (v : Int) (a : Option Addr) (b off n cap : Nat) (w : World) (hn : xs.length = n) (h : Rd w a b off xs) :
    Calls Try.prog 151 #[.slice a n cap, .int .i64 v] w fun e w' => (∃ r : Int, e = .returned (.int .i64 r) ∧ decide (0 ≤ r) = hasB xs v) ∧ w = w' := by
  subst hn
  obtain ⟨hm, hc⟩ := h
  unfold maxLen at hm
  have HC := Lib.hid hc
  clear hc
  go_enter Try.func151, Try.ntmps151
  go_wp2
  go_loop [8] (fun v8 => ∃ k : Nat, k ≤ xs.length ∧ v8 = .int .i64 k ∧ Hid (hasB (xs.take k) v = false)) (fun v8 => xs.length - (intOf v8).toNat)
  case atStart => exact ⟨0, Nat.zero_le _, rfl, Lib.hid (by simp [hasB])⟩
  case round =>
    obtain ⟨k, hk, rfl, hf⟩ := hrel
    by_cases hlt : k < xs.length
    · obtain ⟨ha, c⟩ := HC.out k hlt
      subst ha
      have HS := Lib.hid (hasB_step xs v k hlt hf.out)
      have hi : (k : Int) < (xs.length : Int) := by omega
      generalize xs.getD k 0 = x at c HS
      cases hx : (v == x)
      · have H2 := Lib.hid (HS.out.2 ((BEq.comm (a := x) (b := v)).trans hx))
        go_wp2
        go_round
        case rel => exact ⟨k + 1, by omega, by go_num, H2⟩
        case measure => simp [intOf]; omega
      · have H2 := Lib.hid (HS.out.1 ((BEq.comm (a := x) (b := v)).trans hx))
        go_wp2
        go_ret
        exact ⟨⟨_, rfl, by rw [H2.out]; simp⟩, rfl⟩
    · have H2 : Hid (hasB xs v = false) := by
        have := hf.out
        rwa [show k = xs.length by omega, List.take_length] at this
      go_wp2
      go_ret
      exact ⟨⟨_, rfl, by rw [H2.out]; rfl⟩, rfl⟩
set_option maxHeartbeats 400000 in
theorem contains_any (xs : List Int) (v : Int) (a : Option Addr) (b off n cap : Nat) (w : World) (hn : xs.length = n) (h : Rd w a b off xs) :
    Calls Try.prog 149 #[.slice a n cap, .int .i64 v] w fun e w' => e = .returned (.bool (hasB xs v)) ∧ w = w' := by
  go_enter Try.func149, Try.ntmps149
  go_wp2_with fail
  refine (index_any xs v a b off n cap _ hn h).mono ?_
  rintro e w1 ⟨⟨r, rfl, hr⟩, rfl⟩
  have HR := Lib.hid hr
  clear hr
  go_wp2_with fail
  go_ret
  exact ⟨by rw [← HR.out]; rfl, rfl⟩
set_option maxHeartbeats 400000 in
theorem trioHas_any (x y z v : Int) (w : World) :
    Calls Try.prog 146 #[.agg #[.int .i64 x, .int .i64 y, .int .i64 z], .int .i64 v] w fun e w' => e = .returned (.bool (hasB [x, y, z] v)) ∧ Below w.heap.size w w' := by
  go_enter Try.func146, Try.ntmps146
  go_wp2_with fail
  refine (contains_any [x, y, z] v _ w.heap.size 0 _ _ _ rfl ⟨by simp [maxLen], fun j hj => ⟨rfl, ?_⟩⟩).mono ?_
  · rw [cell_of_row _ _ _ _ _ (0, 0) (heap_alloc_new w _)]
    match j, hj with
    | 0, _ => rfl
    | 1, _ => rfl
    | 2, _ => rfl
    | j + 3, hj => exact absurd hj (by simp)
  · rintro e w1 ⟨rfl, rfl⟩
    go_wp2_with fail
    go_ret
    exact ⟨rfl, by go_grown⟩
end Go.Proofs.Ytelchpdlfedleaa

namespace Go.Proofs.Ytelchpdlfedleaa
open Go.RowKit
set_option maxRecDepth 4000
/-- Whether the cell k has both points. -/
def withB (cs : List (List Int)) (i j : Int) (k : Nat) : Bool := hasB (cs.getD k []) i && hasB (cs.getD k []) j
set_option maxHeartbeats 800000 in
theorem meWith_any (cs : List (List Int)) (i j : Int) (a : Option Addr) (base n cap : Nat) (w : World) (hc : CellsV w base (.slice a n cap) cs) (hl : cs.length ≤ 1000) :
    Calls Try.prog 139 #[.slice a n cap, .int .i64 i, .int .i64 j] w fun e w' => ∃ v, e = .returned v ∧ w'.ownsRow w.heap.size 3 1 v (flt (withB cs i j) cs.length).length ((flt (withB cs i j) cs.length).map (Value.int .i64)) ∧ Below w.heap.size w w' := by
  obtain ⟨rfl, -, hrows⟩ := cells_row hc
  have HR := Lib.hid hrows
  clear hrows hc
  go_enter Try.func139, Try.ntmps139
  go_wp2_with fail
  go_loopw [7, 12] (fun v7 v12 wr => ∃ k : Nat, k ≤ cs.length ∧ v12 = .int .i64 k ∧ wr.ownsRow w.heap.size 3 1 v7 (flt (withB cs i j) k).length ((flt (withB cs i j) k).map (Value.int .i64)) ∧ Below w.heap.size w wr) (fun _ v12 _ => cs.length - (intOf v12).toNat)
  case atStart => exact ⟨0, Nat.zero_le _, rfl, World.ownsRow_nil _ _ _ _, Below.refl _ _⟩
  case round =>
    obtain ⟨k, hk, rfl, ho, hb⟩ := hrel
    have hfl := flt_len (withB cs i j) k
    by_cases hlt : k < cs.length
    · obtain ⟨g, ra, rc, rb, rfl, -, hgl, c1, hx, hr, -, -⟩ := HR.out k hlt
      have c1 := (hb.cell (p := ⟨g, k, none⟩) hgl).trans c1
      have hr1 := hr.below hb (hx.imp_right fun h => h.2.1)
      have HW : Hid (withB cs i j k = (hasB (cs.getD k []) i && hasB (cs.getD k []) j)) := rfl
      have hz := hb.size
      have hi : (k : Int) < (cs.length : Int) := by omega
      have HY := Lib.hid (flt_yes (withB cs i j) k)
      have HN := Lib.hid (flt_no (withB cs i j) k)
      generalize cs.getD k [] = c at c1 hr1 HW
      clear hr hx
      go_wp2_with fail
      refine (l1Has_any c i ra rb 0 _ rc _ rfl hr1).mono ?_
      rintro e w' ⟨rfl, rfl⟩
      cases h1 : hasB c i
      · have e := Lib.hid (HN.out (by rw [HW.out, h1]; rfl))
        clear h1
        go_wp2_with fail
        go_roundw
        case rel => exact ⟨k + 1, by omega, by go_num, by rw [e.out]; exact ho, hb⟩
        case measure => simp [intOf]; omega
      · have H1 := Lib.hid h1
        clear h1
        go_wp2_with fail
        refine (l1Has_any c j ra rb 0 _ rc _ rfl hr1).mono ?_
        rintro e w' ⟨rfl, rfl⟩
        cases h2 : hasB c j
        · have e := Lib.hid (HN.out (by rw [HW.out, H1.out, h2]; rfl))
          clear h2
          go_wp2_with fail
          go_roundw
          case rel => exact ⟨k + 1, by omega, by go_num, by rw [e.out]; exact ho, hb⟩
          case measure => simp [intOf]; omega
        · have e := Lib.hid (HY.out (by rw [HW.out, H1.out, h2]; rfl))
          clear h2
          go_wp2_with (at_builtin; refine append_int w.heap.size _ _ (flt (withB cs i j) k) _ rfl _ _ rfl rfl rfl ho hz (by omega) ?_; intro v' w3 ho3 hb3)
          go_roundw
          case rel => exact ⟨k + 1, by omega, by go_num, by rw [e.out]; exact ho3, hb.trans hb3⟩
          case measure => simp [intOf]; omega
    · have hk2 : k = cs.length := by omega
      subst hk2
      go_wp2_with fail
      obtain ⟨-, a', c', b', rfl, -, -⟩ := own_shape ho
      go_ret
      exact ⟨_, rfl, ho, hb⟩
end Go.Proofs.Ytelchpdlfedleaa

namespace Go.Proofs.Ytelchpdlfedleaa
open Go.RowKit
set_option maxRecDepth 4000
/-- A door with its lesser point first. -/
def inner (p : Int × Int) : Int × Int := (if p.1 < p.2 then p.1 else p.2, if p.1 > p.2 then p.1 else p.2)
/-- The same two points, in either order. -/
def sameB (p q : Int × Int) : Bool := (p.1 == q.1 && p.2 == q.2) || (p.1 == q.2 && p.2 == q.1)
theorem same_inner (p q : Int × Int) : sameB p q = decide (inner p = inner q) := by
  obtain ⟨a, b⟩ := p
  obtain ⟨c, d⟩ := q
  by_cases h : sameB (a, b) (c, d) = true
  · rw [h]
    symm
    simp only [decide_eq_true_eq, inner, Prod.mk.injEq]
    simp only [sameB, Bool.or_eq_true, Bool.and_eq_true, beq_iff_eq] at h
    rcases h with ⟨rfl, rfl⟩ | ⟨rfl, rfl⟩
    · exact ⟨rfl, rfl⟩
    · constructor <;> split <;> split <;> omega
  · rw [Bool.not_eq_true] at h
    rw [h]
    symm
    simp only [decide_eq_false_iff_not, inner, Prod.mk.injEq]
    intro ⟨h1, h2⟩
    simp only [sameB, Bool.or_eq_false_iff, Bool.and_eq_false_iff, beq_eq_false_iff_ne] at h
    split at h1 <;> split at h1 <;> split at h2 <;> split at h2 <;> omega
theorem inner_sorted {p : Int × Int} (h : p.1 < p.2) : inner p = p := by
  obtain ⟨a, b⟩ := p
  simp only [inner] at h ⊢
  rw [if_pos h, if_neg (by omega)]
theorem inner_lt {p : Int × Int} (h : p.1 ≠ p.2) : (inner p).1 < (inner p).2 := by
  obtain ⟨a, b⟩ := p
  simp only [inner] at h ⊢
  split <;> split <;> omega
/-- A figure of rooms: so many, each with the pairs of its points, of which some are doors. -/
structure Fg (M : Nat) (cp : Nat → List (Int × Int)) (d : Int × Int → Bool) : Prop where
  sorted : ∀ k, k < M → ∀ p ∈ cp k, p.1 < p.2
  two : ∀ k, k < M → ∀ p ∈ cp k, ((List.range M).filter (fun q => decide (p ∈ cp q))).length ≤ 2
  doors : ∀ k, k < M → (cp k).filter d = [] ∨ (∃ p, (cp k).filter d = [p]) ∨ ∃ p q, (cp k).filter d = [p, q] ∧ p ≠ q
section
variable {M : Nat} {cp : Nat → List (Int × Int)} {d : Int × Int → Bool}
/-- The doors of a room, the other one, the room beyond a door. -/
def gd (cp : Nat → List (Int × Int)) (d : Int × Int → Bool) (k : Nat) : List (Int × Int) := (cp k).filter d
def gOth (cp : Nat → List (Int × Int)) (d : Int × Int → Bool) (k : Nat) (p : Int × Int) : Option (Int × Int) := (gd cp d k).find? (fun q => decide (q ≠ p))
def gBoth (M : Nat) (cp : Nat → List (Int × Int)) (p : Int × Int) : List Nat := (List.range M).filter (fun q => decide (p ∈ cp q))
def gAcr (M : Nat) (cp : Nat → List (Int × Int)) (fr : Int) (p : Int × Int) : Option Nat := (gBoth M cp p).find? (fun q => decide ((q : Int) ≠ fr))
def gStep (M : Nat) (cp : Nat → List (Int × Int)) (d : Int × Int → Bool) (s : Nat × (Int × Int)) : Option (Nat × (Int × Int)) :=
  match gOth cp d s.1 s.2 with
  | none => none
  | some e => (gAcr M cp s.1 e).map fun k => (k, e)
/-- The state behind i steps. -/
def gSt (M : Nat) (cp : Nat → List (Int × Int)) (d : Int × Int → Bool) (s : Nat × (Int × Int)) : Nat → Option (Nat × (Int × Int))
  | 0 => some s
  | i + 1 => (gSt M cp d s i).bind (gStep M cp d)
theorem gOth_some {k : Nat} {p e : Int × Int} (h : gOth cp d k p = some e) : e ∈ gd cp d k ∧ e ≠ p :=
  ⟨List.mem_of_find?_eq_some h, by simpa using List.find?_some h⟩
theorem gAcr_some {q : Nat} {fr : Int} {p : Int × Int} (h : gAcr M cp fr p = some q) : q < M ∧ p ∈ cp q ∧ (q : Int) ≠ fr := by
  have h1 := List.mem_of_find?_eq_some h
  have h2 := List.find?_some h
  simp only [gBoth, List.mem_filter, List.mem_range, decide_eq_true_eq] at h1
  exact ⟨h1.1, h1.2, by simpa using h2⟩
theorem mem_gd {k : Nat} {p : Int × Int} : p ∈ gd cp d k ↔ p ∈ cp k ∧ d p = true := by simp [gd]
theorem three_len {L : List Nat} {a b c : Nat} (ha : a ∈ L) (hb : b ∈ L) (hc : c ∈ L) (hab : a ≠ b) (hac : a ≠ c) (hbc : b ≠ c) : 3 ≤ L.length := by
  match L, ha, hb, hc with
  | [], ha, _, _ => simp at ha
  | [x], ha, hb, _ => simp at ha hb; omega
  | [x, y], ha, hb, hc => simp at ha hb hc; omega
  | x :: y :: z :: L, _, _, _ => simp
/-- A walk into a room through a door that no other room has comes to its end: there are no more steps than rooms. -/
theorem gWalk_ends (F : Fg M cp d) (k0 : Nat) (d0 : Int × Int) (hk : k0 < M) (hd : d0 ∈ gd cp d k0) (hone : ∀ q, q < M → d0 ∈ gd cp d q → q = k0) :
    gSt M cp d (k0, d0) M = none := by
  cases hs : gSt M cp d (k0, d0) M with
  | none => rfl
  | some s =>
    exfalso
    have hall : ∀ i, i ≤ M → ∃ t, gSt M cp d (k0, d0) i = some t := by
      intro i hi
      cases ht : gSt M cp d (k0, d0) i with
      | some t => exact ⟨t, rfl⟩
      | none =>
        exfalso
        have : ∀ m, gSt M cp d (k0, d0) (i + m) = none := by
          intro m
          induction m with
          | zero => exact ht
          | succ m ih => rw [← Nat.add_assoc]; simp only [gSt, ih]; rfl
        have e := this (M - i)
        rw [show i + (M - i) = M by omega, hs] at e
        cases e
    let k : Nat → Nat := fun i => ((gSt M cp d (k0, d0) i).getD (k0, d0)).1
    let e : Nat → Int × Int := fun i => ((gSt M cp d (k0, d0) i).getD (k0, d0)).2
    have hstep : ∀ i, i < M → gOth cp d (k i) (e i) = some (e (i + 1)) ∧ gAcr M cp (k i : Nat) (e (i + 1)) = some (k (i + 1)) := by
      intro i hi
      obtain ⟨t, ht⟩ := hall i (by omega)
      obtain ⟨t', ht'⟩ := hall (i + 1) (by omega)
      have e1 := ht'
      simp only [gSt, ht, Option.bind_some, gStep] at e1
      have ek : k i = t.1 := by simp only [k, ht, Option.getD_some]
      have ed : e i = t.2 := by simp only [e, ht, Option.getD_some]
      have ek' : k (i + 1) = t'.1 := by simp only [k, ht', Option.getD_some]
      have ed' : e (i + 1) = t'.2 := by simp only [e, ht', Option.getD_some]
      rw [ek, ed, ek', ed']
      cases ho : gOth cp d t.1 t.2 with
      | none => rw [ho] at e1; dsimp only at e1; cases e1
      | some dd =>
        rw [ho] at e1
        dsimp only at e1
        cases ha : gAcr M cp t.1 dd with
        | none => rw [ha] at e1; cases e1
        | some q =>
          rw [ha] at e1
          simp only [Option.map_some, Option.some.injEq] at e1
          subst e1
          exact ⟨rfl, ha⟩
    have hinv : ∀ i, i ≤ M → k i < M ∧ e i ∈ gd cp d (k i) := by
      intro i
      induction i with
      | zero => intro _; exact ⟨hk, hd⟩
      | succ i ih =>
        intro hi
        obtain ⟨h3, h4⟩ := hstep i (by omega)
        have a := gAcr_some h4
        have b := mem_gd.1 (gOth_some h3).1
        exact ⟨a.1, mem_gd.2 ⟨a.2.1, b.2⟩⟩
    have hinj := walk_inj k e M (fun e q => q < M ∧ e ∈ gd cp d q) (fun i hi => hinv i hi)
      (fun i hi => ⟨(hinv i (by omega)).1, (gOth_some (hstep i hi).1).1⟩) (fun i hi => (gOth_some (hstep i hi).1).2) (fun i hi h => (gAcr_some (hstep i hi).2).2.2 (by rw [h]))
      (fun i hi f he => by
        have hki := (hinv i (by omega)).1
        have a := (hinv i (by omega)).2
        have b := gOth_some (hstep i hi).1
        rcases F.doors (k i) hki with hp | ⟨p, hp⟩ | ⟨p, q, hp, -⟩
        · have a2 : e i ∈ (cp (k i)).filter d := a
          rw [hp] at a2; simp at a2
        · have a2 : e i ∈ (cp (k i)).filter d := a
          have b2 : e (i + 1) ∈ (cp (k i)).filter d := b.1
          rw [hp] at a2 b2
          simp only [List.mem_singleton] at a2 b2
          exact absurd (b2.trans a2.symm) b.2
        · have he2 : f ∈ (cp (k i)).filter d := he.2
          have a2 : e i ∈ (cp (k i)).filter d := a
          have b2 : e (i + 1) ∈ (cp (k i)).filter d := b.1
          rw [hp] at he2 a2 b2
          simp only [List.mem_cons, List.not_mem_nil, or_false] at he2 a2 b2
          have hne := b.2
          rcases he2 with r | r <;> rcases a2 with s1 | s1 <;> rcases b2 with s2 | s2
          · exact absurd (s2.trans s1.symm) hne
          · exact .inl (r.trans s1.symm)
          · exact .inr (r.trans s2.symm)
          · exact absurd (s2.trans s1.symm) hne
          · exact absurd (s2.trans s1.symm) hne
          · exact .inr (r.trans s2.symm)
          · exact .inl (r.trans s1.symm)
          · exact absurd (s2.trans s1.symm) hne)
      (fun f a b c ha hb hc hab hac => by
        by_cases hbc : b = c
        · exact hbc
        · exfalso
          have hm : ∀ q, q < M ∧ f ∈ gd cp d q → q ∈ gBoth M cp f := fun q hq => by
            simp only [gBoth, List.mem_filter, List.mem_range, decide_eq_true_eq]
            exact ⟨hq.1, (mem_gd.1 hq.2).1⟩
          have h3 := three_len (hm a ha) (hm b hb) (hm c hc) hab hac hbc
          have h4 := F.two a ha.1 f (mem_gd.1 ha.2).1
          unfold gBoth at h3
          omega)
      (fun a ha => hone a ha.1 ha.2)
    have := inj_le M k M (fun i hi => (hinv i hi).1) hinj
    omega
/-- The walk from a room and a door: the rooms, the last door, and whether it ends in a room without another one. -/
def gWlk (M : Nat) (cp : Nat → List (Int × Int)) (d : Int × Int → Bool) : Nat → Nat × (Int × Int) → List Nat × (Int × Int) × Bool
  | 0, s => ([], s.2, false)
  | f + 1, s => match gOth cp d s.1 s.2 with
    | none => ([s.1], s.2, true)
    | some e => match gAcr M cp s.1 e with
      | none => ([s.1], e, false)
      | some k => (s.1 :: (gWlk M cp d f (k, e)).1, (gWlk M cp d f (k, e)).2)
theorem gSt_none {s : Nat × (Int × Int)} {i : Nat} (h : gSt M cp d s i = none) : ∀ m, gSt M cp d s (i + m) = none := by
  intro m
  induction m with
  | zero => exact h
  | succ m ih => rw [← Nat.add_assoc]; simp only [gSt, ih]; rfl
theorem gSt_lt {s t : Nat × (Int × Int)} {i L : Nat} (hF : gSt M cp d s L = none) (h : gSt M cp d s i = some t) : i < L := by
  rcases Nat.lt_or_ge i L with h1 | h1
  · exact h1
  · exfalso
    have := gSt_none hF (i - L)
    rw [show L + (i - L) = i by omega, h] at this
    cases this
theorem gSt_step {s : Nat × (Int × Int)} {i k k' : Nat} {p p' : Int × Int} (h : gSt M cp d s i = some (k, p)) (ho : gOth cp d k p = some p') (ha : gAcr M cp k p' = some k') : gSt M cp d s (i + 1) = some (k', p') := by
  simp only [gSt, h, Option.bind_some, gStep, ho, ha, Option.map_some]
/-- Where a walk may begin: a room with this door, from which it comes to an end. -/
def gStarts (M : Nat) (cp : Nat → List (Int × Int)) (d : Int × Int → Bool) (s : Nat × (Int × Int)) : Prop := s.1 < M ∧ s.2 ∈ gd cp d s.1 ∧ gSt M cp d s M = none
theorem gSt_inv {s : Nat × (Int × Int)} (hs : gStarts M cp d s) : ∀ i t, gSt M cp d s i = some t → t.1 < M ∧ t.2 ∈ gd cp d t.1
  | 0, t, h => by
    simp only [gSt, Option.some.injEq] at h
    subst h
    exact ⟨hs.1, hs.2.1⟩
  | i + 1, t, h => by
    simp only [gSt] at h
    cases hu : gSt M cp d s i with
    | none => rw [hu] at h; cases h
    | some u =>
      rw [hu] at h
      simp only [Option.bind_some, gStep] at h
      cases ho : gOth cp d u.1 u.2 with
      | none => rw [ho] at h; dsimp only at h; cases h
      | some e =>
        rw [ho] at h
        dsimp only at h
        cases ha : gAcr M cp u.1 e with
        | none => rw [ha] at h; cases h
        | some k =>
          rw [ha] at h
          simp only [Option.map_some, Option.some.injEq] at h
          subst h
          have a := gAcr_some ha
          have b := mem_gd.1 (gOth_some ho).1
          exact ⟨a.1, mem_gd.2 ⟨a.2.1, b.2⟩⟩
/-- The last room of a walk has one door exactly if the walk says that it ends inside, and the walk has a room. -/
theorem gWlk_last : ∀ f (s : Nat × (Int × Int)), s.1 < M → s.2 ∈ gd cp d s.1 → ∃ pre l p, (gWlk M cp d (f + 1) s).1 = pre ++ [l] ∧ l < M ∧ p ∈ gd cp d l ∧ (gSt M cp d s (f + 1) = none → (gOth cp d l p).isNone = (gWlk M cp d (f + 1) s).2.2)
  | f, s, h1, h2 => by
    cases ho : gOth cp d s.1 s.2 with
    | none =>
      refine ⟨[], s.1, s.2, by simp only [gWlk, ho, List.nil_append], h1, h2, fun _ => ?_⟩
      simp only [gWlk, ho]
      rfl
    | some e =>
      cases ha : gAcr M cp s.1 e with
      | none =>
        refine ⟨[], s.1, s.2, by simp only [gWlk, ho, ha, List.nil_append], h1, h2, fun _ => ?_⟩
        simp only [gWlk, ho, ha]
        rfl
      | some k =>
        have a := gAcr_some ha
        have b := mem_gd.1 (gOth_some ho).1
        match f with
        | 0 =>
          refine ⟨[], s.1, s.2, by simp only [gWlk, ho, ha, List.nil_append], h1, h2, fun hn => ?_⟩
          simp only [gSt, Option.bind_some, gStep, ho, ha, Option.map_some] at hn
          cases hn
        | f + 1 =>
          obtain ⟨pre, l, p, e1, e2, e3, e4⟩ := gWlk_last f (k, e) a.1 (mem_gd.2 ⟨a.2.1, b.2⟩)
          refine ⟨s.1 :: pre, l, p, ?_, e2, e3, fun hn => ?_⟩
          · rw [gWlk]
            simp only [ho, ha, e1, List.cons_append]
          · rw [gWlk]
            simp only [ho, ha]
            refine e4 ?_
            have : ∀ i, gSt M cp d s (i + 1) = gSt M cp d (k, e) i := by
              intro i
              induction i with
              | zero => simp only [gSt, Option.bind_some, gStep, ho, ha, Option.map_some]
              | succ i ih => rw [gSt, ih]; rfl
            rw [← this]
            exact hn
/-- The whole walk through a door, from a room or from outside. -/
def gFrom (M : Nat) (cp : Nat → List (Int × Int)) (d : Int × Int → Bool) (fr : Int) (p : Int × Int) : List Nat × (Int × Int) × Bool :=
  match gAcr M cp fr (inner p) with
  | none => ([], inner p, false)
  | some k => gWlk M cp d M (k, inner p)
def beyI (o : Option Nat) : Int := match o with | some q => q | none => -1
/-- Where the walk from a room and a door stands: ahead of a room, or outside. -/
def gAt (M : Nat) (cp : Nat → List (Int × Int)) (d : Int × Int → Bool) (s0 : Nat × (Int × Int)) (L : List Nat) (R : (Int × Int) × Bool) (out : List Nat) (room : Int) (p : Int × Int) : Prop :=
  (∃ k : Nat, room = k ∧ gStarts M cp d s0 ∧ gSt M cp d s0 out.length = some (k, inner p) ∧ out ++ (gWlk M cp d (M - out.length) (k, inner p)).1 = L ∧ (gWlk M cp d (M - out.length) (k, inner p)).2 = R) ∨
  (room = -1 ∧ out = L ∧ R = (inner p, false))
theorem gAt_start (s0 : Nat × (Int × Int)) (p : Int × Int) (hs : gStarts M cp d s0) (h : s0.2 = inner p) : gAt M cp d s0 (gWlk M cp d M s0).1 (gWlk M cp d M s0).2 [] s0.1 p := by
  obtain ⟨k, e⟩ := s0
  simp only at h
  subst h
  exact .inl ⟨k, rfl, hs, rfl, rfl, rfl⟩
/-- One room further. -/
theorem gAt_room (F : Fg M cp d) {s0 : Nat × (Int × Int)} {L : List Nat} {R : (Int × Int) × Bool} {out : List Nat} {room : Int} {p : Int × Int} (h : gAt M cp d s0 L R out room p) (hr : room ≠ -1) :
    ∃ k : Nat, room = k ∧ k < M ∧ out.length < M ∧ inner p ∈ gd cp d k ∧
      (gOth cp d k (inner p) = none → out ++ [k] = L ∧ R = (inner p, true)) ∧
      ∀ e, gOth cp d k (inner p) = some e → e.1 < e.2 ∧ inner e = e ∧ gAt M cp d s0 L R (out ++ [k]) (beyI (gAcr M cp k e)) e := by
  rcases h with ⟨k, rfl, hs, hst, e1, e2⟩ | ⟨rfl, -, -⟩
  · have hlt := gSt_lt hs.2.2 hst
    have hinv := gSt_inv hs _ _ hst
    simp only at hinv
    refine ⟨k, rfl, hinv.1, hlt, hinv.2, fun ho => ?_, fun e ho => ?_⟩
    · obtain ⟨f, hf⟩ : ∃ f, M - out.length = f + 1 := ⟨M - out.length - 1, by omega⟩
      rw [hf, gWlk] at e1 e2
      simp only [ho] at e1 e2
      exact ⟨e1, e2.symm⟩
    · have hd := gOth_some ho
      have hsd := F.sorted k hinv.1 e (mem_gd.1 hd.1).1
      refine ⟨hsd, inner_sorted hsd, ?_⟩
      obtain ⟨f, hf⟩ : ∃ f, M - out.length = f + 1 := ⟨M - out.length - 1, by omega⟩
      rw [hf, gWlk] at e1 e2
      simp only [ho] at e1 e2
      cases ha : gAcr M cp k e with
      | none =>
        rw [ha] at e1 e2
        simp only at e1 e2
        exact .inr ⟨rfl, e1, by rw [inner_sorted hsd]; exact e2.symm⟩
      | some q =>
        rw [ha] at e1 e2
        simp only at e1 e2
        refine .inl ⟨q, rfl, hs, ?_, ?_, ?_⟩
        · rw [List.length_append, inner_sorted hsd]
          exact gSt_step hst ho ha
        · rw [List.length_append, inner_sorted hsd, show M - (out.length + [k].length) = f by simp; omega, List.append_assoc]
          exact e1
        · rw [List.length_append, inner_sorted hsd, show M - (out.length + [k].length) = f by simp; omega]
          exact e2
  · exact absurd rfl hr
/-- A walk may begin at a door, from a room or from outside. -/
def gGoes (M : Nat) (cp : Nat → List (Int × Int)) (d : Int × Int → Bool) (fr : Int) (p : Int × Int) : Prop := p.1 ≠ p.2 ∧ ∀ k, gAcr M cp fr (inner p) = some k → gStarts M cp d (k, inner p)
theorem gGoes_at {fr : Int} {p : Int × Int} (h : gGoes M cp d fr p) : ∃ s0 L R, gFrom M cp d fr p = (L, R) ∧ gAt M cp d s0 L R [] (beyI (gAcr M cp fr (inner p))) p := by
  cases ha : gAcr M cp fr (inner p) with
  | none => exact ⟨(0, inner p), [], (inner p, false), by simp [gFrom, ha], .inr ⟨rfl, rfl, rfl⟩⟩
  | some k => exact ⟨(k, inner p), _, _, by simp only [gFrom, ha], gAt_start (k, inner p) p (h.2 k ha) rfl⟩
end
theorem find_congr {α : Type} {f g : α → Bool} : ∀ (l : List α), (∀ x ∈ l, f x = g x) → l.find? f = l.find? g
  | [], _ => rfl
  | x :: l, h => by
    rw [List.find?_cons, List.find?_cons, h x (by simp), find_congr l (fun y hy => h y (by simp [hy]))]
theorem find_step {α : Type} (z : α) (ps : List α) (f : α → Bool) (k : Nat) (hk : k < ps.length) (h : (ps.take k).find? f = none) :
    (f (ps.getD k z) = true → ps.find? f = some (ps.getD k z)) ∧ (f (ps.getD k z) = false → (ps.take (k + 1)).find? f = none) := by
  have e : ps.getD k z = ps[k] := by rw [List.getD_eq_getElem?_getD, List.getElem?_eq_getElem hk]; rfl
  rw [e]
  refine ⟨fun hf => ?_, fun hf => ?_⟩
  · have h2 : (ps.take k ++ ps[k] :: ps.drop (k + 1)).find? f = some ps[k] := by rw [List.find?_append, h, Option.none_or, List.find?_cons_of_pos hf]
    rwa [← List.drop_eq_getElem_cons hk, List.take_append_drop] at h2
  · rw [List.take_add_one, List.getElem?_eq_getElem hk, List.find?_append, h]
    simp [hf]
/-- Cells as lists of three points in order, and the pairs of these. -/
def Tri (cs : List (List Int)) (m : Nat) : Prop := ∀ k, k < cs.length → ∃ a b c : Nat, cs.getD k [] = [(a : Int), (b : Int), (c : Int)] ∧ a < b ∧ b < c ∧ c < m
def cpr (cs : List (List Int)) (k : Nat) : List (Int × Int) := [((cs.getD k []).getD 0 0, (cs.getD k []).getD 1 0), ((cs.getD k []).getD 0 0, (cs.getD k []).getD 2 0), ((cs.getD k []).getD 1 0, (cs.getD k []).getD 2 0)]
theorem cpr_of {cs : List (List Int)} {k : Nat} {x y z : Int} (h : cs.getD k [] = [x, y, z]) : cpr cs k = [(x, y), (x, z), (y, z)] := by rw [cpr, h]; rfl
theorem cpr_sorted {cs : List (List Int)} {m : Nat} (T : Tri cs m) (k : Nat) (hk : k < cs.length) (p : Int × Int) (h : p ∈ cpr cs k) : p.1 < p.2 := by
  obtain ⟨a, b, c, e, h1, h2, -⟩ := T k hk
  rw [cpr_of e] at h
  simp only [List.mem_cons, List.not_mem_nil, or_false] at h
  rcases h with rfl | rfl | rfl <;> simp only <;> omega
/-- A cell has both points exactly if they are one of its pairs. -/
theorem with_cpr {cs : List (List Int)} {m : Nat} (T : Tri cs m) {k : Nat} (hk : k < cs.length) (p : Int × Int) (h : p.1 ≠ p.2) : withB cs p.1 p.2 k = decide (inner p ∈ cpr cs k) := by
  obtain ⟨x, y, z, e, h1, h2, -⟩ := T k hk
  obtain ⟨a, b⟩ := p
  simp only at h
  rw [cpr_of e]
  simp only [withB, e, hasB, inner]
  by_cases hlt : a < b
  · rw [if_pos hlt, if_neg (by omega)]
    rw [Bool.eq_iff_iff]
    simp only [Bool.and_eq_true, decide_eq_true_eq, List.mem_cons, List.not_mem_nil, or_false, Prod.mk.injEq]
    omega
  · rw [if_neg hlt, if_pos (by omega)]
    rw [Bool.eq_iff_iff]
    simp only [Bool.and_eq_true, decide_eq_true_eq, List.mem_cons, List.not_mem_nil, or_false, Prod.mk.injEq]
    omega
/-- Whether a cell is another one and has both points. -/
def beyB (cs : List (List Int)) (fr x y : Int) (q : Nat) : Bool := ((q : Int) != fr) && withB cs x y q
theorem bey_eq {cs : List (List Int)} {m : Nat} (T : Tri cs m) (fr x y : Int) (h : x ≠ y) : (List.range cs.length).find? (beyB cs fr x y) = gAcr cs.length (cpr cs) fr (inner (x, y)) := by
  rw [gAcr, gBoth, List.find?_filter]
  refine find_congr _ fun q hq => ?_
  have hq' : q < cs.length := by simpa using hq
  rw [beyB, with_cpr T hq' (x, y) h, Bool.and_comm, Bool.eq_iff_iff]
  simp
theorem oth_eq {cs : List (List Int)} {m : Nat} (T : Tri cs m) (d : Int × Int → Bool) {k : Nat} (hk : k < cs.length) (p : Int × Int) : (gd (cpr cs) d k).find? (fun q => !sameB q p) = gOth (cpr cs) d k (inner p) := by
  refine find_congr _ fun q hq => ?_
  have hs := cpr_sorted T k hk q (mem_gd.1 hq).1
  rw [same_inner, inner_sorted hs]
  simp only [ne_eq, decide_not]
end Go.Proofs.Ytelchpdlfedleaa
