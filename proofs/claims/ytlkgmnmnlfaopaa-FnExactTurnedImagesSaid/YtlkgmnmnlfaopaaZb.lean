import Derived.Test.YtlkgmnmnlfaopaaZa
import Derived.ArgAppend
import Derived.Deep.Onto
namespace Go.Proofs.Ytlkgmnmnlfaopaa
open Go.RowKit
set_option maxRecDepth 4000
/-- Cells, three numbers each, that can be read. -/
def TRd (w : World) (a : Option Addr) (b : Nat) (xs : List Int) : Prop := ∀ j, j < xs.length → a = some ⟨b, 0, none⟩ ∧ w.cell? ⟨b, j, none⟩ = some (.int .i64 (xs.getD j 0))
theorem cells_shape {w : World} {base : Nat} {v : Value} {cs : List (List Int)} (h : CellsV w base v cs) : ∃ a n cap, v = .slice a n cap := by
  obtain ⟨vs, hvs, -, -⟩ := h
  rcases hvs.2 with ⟨h, -⟩ | ⟨g, cap, cur, h, -⟩
  · exact ⟨_, _, _, h⟩
  · exact ⟨_, _, _, h⟩
set_option maxHeartbeats 1600000 in
theorem clone_three (x y z : Int) (g : Nat) (w : World) (hg : g < w.heap.size) (hr : Rd w (some ⟨g, 0, none⟩) g 0 [x, y, z]) :
    Calls Try.prog 119 #[.slice (some ⟨g, 0, none⟩) 3 3] w fun e w' => ∃ v, e = .returned v ∧ w'.ownsRow w.heap.size 3 1 v 3 ([x, y, z].map (Value.int .i64)) ∧ Below w.heap.size w w' := by
  go_enter Try.func119, Try.ntmps119
  go_wp2_with fail
  rw [Lib.run_eql_slice_nil _ 31 _ _ _ _ _ _ Try.underlying31]
  obtain ⟨i0, hi, hz0, hz1, hz2⟩ := info_parts intInfo
  have h0 := hr.2 0 (by simp)
  have h1 := hr.2 1 (by simp)
  have h2 := hr.2 2 (by simp)
  go_wp2_with (at_builtin; (refine wpList_append_grows _ rfl _ _ 31 rfl 3 i0 _ 1 8 Try.underlying31 hi hz0 hz1 hz2 rfl (by decide) (some ⟨w.heap.size, 0, none⟩) 0 0 [] rfl (by simp) rfl (by simp) ⟨g, 0, none⟩ 3 3 [.int .i64 x, .int .i64 y, .int .i64 z] rfl rfl ?_ ?_ (by omega) (by simp [maxLen]) (by omega) ?_))
  case refine_1 =>
    intro j u hj
    try rw [Addr.add_lit, Nat.zero_add]
    try refine (World.cell?_alloc_past _ _ _ hg).trans ?_
    match j, hj with
    | 0, hj => simp at hj; subst hj; simpa using h0.2
    | 1, hj => simp at hj; subst hj; simpa using h1.2
    | 2, hj => simp at hj; subst hj; simpa using h2.2
    | j + 3, hj => simp at hj
  case refine_2 => first | exact ⟨rfl, rfl, rfl⟩ | (intro u hu; simp only [List.mem_cons, List.not_mem_nil, or_false] at hu; rcases hu with rfl | rfl | rfl <;> rfl)
  case refine_3 =>
    intro v' w' ho hgr
    have hB : Below w.heap.size w w' := (balloc (Below.refl w.heap.size w) (.cells #[] 3)).grown hgr (by simp) (fun k hk => by cases hk)
    go_wp2_with fail
    go_ret
    exact ⟨_, rfl, ho.mono (by simp), hB⟩
end Go.Proofs.Ytlkgmnmnlfaopaa

namespace Go.Proofs.Ytlkgmnmnlfaopaa
open Go.RowKit
set_option maxRecDepth 4000
/-- What a function does that answers a list of lists, and whether it succeeds. -/
def CGives (w : World) (cs : List (List Int)) (ok : Bool) (e : Ending) (w' : World) : Prop :=
  ∃ v, e = .returned (.tuple #[v, .bool ok]) ∧ CellsV w' w.heap.size v cs ∧ Below w.heap.size w w'
theorem cgives_none {w w' : World} (hb : Below w.heap.size w w') : CGives w [] false (.returned (.tuple #[.slice none 0 0, .bool false])) w' := ⟨_, rfl, cells_nil _ _, hb⟩
theorem Rd.drewN {w : World} {a : Option Addr} {b off : Nat} {xs : List Int} (h : Rd w a b off xs) (m : Nat) : Rd (w.drewN m) a b off xs := h.same ((Same.refl w).drewN m)
set_option maxHeartbeats 400000 in
theorem eqIntS_drew (xs : List Int) (a a' : Option Addr) (b off b' off' n n' cap cap' : Nat) (w : World) (hn : xs.length = n) (hn' : xs.length = n') (h : Rd w a b off xs) (h' : Rd w a' b' off' xs) :
    Calls Try.prog 23 #[.slice a n cap, .slice a' n' cap'] w fun e w' => e = .returned (.bool true) ∧ ∃ m, w' = w.drewN m := by
  subst hn hn'
  obtain ⟨hm, hc⟩ := h
  obtain ⟨_, hc'⟩ := h'
  unfold maxLen at hm
  have hne : ((xs.length : Int) != (xs.length : Int)) = false := by simp
  have HC := Lib.hid hc
  have HC' := Lib.hid hc'
  clear hc hc'
  go_enter Try.func23, Try.ntmps23
  go_wp2
  go_loopw [5] (fun v5 wr => ∃ k : Nat, k ≤ xs.length ∧ v5 = .int .i64 k ∧ ∃ m, wr = w.drewN m) (fun v5 _ => xs.length - (intOf v5).toNat)
  case atStart => exact ⟨0, Nat.zero_le _, rfl, 0, rfl⟩
  case round =>
    obtain ⟨k, hk, rfl, m, rfl⟩ := hrel
    by_cases hlt : k < xs.length
    · obtain ⟨ha, c⟩ := HC.out k hlt
      obtain ⟨ha', c'⟩ := HC'.out k hlt
      subst ha ha'
      have c1 : (w.drewN m).cell? ⟨b, off + k, none⟩ = some (.int .i64 (xs.getD k 0)) := c
      have c2 : (w.drewN m).cell? ⟨b', off' + k, none⟩ = some (.int .i64 (xs.getD k 0)) := c'
      have hi : (k : Int) < (xs.length : Int) := by omega
      have hne2 : (xs.getD k 0 != xs.getD k 0) = false := by simp
      obtain ⟨w0, hw0⟩ : ∃ w0, w0 = w.drewN m := ⟨_, rfl⟩
      rw [← hw0] at c1 c2 ⊢
      have HW := Lib.hid hw0
      clear c c' hw0
      go_wp2
      go_quiet (fail)
      go_wp2
      go_roundw
      case rel => exact ⟨k + 1, by omega, by go_num, _, by rw [HW.out, World.drewN_drewN]⟩
      case measure => simp [intOf]; omega
    · go_wp2
      go_ret
      exact ⟨rfl, m, rfl⟩
set_option maxHeartbeats 800000 in
theorem eqIntSS_same (cs : List (List Int)) (a a' : Option Addr) (base base' n n' cap cap' : Nat) (w : World) (h : CellsV w base (.slice a n cap) cs) (h' : CellsV w base' (.slice a' n' cap') cs) :
    Calls Try.prog 37 #[.slice a n cap, .slice a' n' cap'] w fun e w' => e = .returned (.bool true) ∧ Same w w' := by
  obtain ⟨rfl, hm, hc⟩ := cells_row h
  obtain ⟨rfl, _, hc'⟩ := cells_row h'
  unfold maxLen at hm
  have hne : ((cs.length : Int) != (cs.length : Int)) = false := by simp
  have HC := Lib.hid hc
  have HC' := Lib.hid hc'
  clear hc hc' h h'
  go_enter Try.func37, Try.ntmps37
  go_wp2
  go_loopw [5] (fun v5 wr => ∃ k : Nat, k ≤ cs.length ∧ v5 = .int .i64 k ∧ Same w wr) (fun v5 _ => cs.length - (intOf v5).toNat)
  case atStart => exact ⟨0, Nat.zero_le _, rfl, Same.refl _⟩
  case round =>
    obtain ⟨k, hk, rfl, hs⟩ := hrel
    by_cases hlt : k < cs.length
    · obtain ⟨b, ra, rc, rb, ha, -, hbl, c1, hx, hr, -, -⟩ := HC.out k hlt
      obtain ⟨b', ra', rc', rb', ha', -, hbl', c2, hx', hr', -, -⟩ := HC'.out k hlt
      subst ha ha'
      have c1 := (hs.cell ⟨b, k, none⟩).trans c1
      have c2 := (hs.cell ⟨b', k, none⟩).trans c2
      have HR1 := Lib.hid (hr.same hs)
      have HR2 := Lib.hid (hr'.same hs)
      have hi : (k : Int) < (cs.length : Int) := by omega
      clear hr hr' hx hx' hbl hbl'
      generalize cs.getD k [] = c at c1 c2 HR1 HR2
      go_wp2_with fail
      go_quiet (first | (go_at_call 23; refine Calls.quiet_of (eqIntS_drew c ra ra' rb 0 rb' 0 _ _ rc rc' _ rfl rfl (HR1.out.drewN _) (HR2.out.drewN _))))
      go_wp2
      go_roundw
      case rel => exact ⟨k + 1, by omega, by go_num, hs.drewN _⟩
      case measure => simp [intOf]; omega
    · go_wp2
      go_ret
      exact ⟨rfl, hs⟩
end Go.Proofs.Ytlkgmnmnlfaopaa
