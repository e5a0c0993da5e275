import Derived.Test.YtjbdhgomcchoaaaCj
import Derived.ArgAppend
import Derived.Deep.Onto
namespace Go.Proofs.Ytjbdhgomcchoaaa
open Go.RowKit
set_option maxHeartbeats 1600000 in
theorem clone_three (x y z : Int) (g : Nat) (w : World) (hg : g < w.heap.size) (hr : Rd w (some ⟨g, 0, none⟩) g 0 [x, y, z]) :
    Calls Try.prog 50 #[.slice (some ⟨g, 0, none⟩) 3 3] w fun e w' => ∃ v, e = .returned v ∧ w'.ownsRow w.heap.size 3 1 v 3 ([x, y, z].map (Value.int .i64)) ∧ Below w.heap.size w w' := by
  go_enter Try.func50, Try.ntmps50
  go_wp2_with fail
  rw [Lib.run_eql_slice_nil _ 28 _ _ _ _ _ _ Try.underlying28]
  obtain ⟨i0, hi, hz0, hz1, hz2⟩ := info_parts intInfo
  have h0 := hr.2 0 (by simp)
  have h1 := hr.2 1 (by simp)
  have h2 := hr.2 2 (by simp)
  go_wp2_with (at_builtin; (refine wpList_append_grows _ rfl _ _ 28 rfl 3 i0 _ 1 8 Try.underlying28 hi hz0 hz1 hz2 rfl (by decide) (some ⟨w.heap.size, 0, none⟩) 0 0 [] rfl (by simp) rfl (by simp) ⟨g, 0, none⟩ 3 3 [.int .i64 x, .int .i64 y, .int .i64 z] rfl rfl ?_ ?_ (by omega) (by simp [maxLen]) (by omega) ?_))
  case refine_1 =>
    intro j u hj
    try rw [Addr.add_lit, Nat.zero_add]
    try refine (World.cell?_alloc_past _ _ _ hg).trans ?_
    match j, hj with
    | 0, hj => simp at hj; subst hj; simpa using h0.2
    | 1, hj => simp at hj; subst hj; simpa using h1.2
    | 2, hj => simp at hj; subst hj; simpa using h2.2
    | j + 3, hj => simp at hj
  case refine_2 => first | exact ⟨rfl, rfl, rfl⟩ | (intro u hu; simp only [List.mem_cons, List.not_mem_nil, or_false] at hu; rcases hu with rfl | rfl | rfl <;> rfl)
  case refine_3 =>
    intro v' w' ho hgr
    have hB : Below w.heap.size w w' := (balloc (Below.refl w.heap.size w) (.cells #[] 3)).grown hgr (by simp) (fun k hk => by cases hk)
    go_wp2_with fail
    go_ret
    exact ⟨_, rfl, ho.mono (by simp), hB⟩
end Go.Proofs.Ytjbdhgomcchoaaa
