import Derived.Test.YtokhpchnnilbaaaN21
namespace Go.Proofs.Ytokhpchnnilbaaa
open Go.RowKit
set_option maxRecDepth 4000
theorem spC_nil (s : ByteArray) (k : Nat) : spC s [] k 1 = fcL s k := by
  unfold spC fcL
  congr 1
  rw [show (fun l : List Int => [] ++ l) = id from rfl, List.map_id]
theorem nlSplits_start (s : ByteArray) (hg : goodS s = true) (k : Nat) (hk : k ≤ 4) (w : World) :
    Calls Try.prog 63 #[.string s, .slice none 0 0, .int .i64 (k : Nat)] w (SpV w (fcL s k)) := by
  have h := nlSplits_any s hg k [] (by simpa using hk) 1 (by omega) (.inl ⟨rfl, rfl⟩) none 0 w ⟨0, 0, ⟨by simp [maxLen], fun j hj => by simp at hj⟩, .inl rfl⟩ (fun _ => ⟨rfl, rfl⟩)
  rw [spC_nil] at h
  exact h
end Go.Proofs.Ytokhpchnnilbaaa
