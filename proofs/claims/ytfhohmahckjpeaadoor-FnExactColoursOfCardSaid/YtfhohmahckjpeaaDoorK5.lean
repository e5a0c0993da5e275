import Derived.Test.YtfhohmahckjpeaaDoorK3
import Derived.Test.YtfhohmahckjpeaaDoorK4
namespace Go.Proofs.YtfhohmahckjpeaaDoor
open Go.RowKit
set_option maxRecDepth 4000
theorem oi_low {w : World} {lo lo' hi : Nat} {v : Value} {xs : List Int} (h : OI w lo hi v xs) (hl : lo' ≤ lo) : OI w lo' hi v xs := by
  obtain ⟨et, h1, h2⟩ := h
  exact ⟨et, own_base h1 hl, h2⟩
theorem map_id' (xs : List Int) : xs.map (fun x => x) = xs := List.map_id' xs
theorem kI_len (n k : Nat) (h : n ≤ 8) : (kI n k).length ≤ 256 := by
  have h1 := flt_len (isK k) (2 ^ n)
  have h2 : 2 ^ n ≤ 2 ^ 8 := Nat.pow_le_pow_right (by omega) h
  have h3 : kI n k = flt (isK k) (2 ^ n) := rfl
  rw [h3]; omega
end Go.Proofs.YtfhohmahckjpeaaDoor
