import Derived.Test.YtjohjiknngagiaaK3
import Derived.Test.YtjohjiknngagiaaK4
namespace Go.Proofs.Ytjohjiknngagiaa
open Go.RowKit
set_option maxRecDepth 4000
theorem oi_low {w : World} {lo lo' hi : Nat} {v : Value} {xs : List Int} (h : OI w lo hi v xs) (hl : lo' ≤ lo) : OI w lo' hi v xs := by
  obtain ⟨et, h1, h2⟩ := h
  exact ⟨et, own_base h1 hl, h2⟩
set_option maxHeartbeats 400000 in
theorem number_any (x : Int) (w : World) :
    Calls Try.prog 71 #[.int .i64 x] w fun e w' => e = .returned (.int .i64 x) ∧ Below w.heap.size w w' := by
  go_enter Try.func71, Try.ntmps71
  go_wp2_with fail
  go_ret
  exact ⟨rfl, Below.refl _ _⟩
theorem callNumber : ∀ (args : Array Value) (w : World), (callFunc 71 args).run Try.prog w = .ok (.enter 71 args) w := fun _ _ => rfl
theorem map_id' (xs : List Int) : xs.map (fun x => x) = xs := List.map_id' xs
set_option maxHeartbeats 800000 in
theorem list_any (xs : List Int) (a : Option Addr) (cap : Nat) (n k : Int) (w : World) (h : RdS w w.heap.size a xs) (hlen : xs.length ≤ 1000) :
    Calls Try.prog 49 #[.agg #[.slice a xs.length cap, .int .i64 n, .int .i64 k]] w fun e w' => ∃ v, e = .returned v ∧ OI w' w.heap.size w'.heap.size v xs ∧ Below w.heap.size w w' := by
  obtain ⟨w1, hw1⟩ : ∃ w1, w1 = w.alloc (.cells #[.slice a xs.length cap, .int .i64 n, .int .i64 k] 48) := ⟨_, rfl⟩
  have hb1 : Below w.heap.size w w1 := by rw [hw1]; exact balloc (Below.refl w.heap.size w) _
  have g1 : w1.heap[w.heap.size]? = some (.cells #[.slice a xs.length cap, .int .i64 n, .int .i64 k] 48 (0, 0)) := by rw [hw1]; exact heap_alloc_new w _
  have c0 : w1.cell? ⟨w.heap.size, 0, none⟩ = some (.slice a xs.length cap) := blk_cell g1 0 _ rfl
  have HN := Lib.hid (numI0_any xs (fun x => x) 71 callNumber a cap w.heap.size w1 (rds_later h hb1) hb1.size hlen (fun j _ w' _ => number_any _ w'))
  have HW := Lib.hid hw1
  have HM := Lib.hid (map_id' xs)
  clear hw1 h g1
  go_enter Try.func49, Try.ntmps49
  go_wp2_with fail
  rw [← HW.out]
  go_wp2_with fail
  refine HN.out.mono ?_
  rintro e w2 ⟨v, rfl, ho, hb2⟩
  rw [HM.out] at ho
  go_wp2_with fail
  go_ret
  exact ⟨_, rfl, oi_low ho hb1.size, bnext hb1 hb2⟩
theorem kI_len (n k : Nat) (h : n ≤ 8) : (kI n k).length ≤ 256 := by
  have h1 := flt_len (isK k) (2 ^ n)
  have h2 : 2 ^ n ≤ 2 ^ 8 := Nat.pow_le_pow_right (by omega) h
  have h3 : kI n k = flt (isK k) (2 ^ n) := rfl
  rw [h3]; omega
end Go.Proofs.Ytjohjiknngagiaa
