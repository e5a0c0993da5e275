import Derived.Test.YtjbdhgomcchoaaaCi
namespace Go.Proofs.Ytjbdhgomcchoaaa
open Go.RowKit
theorem trio_now {w w' : World} {base : Nat} {v : Value} {cs : List (List Int)} (h : TrioV w base v cs) (hb : Below w.heap.size w w') : TrioV w' base v cs := own_now h hb
set_option maxHeartbeats 1600000 in
theorem cells_any (n : Nat) (h1 : 1 ≤ n) (h2 : n ≤ 8) (w : World) :
    Calls Try.prog 49 #[.agg #[.int .i64 n]] w fun e w' => ∃ v, e = .returned v ∧ TrioV w' w.heap.size v (ci n) ∧ Below w.heap.size w w' := by
  obtain ⟨i0, hi, hz0, hz1, hz2⟩ := info_parts trioInfo
  have hnn := TW
  have hmul : wrap64 ((n : Int) * (n : Int)) = ((n * n : Nat) : Int) := by
    have : n * n ≤ 8 * 8 := Nat.mul_le_mul h2 h2
    rw [IntWalk.wrap64_in _ ⟨by have : (0:Int) ≤ (n:Int) * (n:Int) := Int.mul_nonneg (by omega) (by omega); omega, by have : ((n * n : Nat) : Int) = (n:Int) * (n:Int) := Int.natCast_mul n n; omega⟩]
    exact (Int.natCast_mul n n).symm
  have hnn64 : n * n ≤ 64 := Nat.mul_le_mul h2 h2
  clear hnn
  go_enter Try.func49, Try.ntmps49
  go_wp2_with (at_make; refine wpList_make_own _ rfl _ _ 54 rfl w.heap.size 57 i0 _ 3 Try.underlying54 hi hz0 hz1 _ _ _ (n * n) rfl rfl ?hC ?hb2 ?hb3 ?hb4 ?_)
  case hC => rfl
  case hb2 => rw [hz2]; omega
  case hb3 => unfold maxLen; omega
  case hb4 => simp
  intro w1 ho1 hg1
  have hm1 : w1.cell? ⟨w.heap.size, 0, none⟩ = some (.int .i64 n) := hg1.cell (v := .int .i64 n) (by go_cell) (by simp)
  have hB1 : Below w.heap.size w w1 := (Below.alloc (Below.refl _ _) (Nat.le_refl _) _).grown hg1 (by simp) (fun k hk => by cases hk)
  have ho1' : TrioV w1 w.heap.size (.slice (some ⟨w.heap.size + 1, 0, none⟩) 0 (n * n)) (ci 0) := by simpa [TrioV, ci] using ho1
  clear ho1 hg1 hmul
  go_wp2_with fail
  go_loopw [3, 16] (fun v3 v16 wr => ∃ r : Nat, r ≤ n ∧ v16 = .int .i64 r ∧ TrioV wr w.heap.size v3 (ci r) ∧ Below w.heap.size w wr) (fun _ v16 _ => n - (intOf v16).toNat)
  case atStart => exact ⟨0, Nat.zero_le _, rfl, ho1', hB1⟩
  case round =>
    obtain ⟨r, hr, rfl, hc, hb⟩ := hrel
    obtain ⟨wo, rfl⟩ : ∃ wo : World, wo = wr := ⟨_, rfl⟩
    by_cases hlt : r < n
    · have hT := TW r (by omega)
      have hS := T_small r (by omega)
      have HCS := Lib.hid (ci_succ r)
      have hcl := ci_len r
      have hbd : (ci r).length ≤ 1000 := by
        have : 2 * r * (r + 1) ≤ 16 * 9 := Nat.mul_le_mul (by omega) (by omega)
        omega
      clear hcl
      go_wp2_with fail
      rw [hT]
      go_loopw [3, 6] (fun v3 v6 wr => ∃ m : Nat, m ≤ r + 1 ∧ v6 = .int .i64 ((Pr.T r + m : Nat) : Int) ∧ TrioV wr w.heap.size v3 (ci r ++ cr r m) ∧ Below w.heap.size w wr) (fun _ v6 _ => Pr.T r + r + 1 - (intOf v6).toNat)
      case atStart => exact ⟨0, Nat.zero_le _, rfl, by simpa [cr] using hc, hb⟩
      case round =>
        obtain ⟨m, hm, rfl, hd, hb⟩ := hrel
        obtain ⟨wi, rfl⟩ : ∃ wi : World, wi = wr := ⟨_, rfl⟩
        have hcl := cr_len r m
        have hdl : (ci r ++ cr r m).length < 1000000 := by rw [List.length_append]; omega
        clear hcl
        have HRS := Lib.hid (cr_succ r m)
        by_cases hlt2 : m < r + 1
        · by_cases hlt3 : m < r
          · go_wp2_with (at_builtin; (first | (refine append_trio w.heap.size _ _ _ (ci r ++ cr r m) _ _ _ rfl _ _ rfl rfl rfl (by simp) hd (by have := hb.size; omega) (by omega) ?_; intro v' w3 hd3 hb3) | (refine append_trio w.heap.size _ _ _ _ _ _ _ rfl _ _ rfl rfl rfl (by simp) hd3 (by have := hb.size; have := hb3.size; omega) (by rw [List.length_append]; simp only [List.length_cons, List.length_nil]; omega) ?_; intro v4 w4 hd4 hb4)))
            go_roundw
            case rel =>
              refine ⟨m + 1, by omega, by go_num, ?_, (hb.trans hb3).trans hb4⟩
              refine cast (congrArg (TrioV _ w.heap.size _) ?_) hd4
              rw [HRS.out]
              simp [hlt3]; omega
            case measure => simp [intOf]; omega
          · go_wp2_with (at_builtin; (refine append_trio w.heap.size _ _ _ (ci r ++ cr r m) _ _ _ rfl _ _ rfl rfl rfl (by simp) hd (by have := hb.size; omega) (by omega) ?_; intro v' w3 hd3 hb3))
            go_roundw
            case rel =>
              refine ⟨m + 1, by omega, by go_num, ?_, (hb.trans hb3)⟩
              refine cast (congrArg (TrioV _ w.heap.size _) ?_) hd3
              rw [HRS.out]
              simp [hlt3]; omega
            case measure => simp [intOf]; omega
        · have hm2 : m = r + 1 := by omega
          rw [hm2] at hd
          clear hm2
          go_wp2_with fail
          go_roundw
          case rel => exact ⟨r + 1, by omega, by go_num, by rw [HCS.out]; exact hd, hb⟩
          case measure => simp [intOf]; omega
    · have hr2 : r = n := by omega
      rw [hr2] at hc
      clear hr2
      go_wp2_with fail
      go_ret
      exact ⟨_, rfl, hc, hb⟩
end Go.Proofs.Ytjbdhgomcchoaaa
