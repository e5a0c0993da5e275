import Derived.Test.YtgpikaolgalpbaaYq
namespace Go.Proofs.Ytgpikaolgalpbaa
open Go.RowKit
set_option maxRecDepth 4000
def plc (x : Int) : Int := if x > 0 then x - 1 else 1 - x
set_option maxHeartbeats 400000 in
theorem opPlace_any (x : Int) (l0 : -2 ≤ x) (l1 : x ≤ 2) (w : World) :
    Calls Try.prog 79 #[.int .i64 x] w fun e w' => e = .returned (.int .i64 (plc x)) ∧ w = w' := by
  by_cases h : x > 0
  · have HN : Hid (plc x = x - 1) := Lib.hid (if_pos h)
    go_enter Try.func79, Try.ntmps79
    go_wp2
    go_ret
    exact ⟨ret_int HN.out.symm, rfl⟩
  · have HN : Hid (plc x = 1 - x) := Lib.hid (if_neg h)
    go_enter Try.func79, Try.ntmps79
    go_wp2
    go_ret
    exact ⟨ret_int HN.out.symm, rfl⟩
set_option maxHeartbeats 800000 in
theorem specAddTurn (n : Int) (xs : List Int) (a : Option Addr) (b len cap : Nat) (w : World) (hn : xs.length = len) (hsm : len ≤ 1048576) (h : Rd w a b 0 xs) (hb0 : len = 0 ∨ b < w.heap.size) :
    Calls Try.prog 44 #[.int .i64 n, .slice a len cap] w (Gives w 3 (outEach (nl) n xs) (sqB n xs)) := by
  have HM := Lib.hid (opLabels_any n xs a b 0 len cap w hn h hsm)
  cases hL : sqB n xs
  · have H1 : Hid (outEach (nl) n xs = []) := Lib.hid (by simp [outEach, hL])
    rw [hL] at HM
    rw [H1.out]
    clear hL h
    go_enter Try.func44, Try.ntmps44
    go_wp2_with fail
    refine HM.out.mono ?_
    rintro e w1 ⟨rfl, rfl⟩
    go_wp2_with fail
    go_ret2
    exact gives_none (Below.refl _ _)
  · obtain ⟨n, rfl, h1, h2, hl, hA⟩ := sqB_nat hL
    have H1 : Hid (outEach (nl) n xs = (xs.take len).map (nl)) := Lib.hid (by rw [← hn, List.take_length]; simp [outEach, hL])
    have hsl := sqn_le n h2
    have hlb : len ≤ 81 := by omega
    have HR := Lib.hid (fun W (hB : Below w.heap.size w W) => h.later hn hb0 hB)
    have HAA := Lib.hid (fun k (hk : k < len) => all4_at hA k (by omega))
    have HN := Lib.hid hn
    have HS := Lib.hid (fun k (hk : k < len) => map_take (nl) xs k (by omega))
    rw [hL] at HM
    rw [H1.out]
    clear hL h hl hn hA hsl
    go_enter Try.func44, Try.ntmps44
    go_wp2_with fail
    refine HM.out.mono ?_
    rintro e w1 ⟨rfl, rfl⟩
    go_wp2_with fail
    go_loopw [6, 15] (fun v6 v15 wr => ∃ k : Nat, k ≤ len ∧ v15 = .int .i64 k ∧ wr.ownsRow w.heap.size 3 1 v6 ((xs.take k).map (nl)).length (((xs.take k).map (nl)).map (Value.int .i64)) ∧ Below w.heap.size w wr) (fun _ v15 _ => len - (intOf v15).toNat)
    case atStart => exact ⟨0, Nat.zero_le _, rfl, World.ownsRow_nil _ _ _ _, Below.refl _ _⟩
    case round =>
      obtain ⟨k, hk, rfl, ho, hb⟩ := hrel
      by_cases hlt : k < len
      · obtain ⟨rfl, c⟩ := (HR.out wr hb).2 k (by rw [HN.out]; exact hlt)
        rw [Nat.zero_add] at c
        obtain ⟨l0, l1, l2⟩ := HAA.out k hlt
        have hki : (k : Int) < (len : Int) := by omega
        have HSK := Lib.hid (HS.out k hlt)
        have hln : ((xs.take k).map (nl)).length ≤ 81 := by rw [List.length_map, List.length_take]; omega
        have hz := hb.size
        generalize xs.getD k 0 = x at c l0 l1 l2 HSK
        obtain ⟨q, hq, hq4, hqx⟩ : ∃ q : Nat, (plc x + 1).tmod 4 = (q : Int) ∧ q < 4 ∧ (#[Value.int .i64 1, .int .i64 2, .int .i64 (-1), .int .i64 (-2)])[q]? = some (.int .i64 (nl x)) := by
          have : x = 1 ∨ x = 2 ∨ x = -1 ∨ x = -2 := by omega
          rcases this with rfl | rfl | rfl | rfl
          · exact ⟨1, rfl, by decide, rfl⟩
          · exact ⟨2, rfl, by decide, rfl⟩
          · exact ⟨3, rfl, by decide, rfl⟩
          · exact ⟨0, rfl, by decide, rfl⟩
        have hp : 0 ≤ plc x ∧ plc x ≤ 3 := by unfold plc; split <;> omega
        have hce : (wr.alloc (.cells #[.int .i64 1, .int .i64 2, .int .i64 (-1), .int .i64 (-2)] 3)).cell? ⟨wr.heap.size, q, none⟩ = some (.int .i64 (nl x)) := (cell_of_row _ _ _ _ _ (0, 0) (heap_alloc_new wr _)).trans hqx
        have hqi : (q : Int) < 4 := by omega
        have hqe : (plc x + 1) % 4 = (q : Int) := by rw [← Int.tmod_eq_emod_of_nonneg (by omega)]; exact hq
        have hbA := balloc hb (.cells #[.int .i64 1, .int .i64 2, .int .i64 (-1), .int .i64 (-2)] 3)
        have hoA := ho.alloc (.cells #[.int .i64 1, .int .i64 2, .int .i64 (-1), .int .i64 (-2)] 3)
        have hzA : w.heap.size ≤ (wr.alloc (.cells #[.int .i64 1, .int .i64 2, .int .i64 (-1), .int .i64 (-2)] 3)).heap.size := by simp; omega
        go_wp2_with fail
        refine (opPlace_any x l0 l1 _).mono ?_
        rintro e w2 ⟨rfl, rfl⟩
        generalize plc x = p at hq hp hqe ⊢
        generalize nl x = y at hce HSK ⊢
        generalize wr.alloc (.cells #[.int .i64 1, .int .i64 2, .int .i64 (-1), .int .i64 (-2)] 3) = wz at hce hbA hoA hzA ⊢
        clear ho hb hqx c
        go_wp2_with (at_builtin; refine append_intg w.heap.size _ _ _ ((xs.take k).map nl) _ rfl _ _ rfl rfl rfl (by simp) hoA hzA (by omega) ?_; intro v' w3 ho3 hb3)
        go_roundw
        case rel => exact ⟨k + 1, by omega, by go_num, by rw [HSK.out]; exact ho3, hbA.trans hb3⟩
        case measure => simp [intOf]; omega
      · have hk2 : k = len := by omega
        rw [hk2] at ho
        clear hk2
        obtain ⟨-, ua, uc, ub, rfl, -, -⟩ := own_shape ho
        go_wp2_with fail
        go_ret2
        exact ⟨_, rfl, ho, hb⟩
end Go.Proofs.Ytgpikaolgalpbaa
