import Derived.Test.YtgpikaolgalpbaaYp
namespace Go.Proofs.Ytgpikaolgalpbaa
open Go.RowKit
set_option maxRecDepth 4000
theorem map_take (g : Int → Int) (xs : List Int) (k : Nat) (hk : k < xs.length) : (xs.take (k + 1)).map g = (xs.take k).map g ++ [g (xs.getD k 0)] := by
  rw [List.take_add_one, List.map_append, List.getElem?_eq_getElem hk, List.getD_eq_getElem?_getD, List.getElem?_eq_getElem hk]; rfl
set_option maxHeartbeats 800000 in
theorem specNegateLabels (n : Int) (xs : List Int) (a : Option Addr) (b len cap : Nat) (w : World) (hn : xs.length = len) (hsm : len ≤ 1048576) (h : Rd w a b 0 xs) (hb0 : len = 0 ∨ b < w.heap.size) :
    Calls Try.prog 34 #[.int .i64 n, .slice a len cap] w (Gives w 3 (outEach (fun x => -x) n xs) (sqB n xs)) := by
  have HM := Lib.hid (opLabels_any n xs a b 0 len cap w hn h hsm)
  cases hL : sqB n xs
  · have H1 : Hid (outEach (fun x => -x) n xs = []) := Lib.hid (by simp [outEach, hL])
    rw [hL] at HM
    rw [H1.out]
    clear hL h
    go_enter Try.func34, Try.ntmps34
    go_wp2_with fail
    refine HM.out.mono ?_
    rintro e w1 ⟨rfl, rfl⟩
    go_wp2_with fail
    go_ret2
    exact gives_none (Below.refl _ _)
  · obtain ⟨n, rfl, h1, h2, hl, hA⟩ := sqB_nat hL
    have H1 : Hid (outEach (fun x => -x) n xs = (xs.take len).map (fun x => -x)) := Lib.hid (by rw [← hn, List.take_length]; simp [outEach, hL])
    have hsl := sqn_le n h2
    have hlb : len ≤ 81 := by omega
    have HR := Lib.hid (fun W (hB : Below w.heap.size w W) => h.later hn hb0 hB)
    have HAA := Lib.hid (fun k (hk : k < len) => all4_at hA k (by omega))
    have HN := Lib.hid hn
    have HS := Lib.hid (fun k (hk : k < len) => map_take (fun x => -x) xs k (by omega))
    rw [hL] at HM
    rw [H1.out]
    clear hL h hl hn hA hsl
    go_enter Try.func34, Try.ntmps34
    go_wp2_with fail
    refine HM.out.mono ?_
    rintro e w1 ⟨rfl, rfl⟩
    go_wp2_with fail
    go_loopw [6, 15] (fun v6 v15 wr => ∃ k : Nat, k ≤ len ∧ v15 = .int .i64 k ∧ wr.ownsRow w.heap.size 3 1 v6 ((xs.take k).map (fun x => -x)).length (((xs.take k).map (fun x => -x)).map (Value.int .i64)) ∧ Below w.heap.size w wr) (fun _ v15 _ => len - (intOf v15).toNat)
    case atStart => exact ⟨0, Nat.zero_le _, rfl, World.ownsRow_nil _ _ _ _, Below.refl _ _⟩
    case round =>
      obtain ⟨k, hk, rfl, ho, hb⟩ := hrel
      by_cases hlt : k < len
      · obtain ⟨rfl, c⟩ := (HR.out wr hb).2 k (by rw [HN.out]; exact hlt)
        rw [Nat.zero_add] at c
        obtain ⟨l0, l1, l2⟩ := HAA.out k hlt
        have hki : (k : Int) < (len : Int) := by omega
        have HSK := Lib.hid (HS.out k hlt)
        have hln : ((xs.take k).map (fun x => -x)).length ≤ 81 := by rw [List.length_map, List.length_take]; omega
        have hz := hb.size
        generalize xs.getD k 0 = x at c l0 l1 l2 HSK
        go_wp2_with (at_builtin; refine append_intg w.heap.size _ _ _ ((xs.take k).map (fun x => -x)) _ rfl _ _ rfl rfl rfl (by simp) ho (by omega) (by omega) ?_; intro v' w3 ho3 hb3)
        go_roundw
        case rel => exact ⟨k + 1, by omega, by go_num, by rw [HSK.out]; exact ho3, hb.trans hb3⟩
        case measure => simp [intOf]; omega
      · have hk2 : k = len := by omega
        rw [hk2] at ho
        clear hk2
        obtain ⟨-, ua, uc, ub, rfl, -, -⟩ := own_shape ho
        go_wp2_with fail
        go_ret2
        exact ⟨_, rfl, ho, hb⟩
end Go.Proofs.Ytgpikaolgalpbaa
