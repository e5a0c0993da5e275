import Derived.Test.YtgbfpmfennmebaaZj
import Derived.Test.YtgbfpmfennmebaaZa
namespace Go.Proofs.Ytgbfpmfennmebaa
open Go.RowKit
set_option maxRecDepth 4000
set_option maxHeartbeats 1600000 in
theorem doAllFull_any (n : Nat) (xs : List Int) (a : Option Addr) (b len cap : Nat) (w : World) (hn : xs.length = len) (h : Rd w a b 0 xs) (hb0 : len = 0 ∨ b < w.heap.size) (hL : labB n xs = true) :
    Calls Try.prog 41 #[.int .i64 n, .slice a len cap] w fun e w' => ∃ v, e = .returned v ∧ w'.ownsRow w.heap.size 3 1 v (flt (fullB xs n) (ci n).length).length ((flt (fullB xs n) (ci n).length).map (Value.int .i64)) ∧ Below w.heap.size w w' := by
  obtain ⟨h1, h2, hl, hA⟩ := labB_yes hL
  have hcn := (Pr.cnt_le n (by omega)).1
  have he := Lib.hid (ci_eq n (by omega) h1)
  have hnn64 : n * n ≤ 64 := Nat.mul_le_mul h2 h2
  obtain ⟨hlen, -⟩ := ci_cq n (by omega)
  rw [← hlen] at hnn64
  have HD := Lib.hid (fun k (hk : k < (ci n).length) w' a' b' cap' (hb : Below w.heap.size w w') (hr : Rd w' a' b' 0 ((cl n k).map (fun (i : Nat) => (i : Int)))) => doFull_any xs (cl n k) a a' b b' len 3 cap cap' w' hn rfl (h.later hn hb0 hb) hr hA (cl_in n k xs hL hk) (by simp [cl]) (by omega))
  clear hL hA h hn hl hlen hb0
  go_enter Try.func41, Try.ntmps41
  go_wp2_with fail
  refine (meCells_any n h1 h2 _).mono ?_
  rintro e w1 ⟨v, rfl, hc1, hb1⟩
  rw [← he.out] at hc1
  obtain ⟨sa, m, sc, rfl⟩ := cells_shape hc1
  obtain ⟨rfl, -, -⟩ := cells_row hc1
  have hz1 := hb1.size
  go_wp2_with fail
  go_loopw [5, 11] (fun v5 v11 wr => ∃ k : Nat, k ≤ (ci n).length ∧ v11 = .int .i64 k ∧ wr.ownsRow w1.heap.size 3 1 v5 (flt (fullB xs n) k).length ((flt (fullB xs n) k).map (Value.int .i64)) ∧ Below w1.heap.size w1 wr) (fun _ v11 _ => (ci n).length - (intOf v11).toNat)
  case atStart => exact ⟨0, Nat.zero_le _, rfl, World.ownsRow_nil _ _ _ _, Below.refl _ _⟩
  case round =>
    obtain ⟨k, hk, rfl, ho, hb⟩ := hrel
    have hfl := flt_len (fullB xs n) k
    by_cases hlt : k < (ci n).length
    · obtain ⟨-, g, ra, rc, rb, rfl, hgl, c1, hrd, hx⟩ := spec_cell h2 hc1 hlt
      have c1 := (hb.cell (p := ⟨g, k, none⟩) hgl).trans c1
      have hr1 := hrd.below hb hx
      have HX := Lib.hid (HD.out k hlt wr ra rb rc (bnext hb1 hb) hr1)
      have HY := Lib.hid (flt_yes (fullB xs n) k)
      have HN := Lib.hid (flt_no (fullB xs n) k)
      have HF : Hid (fullB xs n k = (sn xs (cl n k) (cl n k).length == 7)) := Lib.hid rfl
      have hz := hb.size
      have hki : (k : Int) < ((ci n).length : Int) := by omega
      clear hrd hr1 hx
      go_wp2_with fail
      refine HX.out.mono ?_
      rintro e w2 ⟨rfl, rfl⟩
      rw [← HF.out]
      cases hN : fullB xs n k
      · have e := Lib.hid (HN.out hN)
        clear hN
        go_wp2_with fail
        go_roundw
        case rel => exact ⟨k + 1, by omega, by go_num, by rw [e.out]; exact ho, hb⟩
        case measure => simp [intOf]; omega
      · have e := Lib.hid (HY.out hN)
        clear hN
        go_wp2_with (at_builtin; refine append_int w1.heap.size _ _ (flt (fullB xs n) k) _ rfl _ _ rfl rfl rfl ho hz (by omega) ?_; intro v' w3 ho3 hb3)
        go_roundw
        case rel => exact ⟨k + 1, by omega, by go_num, by rw [e.out]; exact ho3, hb.trans hb3⟩
        case measure => simp [intOf]; omega
    · have hk2 : k = (ci n).length := by omega
      rw [hk2] at ho
      clear hk2
      obtain ⟨-, sa', sc', sb', rfl, -, -⟩ := own_shape ho
      go_wp2_with fail
      go_ret
      exact ⟨_, rfl, own_base ho hz1, bnext hb1 hb⟩
def outFullCells (n : Int) (xs : List Int) : List Int := if labB n xs then flt (fullB xs n.toNat) (ci n.toNat).length else []
theorem outFullCells_len (n : Int) (xs : List Int) : (outFullCells n xs).length ≤ 1000 := by
  unfold outFullCells
  cases hL : labB n xs
  · simp
  · obtain ⟨n, rfl⟩ := labB_nat hL
    obtain ⟨h1, h2, -, -⟩ := labB_yes hL
    have hnn64 : n * n ≤ 64 := Nat.mul_le_mul h2 h2
    obtain ⟨hlen, -⟩ := ci_cq n (by omega)
    have := flt_len (fullB xs n) (ci n).length
    simp only [if_true, Int.toNat_natCast]
    omega
end Go.Proofs.Ytgbfpmfennmebaa
