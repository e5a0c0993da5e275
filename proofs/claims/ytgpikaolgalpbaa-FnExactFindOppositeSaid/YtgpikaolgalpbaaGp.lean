import Derived.Test.YtgpikaolgalpbaaGo
import Derived.Test.YtgpikaolgalpbaaGn
namespace Go.Proofs.Ytgpikaolgalpbaa
open Go.RowKit
set_option maxRecDepth 4000
theorem fp_eq (o : Option (Int × Int)) : ∃ a b : Int, fp o = .tuple #[.agg #[.int .i64 a, .int .i64 b], .bool o.isSome] ∧ (o = none ∧ a = 0 ∧ b = 0 ∨ o = some (a, b)) := by
  cases o with
  | none => exact ⟨0, 0, rfl, .inl ⟨rfl, rfl, rfl⟩⟩
  | some d => exact ⟨d.1, d.2, rfl, .inr rfl⟩
theorem gives_nil' {w w' : World} {et : TypeId} {L : List Int} {b : Bool} (h : L = [] ∧ b = false) (hB : Below w.heap.size w w') : Gives w et L b (.returned (.tuple #[.slice none 0 0, .bool false])) w' := by
  obtain ⟨rfl, rfl⟩ := h
  exact gives_none hB
theorem gives_list {w w' : World} {et : TypeId} {L M : List Int} {b : Bool} {v : Value} (h : L = M ∧ b = true) (ho : w'.ownsRow w.heap.size et 1 v M.length (M.map (Value.int .i64))) (hB : Below w.heap.size w w') : Gives w et L b (.returned (.tuple #[v, .bool true])) w' := by
  obtain ⟨rfl, rfl⟩ := h
  exact ⟨v, rfl, ho, hB⟩
set_option maxHeartbeats 1600000 in
theorem implFindOpposite (n : Int) (xs : List Int) (a : Option Addr) (b len cap : Nat) (w : World) (hn : xs.length = len) (hsm : len ≤ 1048576) (h : Rd w a b 0 xs) (hb0 : len = 0 ∨ b < w.heap.size) :
    Calls Try.prog 41 #[.int .i64 n, .slice a len cap] w (Gives w 89 (valFO n xs) (okFO n xs)) := by
  cases hL : sqB n xs
  · have H1 := Lib.hid (fo_no (n := n) (xs := xs) (by simp [hL]))
    have HR := Lib.hid (lsqOf_no n xs a b len cap w hn h hb0 hsm hL)
    clear hL hn h hb0
    go_enter Try.func41, Try.ntmps41
    go_wp2_with fail
    refine HR.out.mono ?_
    rintro e w1 ⟨rfl, hb1⟩
    have hB1 := balloc hb1 (.cells lq0 69)
    unfold lq0 at hB1 ⊢
    go_wp2_with fail
    go_ret2
    exact gives_nil' H1.out hB1
  · have HR := Lib.hid (lsqOf_yes n xs a b len cap w hn h hb0 hsm hL)
    obtain ⟨n, rfl, h1, h2, -, -⟩ := sqB_nat hL
    have HRD := Lib.hid (fun W (hB : Below w.heap.size w W) => h.later hn hb0 hB)
    have HB0 := Lib.hid hb0
    have HL := Lib.hid hL
    have HN := Lib.hid hn
    clear hn h hb0
    go_enter Try.func41, Try.ntmps41
    go_wp2_with fail
    refine HR.out.mono ?_
    rintro e w1 ⟨rfl, hb1⟩
    have hg1 := heap_alloc_new w1 (.cells (lqA n a len cap) 69)
    have hB1 := balloc hb1 (.cells (lqA n a len cap) 69)
    have hs1 : (w1.alloc (.cells (lqA n a len cap) 69)).heap.size = w1.heap.size + 1 := by simp
    have hwz := hb1.size
    clear hb1
    unfold lqA at hg1 hB1 hs1 ⊢
    go_wp2_with fail
    refine (areOpposite_any n xs a b len cap _ HN.out (HRD.out _ hB1) (by have := HB0.out; have := hB1.size; omega) HL.out).mono ?_
    rintro e w2 ⟨rfl, hb2⟩
    have hg2 := (hb2.block w1.heap.size (by omega)).trans hg1
    have hB2 := bnext hB1 hb2
    have hs2 := hb2.size
    have p0 : w2.cell? ⟨w1.heap.size, 0, none⟩ = some (.int .i64 n) := blk_cell hg2 0 _ rfl
    have p1 : w2.cell? ⟨w1.heap.size, 1, none⟩ = some (.iface 101 (.slice a len cap)) := blk_cell hg2 1 _ rfl
    clear hg1 hB1 hb2 hg2
    cases hO : oppB n xs
    · have H1 := Lib.hid (fo_no (n := (n : Int)) (xs := xs) (by rw [Int.toNat_natCast, hO]; simp))
      clear hO hL
      go_wp2_with fail
      go_ret2
      exact gives_nil' H1.out hB2
    · have H1 := Lib.hid (fo_yes hL hO)
      have HFO := Lib.hid (findOpposite_any n xs a b len cap w2 HN.out (HRD.out _ hB2) (by have := HB0.out; have := hB2.size; omega) hL)
      clear hO hL
      generalize foV n xs = O at H1 HFO
      obtain ⟨x, y, hfp, hO⟩ := fp_eq O
      rw [hfp] at HFO
      clear hfp
      go_wp2_with fail
      refine HFO.out.mono ?_
      rintro e w3 ⟨rfl, hb3⟩
      have hB3 := bnext hB2 hb3
      have hs3 := hb3.size
      clear hB2 hb3 p0 p1 HFO
      rcases hO with ⟨rfl, rfl, rfl⟩ | rfl
      · rw [show (none : Option (Int × Int)).isSome = false from rfl]
        have H2 : Hid (valFO (n : Int) xs = [] ∧ okFO (n : Int) xs = false) := Lib.hid H1.out
        go_wp2_with fail
        go_ret2
        exact gives_nil' H2.out (balloc hB3 _)
      · rw [show (some (x, y) : Option (Int × Int)).isSome = true from rfl]
        have H2 : Hid (valFO (n : Int) xs = [x, y] ∧ okFO (n : Int) xs = true) := Lib.hid H1.out
        go_wp2_with fail
        go_ret2
        exact gives_list H2.out (own_block (xs := [x, y]) (cur := #[.int .i64 x, .int .i64 y]) hB3.size (heap_alloc_new w3 _) rfl rfl (by simp [maxLen])) (balloc hB3 _)
end Go.Proofs.Ytgpikaolgalpbaa
