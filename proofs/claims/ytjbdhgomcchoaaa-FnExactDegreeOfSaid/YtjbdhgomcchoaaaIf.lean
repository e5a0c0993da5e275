import Derived.Test.YtjbdhgomcchoaaaDo
import Derived.Test.YtjbdhgomcchoaaaFu
namespace Go.Proofs.Ytjbdhgomcchoaaa
open Go.RowKit
theorem sqw (n : Nat) (h2 : n ≤ 8) : wrap64 ((n : Int) * (n : Int)) = ((n * n : Nat) : Int) := by
  have : n * n ≤ 8 * 8 := Nat.mul_le_mul h2 h2
  rw [IntWalk.wrap64_in _ ⟨by have : (0:Int) ≤ (n:Int) * (n:Int) := Int.mul_nonneg (by omega) (by omega); omega, by have : ((n * n : Nat) : Int) = (n:Int) * (n:Int) := Int.natCast_mul n n; omega⟩]
  exact (Int.natCast_mul n n).symm
/-- Whether there are labels and a cell. -/
def okCell (n : Int) (xs : List Int) (k : Int) : Bool := labB n xs && decide (0 ≤ k ∧ k < ((ci n.toNat).length : Nat))
theorem okCell_yes {n k : Int} {xs : List Int} (h : okCell n xs k = true) : ∃ n' k' : Nat, n = n' ∧ k = k' ∧ labB n' xs = true ∧ k' < (ci n').length := by
  simp only [okCell, Bool.and_eq_true, decide_eq_true_eq] at h
  obtain ⟨hL, h3, h4⟩ := h
  obtain ⟨n, rfl⟩ := labB_nat hL
  obtain ⟨k, rfl⟩ := Int.eq_ofNat_of_zero_le h3
  exact ⟨n, k, rfl, rfl, hL, by simpa using h4⟩
def cl (n k : Nat) : List Nat := [cq n k 0, cq n k 1, cq n k 2]
/-- Whether a cell is full. -/
def fullB (xs : List Int) (n k : Nat) : Bool := sn xs (cl n k) 3 == 7
theorem full_eq (n k : Nat) (xs : List Int) (hL : labB n xs = true) (hk : k < (ci n).length) : (((cpairs n k).filter (drB xs)).length == 1) = fullB xs n k := by
  obtain ⟨h1, h2, hl, hA⟩ := labB_yes hL
  obtain ⟨-, hall⟩ := ci_cq n (by omega)
  obtain ⟨-, -, -, -, hp, hq, hr⟩ := hall k hk
  have a := lab3 hA (cq n k 0) (by omega)
  have b := lab3 hA (cq n k 1) (by omega)
  have c := lab3 hA (cq n k 2) (by omega)
  simp only [fullB, cl, sn, cpairs, drB, doorB, List.filter_cons, List.filter_nil, Int.toNat_natCast, List.getD_cons_zero, List.getD_cons_succ]
  rcases a with a | a | a <;> rcases b with b | b | b <;> rcases c with c | c | c <;> simp only [a, b, c] <;> rfl
theorem cl_in (n k : Nat) (xs : List Int) (hL : labB n xs = true) (hk : k < (ci n).length) : ∀ j, j < (cl n k).length → (cl n k).getD j 0 < xs.length := by
  obtain ⟨h1, h2, hl, hA⟩ := labB_yes hL
  obtain ⟨-, hall⟩ := ci_cq n (by omega)
  obtain ⟨-, -, -, -, hp, hq, hr⟩ := hall k hk
  intro j hj
  match j, hj with
  | 0, _ => show cq n k 0 < _; omega
  | 1, _ => show cq n k 1 < _; omega
  | 2, _ => show cq n k 2 < _; omega
  | j + 3, hj => exact absurd hj (by simp [cl])
set_option maxHeartbeats 800000 in
theorem doCell_any (n : Int) (xs : List Int) (k : Int) (a : Option Addr) (b len cap : Nat) (w : World) (hn : xs.length = len) (h : Rd w a b 0 xs) :
    Calls Try.prog 68 #[.int .i64 n, .slice a len cap, .int .i64 k] w fun e w' => e = .returned (.bool (okCell n xs k)) ∧ w = w' := by
  have HM := Lib.hid (meLabels_any n xs a b 0 len cap w hn h)
  clear h
  cases hL : labB n xs
  · have HP : Hid (okCell n xs k = false) := Lib.hid (by simp [okCell, hL])
    rw [hL] at HM
    clear hL
    go_enter Try.func68, Try.ntmps68
    go_wp2_with fail
    refine HM.out.mono ?_
    rintro e w1 ⟨rfl, rfl⟩
    go_wp2_with fail
    go_ret
    exact ⟨ret_f HP.out rfl, rfl⟩
  · obtain ⟨n, rfl⟩ := labB_nat hL
    obtain ⟨h1, h2, hl, -⟩ := labB_yes hL
    rw [hL] at HM
    obtain ⟨hlen, -⟩ := ci_cq n (by omega)
    have hsq := sqw n h2
    have hnn64 : n * n ≤ 64 := Nat.mul_le_mul h2 h2
    rw [← hlen] at hsq hnn64
    by_cases hk : 0 ≤ k ∧ k ≤ ((ci n).length : Int) - 1
    · have HP : Hid (okCell n xs k = true) := Lib.hid (by simp [okCell, hL]; omega)
      clear hL hlen hl
      go_enter Try.func68, Try.ntmps68
      go_wp2_with fail
      refine HM.out.mono ?_
      rintro e w1 ⟨rfl, rfl⟩
      go_wp2_with fail
      refine (l1In_yes k 0 _ hk _).mono ?_
      rintro e w1 ⟨rfl, rfl⟩
      go_wp2_with fail
      go_ret
      exact ⟨ret_b HP.out rfl, rfl⟩
    · have HP : Hid (okCell n xs k = false) := Lib.hid (by simp [okCell, hL]; omega)
      clear hL hlen hl
      go_enter Try.func68, Try.ntmps68
      go_wp2_with fail
      refine HM.out.mono ?_
      rintro e w1 ⟨rfl, rfl⟩
      go_wp2_with fail
      refine (l1In_no k 0 _ hk _).mono ?_
      rintro e w1 ⟨rfl, rfl⟩
      go_wp2_with fail
      go_ret
      exact ⟨ret_f HP.out rfl, rfl⟩
/-- A cell read off the model's list of cells. -/
theorem spec_cell {w : World} {base : Nat} {a : Option Addr} {m cap n k : Nat} (h2 : n ≤ 8) (hc : CellsV w base (.slice a m cap) (ci n)) (hk : k < (ci n).length) :
    m = (ci n).length ∧ ∃ g ra rc rb, a = some ⟨g, 0, none⟩ ∧ g < w.heap.size ∧ w.cell? ⟨g, k, none⟩ = some (.slice ra 3 rc) ∧ Rd w ra rb 0 ((cl n k).map (fun (i : Nat) => (i : Int))) ∧ (ra = none ∨ rb < w.heap.size) := by
  obtain ⟨hm, -, hrows⟩ := cells_row hc
  obtain ⟨g, ra, rc, rb, ha, -, hgl, c1, hx, hrd, -, -⟩ := hrows k hk
  obtain ⟨-, hall⟩ := ci_cq n (by omega)
  obtain ⟨hrow, -⟩ := hall k hk
  rw [hrow] at c1 hrd
  exact ⟨hm, g, ra, rc, rb, ha, hgl, c1, hrd, hx.imp_right fun h => h.2.1⟩
def okIsFull (n : Int) (xs : List Int) (k : Int) : Bool := okCell n xs k
def valIsFull (n : Int) (xs : List Int) (k : Int) : Bool := okCell n xs k && fullB xs n.toNat k.toNat
set_option maxHeartbeats 800000 in
theorem specIsFull (n : Int) (xs : List Int) (k : Int) (a : Option Addr) (b len cap : Nat) (w : World) (hn : xs.length = len) (h : Rd w a b 0 xs) (hb0 : len = 0 ∨ b < w.heap.size) :
    Calls Try.prog 36 #[.int .i64 n, .slice a len cap, .int .i64 k] w fun e w' => e = .returned (.tuple #[.bool (valIsFull n xs k), .bool (okIsFull n xs k)]) ∧ Below w.heap.size w w' := by
  have HP := Lib.hid (doCell_any n xs k a b len cap w hn h)
  cases hp : okCell n xs k
  · have H1 : Hid (valIsFull n xs k = false ∧ okIsFull n xs k = false) := Lib.hid (by simp [valIsFull, okIsFull, hp])
    rw [hp] at HP
    clear hp h
    rw [H1.out.1, H1.out.2]
    go_enter Try.func36, Try.ntmps36
    go_wp2_with fail
    refine HP.out.mono ?_
    rintro e w1 ⟨rfl, rfl⟩
    go_wp2_with fail
    go_ret2
    exact ⟨rfl, Below.refl _ _⟩
  · rw [hp] at HP
    have H0 : Hid (okIsFull n xs k = true) := Lib.hid hp
    obtain ⟨n, k, rfl, rfl, hL, hk⟩ := okCell_yes hp
    have H1 : Hid (valIsFull n xs k = (sn xs (cl n k) (cl n k).length == 7)) := Lib.hid (by simp [valIsFull, hp, fullB]; rfl)
    obtain ⟨h1, h2, hl, hA⟩ := labB_yes hL
    have he := Lib.hid (ci_eq n (by omega) h1)
    have HD := Lib.hid (fun w' a' b' cap' (hb : Below w.heap.size w w') (hr : Rd w' a' b' 0 ((cl n k).map (fun (i : Nat) => (i : Int)))) => doFull_any xs (cl n k) a a' b b' len 3 cap cap' w' hn rfl (h.later hn hb0 hb) hr hA (cl_in n k xs hL hk) (by simp [cl]) (by have := (Pr.cnt_le n (by omega)).1; omega))
    rw [H0.out, H1.out]
    clear hp h hL hl hA hn
    go_enter Try.func36, Try.ntmps36
    go_wp2_with fail
    refine HP.out.mono ?_
    rintro e w1 ⟨rfl, rfl⟩
    go_wp2_with fail
    refine (meCells_any n h1 h2 _).mono ?_
    rintro e w2 ⟨v, rfl, hc, hb⟩
    rw [← he.out] at hc
    obtain ⟨sa, m, sc, rfl⟩ := cells_shape hc
    obtain ⟨rfl, g, ra, rc, rb, rfl, hgl, c1, hrd, -⟩ := spec_cell h2 hc hk
    have hki : (k : Int) < ((ci n).length : Int) := by omega
    go_wp2_with fail
    refine (HD.out _ _ _ _ hb hrd).mono ?_
    rintro e w3 ⟨rfl, rfl⟩
    go_wp2_with fail
    go_ret2
    exact ⟨rfl, hb⟩
end Go.Proofs.Ytjbdhgomcchoaaa
