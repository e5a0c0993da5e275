import Derived.Test.YtjbdhgomcchoaaaRq
namespace Go.Proofs.Ytjbdhgomcchoaaa
open Go.RowKit
/-- The labels that were met, as bits. -/
def sn (xs : List Int) (c : List Nat) : Nat → Nat
  | 0 => 0
  | j + 1 => sn xs c j ||| (1 <<< (xs.getD (c.getD j 0) 0).toNat)
theorem lab3 {xs : List Int} (hA : allB 0 2 xs = true) (i : Nat) (hi : i < xs.length) : xs.getD i 0 = 0 ∨ xs.getD i 0 = 1 ∨ xs.getD i 0 = 2 := by
  have := allB_at hA i hi; omega
theorem or8 : ∀ a, a < 8 → ∀ b, b < 8 → a ||| b < 8 := by decide
theorem sn_lt (xs : List Int) (c : List Nat) (h : ∀ j, j < c.length → xs.getD (c.getD j 0) 0 = 0 ∨ xs.getD (c.getD j 0) 0 = 1 ∨ xs.getD (c.getD j 0) 0 = 2) : ∀ j, j ≤ c.length → sn xs c j < 8
  | 0, _ => by simp [sn]
  | j + 1, hj => by
    have ih := sn_lt xs c h j (by omega)
    simp only [sn]
    rcases h j (by omega) with e | e | e <;> rw [e] <;> exact or8 _ ih _ (by decide)
set_option maxHeartbeats 1600000 in
theorem doFull_any (xs : List Int) (c : List Nat) (a a' : Option Addr) (b b' len len' cap cap' : Nat) (w : World) (hn : xs.length = len) (hc : c.length = len') (h : Rd w a b 0 xs) (h' : Rd w a' b' 0 (c.map (fun (i : Nat) => (i : Int)))) (hA : allB 0 2 xs = true) (hin : ∀ j, j < c.length → c.getD j 0 < xs.length) (hl : c.length ≤ 1000) (_ : xs.length ≤ 1000) :
    Calls Try.prog 72 #[.slice a len cap, .slice a' len' cap'] w fun e w' => e = .returned (.bool (sn xs c c.length == 7)) ∧ w = w' := by
  subst hn hc
  have HR := Lib.hid h
  have HR' := Lib.hid h'
  have HIN := Lib.hid hin
  have HL3 := Lib.hid (fun j (hj : j < c.length) => lab3 hA (c.getD j 0) (hin j hj))
  have HSN := Lib.hid (sn_lt xs c (fun j hj => lab3 hA (c.getD j 0) (hin j hj)))
  clear h h' hA hin
  go_enter Try.func72, Try.ntmps72
  go_wp2_with fail
  go_loop [5, 10] (fun v5 v10 => ∃ j : Nat, j ≤ c.length ∧ v10 = .int .i64 j ∧ v5 = .int .i64 (sn xs c j : Nat)) (fun _ v10 => c.length - (intOf v10).toNat)
  case atStart => exact ⟨0, Nat.zero_le _, rfl, rfl⟩
  case round =>
    obtain ⟨j, hj, rfl, rfl⟩ := hrel
    by_cases hlt : j < c.length
    · obtain ⟨rfl, cj⟩ := HR'.out.2 j (by simpa using hlt)
      have ej : (c.map (fun (i : Nat) => (i : Int))).getD j 0 = ((c.getD j 0 : Nat) : Int) := by
        rw [List.getD_eq_getElem?_getD, List.getElem?_map, List.getD_eq_getElem?_getD, List.getElem?_eq_getElem hlt]; rfl
      rw [ej, Nat.zero_add] at cj
      have hil := HIN.out j hlt
      obtain ⟨rfl, ci'⟩ := HR.out.2 (c.getD j 0) hil
      rw [Nat.zero_add] at ci'
      have hs8 := HSN.out j hj
      have h3 := HL3.out j hlt
      have HE : Hid (sn xs c (j + 1) = sn xs c j ||| (1 <<< (xs.getD (c.getD j 0) 0).toNat)) := Lib.hid rfl
      have hji : (j : Int) < (c.length : Int) := by omega
      clear ej
      generalize c.getD j 0 = i at cj ci' hil h3 HE
      generalize xs.getD i 0 = x at ci' h3 HE
      generalize sn xs c j = s at hs8 HE ⊢
      have hii : (i : Int) < (xs.length : Int) := by omega
      match s, hs8 with
      | 0, _ | 1, _ | 2, _ | 3, _ | 4, _ | 5, _ | 6, _ | 7, _ =>
        rcases h3 with rfl | rfl | rfl <;>
        · go_wp2_with fail
          go_round
          case rel => exact ⟨j + 1, by omega, by go_num, by rw [HE.out]; rfl⟩
          case measure => simp [intOf]; omega
    · have hj2 : j = c.length := by omega
      rw [hj2]
      have hs8 := HSN.out c.length (Nat.le_refl _)
      clear hj2
      have HS : Hid (∀ s, sn xs c c.length = s → (sn xs c c.length == 7) = (s == 7)) := Lib.hid (fun s hs => by rw [hs])
      generalize hs : sn xs c c.length = s at hs8 ⊢
      replace HS := Lib.hid (HS.out s hs)
      clear hs
      match s, hs8 with
      | 0, _ | 1, _ | 2, _ | 3, _ | 4, _ | 5, _ | 6, _ | 7, _ =>
        go_wp2_with fail
        go_ret
        exact ⟨ret_bool (by rw [HS.out]; rfl), rfl⟩
end Go.Proofs.Ytjbdhgomcchoaaa
