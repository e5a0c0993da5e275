import Derived.Test.YtcahecohjmahaaaDoorEa
namespace Go.Proofs.YtcahecohjmahaaaDoor
open Go.RowKit
set_option maxRecDepth 4000
/-- The pairs that the model looks at: each point with those behind it. -/
def rowB (i m : Nat) : List (Int × Int) := (List.range m).map fun t => ((i : Int), ((i + 1 + t : Nat) : Int))
def apn (s : Nat) : Nat → List (Int × Int)
  | 0 => []
  | i + 1 => apn s i ++ rowB i (s - (i + 1))
theorem rowB_succ (i m : Nat) : rowB i (m + 1) = rowB i m ++ [((i : Int), ((i + 1 + m : Nat) : Int))] := by simp [rowB, List.range_succ]
theorem rowB_len (i m : Nat) : (rowB i m).length = m := by simp [rowB]
theorem apn_len (s : Nat) : ∀ i, (apn s i).length ≤ i * s
  | 0 => by simp [apn]
  | i + 1 => by
    have := apn_len s i
    simp only [apn, List.length_append, rowB_len]
    rw [Nat.add_mul]; omega
/-- The opposite edges among them. -/
def oeF (n : Int) (xs : List Int) (p : Int × Int) : Bool := nearS n p.1 p.2 && sumB xs 0 p
def outE (n : Int) (xs : List Int) (ps : List (Int × Int)) : List (List Int) := (ps.filter (oeF n xs)).map lst
theorem outE_yes (n : Int) (xs : List Int) (ps : List (Int × Int)) (i j : Int) (h : oeF n xs (i, j) = true) : outE n xs (ps ++ [(i, j)]) = outE n xs ps ++ [[i, j]] := by
  simp [outE, h, lst]
theorem outE_no (n : Int) (xs : List Int) (ps : List (Int × Int)) (i j : Int) (h : oeF n xs (i, j) = false) : outE n xs (ps ++ [(i, j)]) = outE n xs ps := by
  simp [outE, h]
theorem outE_len (n : Int) (xs : List Int) (ps : List (Int × Int)) : (outE n xs ps).length ≤ ps.length := by
  simp only [outE, List.length_map]; exact List.length_filter_le _ _
theorem outE_row (n : Int) (xs : List Int) (ps : List (Int × Int)) : ∀ i, i < (outE n xs ps).length → ((outE n xs ps).getD i []).length ≤ 1000 := by
  intro i hi
  rw [List.getD_eq_getElem?_getD, List.getElem?_eq_getElem hi]
  simp [outE, lst]
def outOE (n : Int) (xs : List Int) : List (List Int) := if sqB n xs then outE n xs (apn xs.length xs.length) else []
set_option maxHeartbeats 3200000 in
theorem specOppositeEdges (n : Int) (xs : List Int) (a : Option Addr) (b len cap : Nat) (w : World) (hn : xs.length = len) (hsm : len ≤ 1048576) (h : Rd w a b 0 xs) (hb0 : len = 0 ∨ b < w.heap.size) :
    Calls Tryd.prog 12 #[.int .i64 n, .slice a len cap] w (CGives w (outOE n xs) (sqB n xs)) := by
  have HM := Lib.hid (opLabels_any n xs a b 0 len cap w hn h hsm)
  cases hL : sqB n xs
  · have H1 : Hid (outOE n xs = []) := Lib.hid (by simp [outOE, hL])
    rw [hL] at HM
    rw [H1.out]
    clear hL h
    go_enter Tryd.func12, Tryd.ntmps12
    go_wp2_with fail
    refine HM.out.mono ?_
    rintro e w1 ⟨rfl, rfl⟩
    go_wp2_with fail
    go_ret2
    exact cgives_none (Below.refl _ _)
  · obtain ⟨n, rfl, h1, h2, hl, hA⟩ := sqB_nat hL
    have H1 : Hid (outOE n xs = outE n xs (apn len len)) := Lib.hid (by simp [outOE, hL, hn])
    have hsl := sqn_le n h2
    have hlb : len ≤ 81 := by omega
    have HR := Lib.hid (fun W (hB : Below w.heap.size w W) => h.later hn hb0 hB)
    have HB0 := Lib.hid hb0
    have HAA := Lib.hid (fun k (hk : k < len) => all4_at hA k (by omega))
    have HN := Lib.hid hn
    have HNE := Lib.hid (fun i j (hi : i < len) (hj : j < len) w => opNear_any (n : Int) (i : Int) (j : Int) (by omega) (by omega) (by omega) (by rw [sqn_eq]; omega) (by omega) (by rw [sqn_eq]; omega) w)
    rw [hL] at HM
    rw [H1.out]
    clear hL h hl hn hA hb0 hsl
    go_enter Tryd.func12, Tryd.ntmps12
    go_wp2_with fail
    refine HM.out.mono ?_
    rintro e w1 ⟨rfl, rfl⟩
    go_wp2_with fail
    go_loopw [6, 15] (fun v6 v15 wr => ∃ i : Nat, i ≤ len ∧ v15 = .int .i64 i ∧ CellsV wr w.heap.size v6 (outE n xs (apn len i)) ∧ Below w.heap.size w wr) (fun _ v15 _ => len - (intOf v15).toNat)
    case atStart => exact ⟨0, Nat.zero_le _, rfl, cells_nil _ _, Below.refl _ _⟩
    case round =>
      obtain ⟨i, hi, rfl, hcv, hb⟩ := hrel
      obtain ⟨wo, hwo⟩ : ∃ wo : World, wo = wr := ⟨_, rfl⟩
      subst hwo
      by_cases hlt : i < len
      · have hii : (i : Int) < (len : Int) := by omega
        have HPS : Hid (apn len (i + 1) = apn len i ++ rowB i (len - (i + 1))) := Lib.hid rfl
        have HRS := Lib.hid (rowB_succ i)
        have hpl := apn_len len i
        have hpl2 : i * len ≤ 81 * 81 := Nat.mul_le_mul (by omega) (by omega)
        have HPL : Hid ((apn len i).length ≤ 6561) := Lib.hid (by omega)
        clear hpl hpl2
        go_wp2_with fail
        go_loopw [6, 8] (fun v6 v8 wr => ∃ m : Nat, m ≤ len - (i + 1) ∧ v8 = .int .i64 ((i + 1 + m : Nat) : Int) ∧ CellsV wr w.heap.size v6 (outE n xs (apn len i ++ rowB i m)) ∧ Below w.heap.size w wr) (fun _ v8 _ => len - (intOf v8).toNat)
        case atStart => exact ⟨0, Nat.zero_le _, by simp, by simpa [rowB] using hcv, hb⟩
        case round =>
          clear hcv hb
          obtain ⟨m, hm, rfl, hcv, hb⟩ := hrel
          by_cases hltm : m < len - (i + 1)
          · obtain ⟨j, hj⟩ : ∃ j, i + 1 + m = j := ⟨_, rfl⟩
            have hjl : j < len := by omega
            have hjj : (j : Int) < (len : Int) := by omega
            have HR1 := Lib.hid (HRS.out m)
            rw [hj] at HR1 ⊢
            have hol := outE_len n xs (apn len i ++ rowB i m)
            rw [List.length_append, rowB_len] at hol
            have hol2 : (outE n xs (apn len i ++ rowB i m)).length ≤ 7000 := by have := HPL.out; omega
            have HOL := Lib.hid hol2
            have hj2 : j + 1 = i + 1 + (m + 1) := by omega
            have HJ2 := Lib.hid hj2
            clear hj hol hol2 hj2
            obtain ⟨wi, hwi⟩ : ∃ wi : World, wi = wr := ⟨_, rfl⟩
            subst hwi
            have hrw := HR.out wi hb
            obtain ⟨rfl, ca⟩ := hrw.2 i (by have := HN.out; omega)
            have cb := (hrw.2 j (by have := HN.out; omega)).2
            rw [Nat.zero_add] at ca cb
            have A1 := HAA.out i hlt
            have A2 := HAA.out j hjl
            have hbl : b < wi.heap.size := by have := hb.size; have := HB0.out; omega
            have HSM : Hid (oeF n xs ((i : Int), (j : Int)) = (nearS n i j && (xs.getD i 0 + xs.getD j 0 == 0))) := Lib.hid rfl
            have HNR := Lib.hid (fun w => HNE.out i j hlt hjl w)
            clear hrw
            generalize xs.getD i 0 = x at ca A1 HSM
            generalize xs.getD j 0 = y at cb A2 HSM
            generalize nearS (n : Int) (i : Int) (j : Int) = nr at HSM HNR
            cases nr
            · have e := Lib.hid (outE_no n xs (apn len i ++ rowB i m) i j (by rw [HSM.out]; rfl))
              rw [List.append_assoc, ← HR1.out] at e
              go_wp2_with fail
              refine wp_region_below (by kernel_rfl) (by kernel_rfl) ?_
              intro ι hne f hbf hcl
              repeat (go_big_quiet_step (first | (go_at_call 50; with_reducible refine (HNR.out _).mono ?_; rintro e w' ⟨rfl, hb⟩; exact ⟨rfl, hcl _ _ hb⟩)))
              refine wpQuiet_nil ?_
              rintro _ ⟨t, rfl⟩
              have hb2 := hb.trans ((hbf t).mono hb.size)
              have hc2 := cells_now hcv (hbf t)
              generalize f t = w2 at hb2 hc2 ⊢
              go_wp2_with fail
              go_roundw
              case rel => exact ⟨m + 1, by omega, by rw [← HJ2.out]; go_num, by rw [e.out]; exact hc2, hb2⟩
              case measure => simp [intOf]; omega
            · have m1f : ∀ (f : World), Below wi.heap.size wi f → f.cell? ⟨b, i, none⟩ = some (.int .i64 x) := fun f hf => (hf.cell (p := ⟨b, i, none⟩) hbl).trans ca
              have m2f : ∀ (f : World), Below wi.heap.size wi f → f.cell? ⟨b, j, none⟩ = some (.int .i64 y) := fun f hf => (hf.cell (p := ⟨b, j, none⟩) hbl).trans cb
              go_wp2_with fail
              refine wp_region_below (by kernel_rfl) (by kernel_rfl) ?_
              intro ι hne f hbf hcl
              have m1 : ∀ t, (f t).cell? ⟨b, i, none⟩ = some (.int .i64 x) := fun t => m1f _ (hbf t)
              have m2 : ∀ t, (f t).cell? ⟨b, j, none⟩ = some (.int .i64 y) := fun t => m2f _ (hbf t)
              repeat (go_big_quiet_step (first | (go_at_call 50; with_reducible refine (HNR.out _).mono ?_; rintro e w' ⟨rfl, hb⟩; exact ⟨rfl, hcl _ _ hb⟩)))
              refine wpQuiet_nil ?_
              rintro _ ⟨t, rfl⟩
              have hb2 := hb.trans ((hbf t).mono hb.size)
              have hc2 := cells_now hcv (hbf t)
              have hz2 := hb2.size
              generalize f t = w2 at hb2 hc2 hz2 ⊢
              clear m1 m2 m1f m2f hbf hcl hne hcv hb ca cb
              cases hS : (x + y == 0)
              · have e := Lib.hid (outE_no n xs (apn len i ++ rowB i m) i j (by rw [HSM.out, hS]; rfl))
                rw [List.append_assoc, ← HR1.out] at e
                clear hS
                go_wp2_with fail
                go_roundw
                case rel => exact ⟨m + 1, by omega, by rw [← HJ2.out]; go_num, by rw [e.out]; exact hc2, hb2⟩
                case measure => simp [intOf]; omega
              · have e := Lib.hid (outE_yes n xs (apn len i ++ rowB i m) i j (by rw [HSM.out, hS]; rfl))
                rw [List.append_assoc, ← HR1.out] at e
                clear hS
                have hbw := balloc (Below.refl w2.heap.size w2) (.cells #[.int .i64 i, .int .i64 j] 3)
                have hu : (w2.alloc (.cells #[.int .i64 i, .int .i64 j] 3)).ownsRow w2.heap.size 3 1 (.slice (some ⟨w2.heap.size, 0, none⟩) 2 2) [(i : Int), (j : Int)].length ([(i : Int), (j : Int)].map (Value.int .i64)) :=
                  own_block (Nat.le_refl _) (heap_alloc_new _ _) (by simp) rfl (by simp [maxLen])
                go_wp2_with (at_builtin; refine append_row w.heap.size _ w2 _ _ _ (outE n xs (apn len i ++ rowB i m)) _ rfl _ _ rfl rfl rfl (by simp) hc2 hbw hu rfl hz2 (by have := HOL.out; omega) ?_; intro v' w5 hc5 hb5)
                go_roundw
                case rel => exact ⟨m + 1, by omega, by rw [← HJ2.out]; go_num, by rw [e.out]; exact hc5, (balloc hb2 _).trans hb5⟩
                case measure => simp [intOf]; omega
          · have hm2 : m = len - (i + 1) := by omega
            rw [hm2, ← HPS.out] at hcv
            have hje : i + 1 + m = len := by omega
            rw [hje]
            clear hm2 hje
            go_wp2_with fail
            go_roundw
            case rel => exact ⟨i + 1, by omega, by go_num, hcv, hb⟩
            case measure => simp [intOf]; omega
      · have hk2 : i = len := by omega
        rw [hk2] at hcv
        clear hk2
        obtain ⟨sa, sm, sc, rfl⟩ := cells_shape hcv
        go_wp2_with fail
        go_ret2
        exact ⟨_, rfl, hcv, hb⟩
end Go.Proofs.YtcahecohjmahaaaDoor
