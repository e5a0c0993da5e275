import Derived.Test.YtianmmjjcegkjaaDoorJr
import Derived.Test.YtianmmjjcegkjaaDoorZa
namespace Go.Proofs.YtianmmjjcegkjaaDoor
open Go.RowKit
set_option maxRecDepth 4000
/-- What the package's variable of steps holds. -/
def HxV (w : World) : Prop := w.cell? ⟨0, 0, none⟩ = some (.int .i64 (-1)) ∧ w.cell? ⟨0, 1, none⟩ = some (.int .i64 0) ∧ w.cell? ⟨0, 2, none⟩ = some (.int .i64 (-1)) ∧ w.cell? ⟨0, 3, none⟩ = some (.int .i64 1) ∧ w.cell? ⟨0, 4, none⟩ = some (.int .i64 0) ∧ w.cell? ⟨0, 5, none⟩ = some (.int .i64 (-1)) ∧ w.cell? ⟨0, 6, none⟩ = some (.int .i64 0) ∧ w.cell? ⟨0, 7, none⟩ = some (.int .i64 1) ∧ w.cell? ⟨0, 8, none⟩ = some (.int .i64 1) ∧ w.cell? ⟨0, 9, none⟩ = some (.int .i64 (-1)) ∧ w.cell? ⟨0, 10, none⟩ = some (.int .i64 1) ∧ w.cell? ⟨0, 11, none⟩ = some (.int .i64 0) ∧ 0 < w.heap.size
theorem hxv_later {w w' : World} (h : HxV w) (hb : Below w.heap.size w w') : HxV w' := by
  obtain ⟨h0, h1, h2, h3, h4, h5, h6, h7, h8, h9, h10, h11, hz⟩ := h
  exact ⟨(hb.cell hz).trans h0, (hb.cell hz).trans h1, (hb.cell hz).trans h2, (hb.cell hz).trans h3, (hb.cell hz).trans h4, (hb.cell hz).trans h5, (hb.cell hz).trans h6, (hb.cell hz).trans h7, (hb.cell hz).trans h8, (hb.cell hz).trans h9, (hb.cell hz).trans h10, (hb.cell hz).trans h11, Nat.lt_of_lt_of_le hz hb.size⟩
theorem hx_index (k : Nat) (hk : k < 6) : ∀ w : World, (Instr.index 54 (.agg #[.int .i64 (-1), .int .i64 0, .int .i64 (-1), .int .i64 1, .int .i64 0, .int .i64 (-1), .int .i64 0, .int .i64 1, .int .i64 1, .int .i64 (-1), .int .i64 1, .int .i64 0]) (.int .i64 k)).run Tryd.prog w = .ok (.agg #[.int .i64 (stR k), .int .i64 (stC k)]) w := by
  match k, hk with
  | 0, _ => intro w; kernel_rfl
  | 1, _ => intro w; kernel_rfl
  | 2, _ => intro w; kernel_rfl
  | 3, _ => intro w; kernel_rfl
  | 4, _ => intro w; kernel_rfl
  | 5, _ => intro w; kernel_rfl
theorem hxRC {n m i s : Nat} (h2 : 1 ≤ m) (hnm : n * m = s) (hi : i < s) : ∃ r c p : Nat, r = i / m ∧ c = i % m ∧ r < n ∧ c < m ∧ m * r = p ∧ p + c = i := by
  refine ⟨i / m, i % m, m * (i / m), rfl, rfl, Nat.div_lt_of_lt_mul (by rw [Nat.mul_comm]; omega), Nat.mod_lt _ (by omega), rfl, Nat.div_add_mod i m⟩
/-- The neighbours, with the place in them told by its product. -/
theorem hxk_eq (n m r c : Int) (k : Nat) (p : Int) (hp : m * (r + stR k) = p) : hxk n m r c k = if 0 ≤ r + stR k ∧ r + stR k ≤ n - 1 ∧ 0 ≤ c + stC k ∧ c + stC k ≤ m - 1 then [p + (c + stC k)] else [] := by
  rw [hxk, hp]
set_option maxHeartbeats 3200000 in
theorem hxNear_any (n m s i : Nat) (h2 : 1 ≤ m) (hnm : n * m = s) (hs : s ≤ 1000) (hi : i < s) (w : World) (hv : HxV w) :
    Calls Tryd.prog 26 #[.agg #[.int .i64 n, .int .i64 m], .int .i64 i] w fun e w' => ∃ v, e = .returned v ∧ w'.ownsRow w.heap.size 3 1 v (hxa n m i).length ((hxa n m i).map (Value.int .i64)) ∧ Below w.heap.size w w' := by
  obtain ⟨r, c, p, hr, hc, hrn, hcm, hp, hpi⟩ := hxRC h2 hnm hi
  have HA : Hid (hxa (n : Int) (m : Int) (i : Int) = hxn n m r c 6) := Lib.hid (by rw [hxa, hr, hc, Int.natCast_ediv, Int.natCast_emod])
  have HN := Lib.hid (hxn_succ (n : Int) (m : Int) (r : Int) (c : Int))
  have HL := Lib.hid (hxn_len (n : Int) (m : Int) (r : Int) (c : Int))
  have hnm2 : n ≤ s := by rw [← hnm]; exact Nat.le_mul_of_pos_right n (by omega)
  have hmn : m ≤ s := by rw [← hnm]; exact Nat.le_mul_of_pos_left m (by omega)
  have hps : p ≤ 1000 := by omega
  have HP : Hid ((m : Int) * (r : Int) = (p : Int)) := Lib.hid (by rw [← hp]; exact (Int.natCast_mul m r).symm)
  have HR := Lib.hid (fun w => hxRow_any n m i r h2 hr (by omega) w)
  have HC := Lib.hid (fun w => hxCol_any n m i c h2 hc w)
  have hB0 := balloc (Below.refl w.heap.size w) (.cells #[.int .i64 n, .int .i64 m] 30)
  obtain ⟨g0, g1, g2, g3, g4, g5, g6, g7, g8, g9, g10, g11, -⟩ := hxv_later hv hB0
  have hm0 : (w.alloc (.cells #[.int .i64 n, .int .i64 m] 30)).cell? ⟨w.heap.size, 0, none⟩ = some (.int .i64 n) := by go_cell
  have hm1 : (w.alloc (.cells #[.int .i64 n, .int .i64 m] 30)).cell? ⟨w.heap.size, 1, none⟩ = some (.int .i64 m) := by go_cell
  have hs0 : w.heap.size < (w.alloc (.cells #[.int .i64 n, .int .i64 m] 30)).heap.size := by simp
  rw [HA.out]
  clear hv hr hc hp hpi hnm
  go_enter Tryd.func26, Tryd.ntmps26
  go_wp2_with fail
  generalize w.alloc (.cells #[.int .i64 n, .int .i64 m] 30) = w0 at *
  (try go_wp2_with fail)
  clear g0 g1 g2 g3 g4 g5 g6 g7 g8 g9 g10 g11
  go_loopw [5, 11] (fun v5 v11 wr => ∃ k : Nat, k ≤ 6 ∧ v11 = .int .i64 k ∧ wr.ownsRow w0.heap.size 3 1 v5 (hxn n m r c k).length ((hxn n m r c k).map (Value.int .i64)) ∧ Below w0.heap.size w0 wr) (fun _ v11 _ => 6 - (intOf v11).toNat)
  case atStart => exact ⟨0, Nat.zero_le _, rfl, World.ownsRow_nil _ _ _ _, Below.refl _ _⟩
  case round =>
    obtain ⟨k, hk, rfl, ho, hB⟩ := hrel
    by_cases hk6 : k < 6
    · have hki : (k : Int) < 6 := by omega
      have ix := hx_index k hk6
      have sb := hst_bd k
      have HE : Hid (∀ q, (m : Int) * ((r : Int) + stR k) = q → hxk (n : Int) m r c k = if 0 ≤ (r : Int) + stR k ∧ (r : Int) + stR k ≤ (n : Int) - 1 ∧ 0 ≤ (c : Int) + stC k ∧ (c : Int) + stC k ≤ (m : Int) - 1 then [q + ((c : Int) + stC k)] else []) := Lib.hid (fun q hq => hxk_eq _ _ _ _ _ q hq)
      have HN1 := Lib.hid (HN.out k)
      have hlen := HL.out k
      have HLEN : Hid ((hxn (n : Int) (m : Int) (r : Int) (c : Int) k).length ≤ 6) := Lib.hid (by omega)
      have hmi0 := (hB.cell (p := ⟨w.heap.size, 0, none⟩) hs0).trans hm0
      have hmi1 := (hB.cell (p := ⟨w.heap.size, 1, none⟩) hs0).trans hm1
      have hzB := hB.size
      have hsi : w.heap.size < wr.heap.size := by omega
      obtain ⟨wi, hwi⟩ : ∃ wi : World, wi = wr := ⟨_, rfl⟩
      subst hwi
      generalize stR k = sr at ix sb HE
      generalize stC k = sc at ix sb HE
      have hba := balloc (Below.refl wi.heap.size wi) (.cells #[.int .i64 sr, .int .i64 sc] 53)
      have hma0 := (hba.cell (p := ⟨w.heap.size, 0, none⟩) hsi).trans hmi0
      have hma1 := (hba.cell (p := ⟨w.heap.size, 1, none⟩) hsi).trans hmi1
      have hoa := own_now ho hba
      have hga := heap_alloc_new wi (.cells #[.int .i64 sr, .int .i64 sc] 53)
      have hzA : (wi.alloc (.cells #[.int .i64 sr, .int .i64 sc] 53)).heap.size = wi.heap.size + 1 := by simp
      have e1 : IntKind.i64.wrap ((r : Int) + sr) = (r : Int) + sr := IntWalk.i64_in _ ⟨by omega, by omega⟩
      have e2 : IntKind.i64.wrap ((c : Int) + sc) = (c : Int) + sc := IntWalk.i64_in _ ⟨by omega, by omega⟩
      clear ho hlen hmi0 hmi1
      go_wp2_with fail
      generalize wi.alloc (.cells #[.int .i64 sr, .int .i64 sc] 53) = wa at hba hma0 hma1 hoa hga hzA ⊢
      (try go_wp2_with fail)
      refine wp_region_below (by kernel_rfl) (by kernel_rfl) ?_
      intro ι hne f hbf hcl
      have m1 : ∀ t, (f t).cell? ⟨w.heap.size, 0, none⟩ = some (.int .i64 n) := fun t => ((hbf t).cell (p := ⟨w.heap.size, 0, none⟩) (by show w.heap.size < _; omega)).trans hma0
      have m2 : ∀ t, (f t).cell? ⟨w.heap.size, 1, none⟩ = some (.int .i64 m) := fun t => ((hbf t).cell (p := ⟨w.heap.size, 1, none⟩) (by show w.heap.size < _; omega)).trans hma1
      have m3 : ∀ t, (f t).cell? ⟨wi.heap.size, 0, none⟩ = some (.int .i64 sr) := fun t => ((hbf t).cell (p := ⟨wi.heap.size, 0, none⟩) (by show wi.heap.size < _; omega)).trans (blk_cell hga 0 _ rfl)
      have m4 : ∀ t, (f t).cell? ⟨wi.heap.size, 1, none⟩ = some (.int .i64 sc) := fun t => ((hbf t).cell (p := ⟨wi.heap.size, 1, none⟩) (by show wi.heap.size < _; omega)).trans (blk_cell hga 1 _ rfl)
      repeat (go_big_quiet_step (first | (go_at_call 20; with_reducible refine (HR.out _).mono ?_; rintro e w' ⟨rfl, hb⟩; exact ⟨rfl, hcl _ _ hb⟩) | (go_at_call 24; with_reducible refine (HC.out _).mono ?_; rintro e w' ⟨rfl, hb⟩; exact ⟨rfl, hcl _ _ hb⟩)))
      refine wpQuiet_nil ?_
      rintro _ ⟨t, rfl⟩
      have hbf2 := hbf t
      have hmb0 := m1 t
      have hmb1 := m2 t
      have hob := own_now hoa hbf2
      have hBb := hB.trans ((bnext hba hbf2).mono hzB)
      have hzb := hbf2.size
      have hg3 := (hbf2.block wi.heap.size (by omega)).trans hga
      clear m1 m2 m3 m4 hcl hbf hba hma0 hma1 hoa hga e1 e2
      generalize f t = wb at hbf2 hmb0 hmb1 hob hBb hzb hg3 ⊢
      clear f hne hbf2 hB hg3
      (try clear t)
      by_cases hh : 0 ≤ (r : Int) + sr ∧ (r : Int) + sr ≤ (n : Int) - 1 ∧ 0 ≤ (c : Int) + sc ∧ (c : Int) + sc ≤ (m : Int) - 1
      · obtain ⟨q, hq⟩ : ∃ q : Int, (m : Int) * ((r : Int) + sr) = q := ⟨_, rfl⟩
        have hqb : -1000 ≤ q ∧ q ≤ 2000 := by
          have e : q = (p : Int) + (m : Int) * sr := by rw [← hq, Int.mul_add, HP.out]
          rcases (by omega : sr = -1 ∨ sr = 0 ∨ sr = 1) with h | h | h <;> rw [h] at e <;> omega
        have HE1 : Hid (hxk (n : Int) m r c k = [q + ((c : Int) + sc)]) := Lib.hid (by rw [HE.out q hq, if_pos hh])
        have HPL := Lib.hid (fun w => hxPlace_any n m ((r : Int) + sr) ((c : Int) + sc) q hq (by omega) (by omega) (by omega) (by omega) w)
        have HH := Lib.hid (fun w => hxHas_yes n m ((r : Int) + sr) ((c : Int) + sc) hh w)
        clear hq hh
        (try go_wp2_with fail)
        refine (HH.out _).mono ?_
        rintro e w3 ⟨rfl, hb3⟩
        have hmc0 := (hb3.cell (p := ⟨w.heap.size, 0, none⟩) (by show w.heap.size < _; omega)).trans hmb0
        have hmc1 := (hb3.cell (p := ⟨w.heap.size, 1, none⟩) (by show w.heap.size < _; omega)).trans hmb1
        have hoc := own_now hob hb3
        have hBc := hBb.trans (hb3.mono hBb.size)
        clear hob hBb hmb0 hmb1
        go_wp2_with fail
        refine (HPL.out _).mono ?_
        rintro e w4 ⟨rfl, hb4⟩
        have hod := own_now hoc hb4
        have hBd := hBc.trans (hb4.mono hBc.size)
        have hz4 := hBd.size
        clear hoc hBc hmc0 hmc1 hb3 hb4
        generalize q + ((c : Int) + sc) = o at HE1 ⊢
        go_wp2_with (at_builtin; refine append_int w0.heap.size w4 _ (hxn (n : Int) (m : Int) (r : Int) (c : Int) k) o rfl _ _ rfl rfl rfl hod hz4 (by have := HLEN.out; omega) ?_; intro v' w5 ho5 hb5)
        go_roundw
        case rel => exact ⟨k + 1, by omega, by go_num, by rw [HN1.out, HE1.out]; exact ho5, hBd.trans hb5⟩
        case measure => simp [intOf]; omega
      · have HE1 : Hid (hxk (n : Int) m r c k = []) := Lib.hid (by rw [HE.out _ rfl, if_neg hh])
        have HH := Lib.hid (fun w => hxHas_no n m ((r : Int) + sr) ((c : Int) + sc) hh w)
        clear hh
        (try go_wp2_with fail)
        refine (HH.out _).mono ?_
        rintro e w3 ⟨rfl, hb3⟩
        have hoc := own_now hob hb3
        have hBc := hBb.trans (hb3.mono hBb.size)
        clear hob hBb hmb0 hmb1 hb3
        go_wp2_with fail
        go_roundw
        case rel => exact ⟨k + 1, by omega, by go_num, by rw [HN1.out, HE1.out, List.append_nil]; exact hoc, hBc⟩
        case measure => simp [intOf]; omega
    · have hk2 : k = 6 := by omega
      rw [hk2] at ho
      rw [hk2]
      clear hk2
      obtain ⟨-, sa, sc, sb, rfl, -⟩ := own_shape ho
      go_wp2_with fail
      go_ret
      exact ⟨_, rfl, own_base ho (by omega), hB0.trans (hB.mono (by omega))⟩
end Go.Proofs.YtianmmjjcegkjaaDoor
