import Derived.Test.YtcahecohjmahaaaDoorEb
import Derived.Test.YtcahecohjmahaaaDoorYs
namespace Go.Proofs.YtcahecohjmahaaaDoor
open Go.RowKit
set_option maxRecDepth 4000
/-- What the package's variable of steps holds. -/
def SqV (w : World) : Prop := w.cell? ⟨0, 0, none⟩ = some (.int .i64 1) ∧ w.cell? ⟨0, 1, none⟩ = some (.int .i64 0) ∧ w.cell? ⟨0, 2, none⟩ = some (.int .i64 0) ∧ w.cell? ⟨0, 3, none⟩ = some (.int .i64 1) ∧ w.cell? ⟨0, 4, none⟩ = some (.int .i64 1) ∧ w.cell? ⟨0, 5, none⟩ = some (.int .i64 1) ∧ 0 < w.heap.size
theorem sqv_later {w w' : World} (h : SqV w) (hb : Below w.heap.size w w') : SqV w' := by
  obtain ⟨h0, h1, h2, h3, h4, h5, h6⟩ := h
  exact ⟨(hb.cell h6).trans h0, (hb.cell h6).trans h1, (hb.cell h6).trans h2, (hb.cell h6).trans h3, (hb.cell h6).trans h4, (hb.cell h6).trans h5, Nat.lt_of_lt_of_le h6 hb.size⟩
/-- The steps to a point's neighbours, and these. -/
def stX (k : Nat) : Int := if k = 1 then 0 else 1
def stY (k : Nat) : Int := if k = 0 then 0 else 1
def nbk (n : Int) (i : Nat) (k : Nat) : List (Int × Int) := if -n ≤ ax n i + stX k ∧ ax n i + stX k ≤ n ∧ -n ≤ ay n i + stY k ∧ ay n i + stY k ≤ n then [((i : Int), oi n (ax n i + stX k) (ay n i + stY k))] else []
def nbi (n : Int) (i m : Nat) : List (Int × Int) := (List.range m).flatMap (nbk n i)
def nbp (n : Int) (m : Nat) : List (Int × Int) := (List.range m).flatMap fun i => nbi n i 3
theorem nbi_succ (n : Int) (i m : Nat) : nbi n i (m + 1) = nbi n i m ++ nbk n i m := by simp [nbi, List.range_succ]
theorem nbp_succ (n : Int) (m : Nat) : nbp n (m + 1) = nbp n m ++ nbi n m 3 := by simp [nbp, List.range_succ]
theorem nbk_len (n : Int) (i k : Nat) : (nbk n i k).length ≤ 1 := by unfold nbk; split <;> simp
theorem nbi_len (n : Int) (i : Nat) : ∀ m, (nbi n i m).length ≤ m
  | 0 => by simp [nbi]
  | m + 1 => by rw [nbi_succ, List.length_append]; have := nbi_len n i m; have := nbk_len n i m; omega
theorem nbp_len (n : Int) : ∀ m, (nbp n m).length ≤ 3 * m
  | 0 => by simp [nbp]
  | m + 1 => by rw [nbp_succ, List.length_append]; have := nbp_len n m; have := nbi_len n m 3; omega
def sqArr : Array Value := #[.int .i64 1, .int .i64 0, .int .i64 0, .int .i64 1, .int .i64 1, .int .i64 1]
theorem sq_index (k : Nat) (hk : k < 3) : ∀ w : World, (Instr.index 133 (.agg #[.int .i64 1, .int .i64 0, .int .i64 0, .int .i64 1, .int .i64 1, .int .i64 1]) (.int .i64 k)).run Tryd.prog w = .ok (.agg #[.int .i64 (stX k), .int .i64 (stY k)]) w := by
  match k, hk with
  | 0, _ => intro w; kernel_rfl
  | 1, _ => intro w; kernel_rfl
  | 2, _ => intro w; kernel_rfl
theorem st_bds (k : Nat) : 0 ≤ stX k ∧ stX k ≤ 1 ∧ 0 ≤ stY k ∧ stY k ≤ 1 := by unfold stX stY; split <;> split <;> omega
set_option maxHeartbeats 3200000 in
theorem neighbours_any (n : Nat) (h1 : 1 ≤ n) (h2 : n ≤ 4) (w : World) (hv : SqV w) :
    Calls Tryd.prog 54 #[.agg #[.int .i64 n]] w fun e w' => ∃ v, e = .returned v ∧ PairV w' w.heap.size v (nbp n (sqn n)) ∧ Below w.heap.size w w' := by
  have hsl := sqn_le n h2
  have HC : ∀ w : World, Calls Tryd.prog 104 #[.agg #[.int .i64 n]] w fun e w' => e = .returned (.int .i64 (sqn n : Nat)) ∧ Below w.heap.size w w' := fun w => by rw [← sqn_eq]; exact sqSize_any n (by omega) (by omega) w
  have HAT := Lib.hid (fun (i : Nat) (hi : i < sqn n) w => sqAt_any n i (by omega) (by omega) (by omega) (by omega) w)
  have HBX := Lib.hid (fun (i : Nat) => ax_bd (n := (n : Int)) (i := (i : Int)) (by omega) (by omega))
  have HBY := Lib.hid (fun (i : Nat) (hi : i < sqn n) => ay_bd (n := (n : Int)) (i := (i : Int)) (by omega) (by omega) (by omega) (by rw [sqn_eq]; omega))
  have HC := Lib.hid HC
  have HV := Lib.hid hv
  have hB0 := balloc (Below.refl w.heap.size w) (.cells #[.int .i64 n] 57)
  have hm0 : (w.alloc (.cells #[.int .i64 n] 57)).cell? ⟨w.heap.size, 0, none⟩ = some (.int .i64 n) := by go_cell
  have hs0 : (w.alloc (.cells #[.int .i64 n] 57)).heap.size = w.heap.size + 1 := by simp
  clear hv
  generalize sqn n = s at hsl HC HAT HBY ⊢
  go_enter Tryd.func54, Tryd.ntmps54
  go_wp2_with fail
  generalize w.alloc (.cells #[.int .i64 n] 57) = w0 at hB0 hm0 hs0 ⊢
  (try go_wp2_with fail)
  refine (HC.out _).mono ?_
  rintro e w1 ⟨rfl, hb1⟩
  have hB1 := bnext hB0 hb1
  have hm1 := (hb1.cell (p := ⟨w.heap.size, 0, none⟩) (by show w.heap.size < _; omega)).trans hm0
  have hs1 : w.heap.size < w1.heap.size := by have := hb1.size; omega
  clear hB0 hm0 hb1 hs0
  go_wp2_with fail
  go_loopw [3, 11] (fun v3 v11 wr => ∃ i : Nat, i ≤ s ∧ v11 = .int .i64 i ∧ PairV wr w1.heap.size v3 (nbp n i) ∧ Below w1.heap.size w1 wr) (fun _ v11 _ => s - (intOf v11).toNat)
  case atStart => exact ⟨0, Nat.zero_le _, rfl, World.ownsRow_nil _ _ _ _, Below.refl _ _⟩
  case round =>
    obtain ⟨i, hi, rfl, hp, hb⟩ := hrel
    obtain ⟨wo, hwo⟩ : ∃ wo : World, wo = wr := ⟨_, rfl⟩
    subst hwo
    by_cases hlt : i < s
    · have hii : (i : Int) < (s : Int) := by omega
      have HNS := Lib.hid (nbp_succ (n : Int) i)
      have HNI := Lib.hid (nbi_succ (n : Int) i)
      have hnl := nbp_len (n : Int) i
      have HNL : Hid ((nbp (n : Int) i).length ≤ 243) := Lib.hid (by omega)
      have bx := HBX.out i
      have by' := HBY.out i hlt
      have HNK : Hid (∀ k, nbk (n : Int) i k = if -(n : Int) ≤ ax n i + stX k ∧ ax n i + stX k ≤ n ∧ -(n : Int) ≤ ay n i + stY k ∧ ay n i + stY k ≤ n then [((i : Int), oi n (ax n i + stX k) (ay n i + stY k))] else []) := Lib.hid (fun _ => rfl)
      have hmo := (hb.cell (p := ⟨w.heap.size, 0, none⟩) hs1).trans hm1
      have hso : w.heap.size < wo.heap.size := by have := hb.size; omega
      have HATI := Lib.hid (fun w => HAT.out i hlt w)
      clear hnl
      go_wp2_with fail
      refine (HATI.out _).mono ?_
      rintro e w2 ⟨rfl, hb2⟩
      have hp2 := pairs_now hp hb2
      have hB2 := hb.trans (hb2.mono hb.size)
      have hm2 := (hb2.cell (p := ⟨w.heap.size, 0, none⟩) hso).trans hmo
      have hs2 : w.heap.size < w2.heap.size := by have := hb2.size; omega
      obtain ⟨g0, g1, g2, g3, g4, g5, g6⟩ := sqv_later HV.out (hB1.trans (hB2.mono (by omega)))
      clear hp hb hb2 hmo hso
      generalize ax (n : Int) (i : Int) = x at bx HNK HATI ⊢
      generalize ay (n : Int) (i : Int) = y at by' HNK HATI ⊢
      go_wp2_with fail
      clear g0 g1 g2 g3 g4 g5 g6
      go_loopw [3, 21] (fun v3 v21 wr => ∃ k : Nat, k ≤ 3 ∧ v21 = .int .i64 k ∧ PairV wr w1.heap.size v3 (nbp n i ++ nbi n i k) ∧ Below w1.heap.size w1 wr) (fun _ v21 _ => 3 - (intOf v21).toNat)
      case atStart => exact ⟨0, Nat.zero_le _, rfl, by simpa [nbi] using hp2, hB2⟩
      case round =>
        clear hp2 hB2 hm2 hs2
        obtain ⟨k, hk, rfl, hp, hB⟩ := hrel
        by_cases hk3 : k < 3
        · have hki : (k : Int) < 3 := by omega
          have ix := sq_index k hk3
          have sb := st_bds k
          have HK := Lib.hid (HNK.out k)
          have HI1 := Lib.hid (HNI.out k)
          have hil := nbi_len (n : Int) i k
          have hlen : (nbp (n : Int) i ++ nbi (n : Int) i k).length ≤ 300 := by rw [List.length_append]; have := HNL.out; omega
          have HLEN := Lib.hid hlen
          have hmi := (hB.cell (p := ⟨w.heap.size, 0, none⟩) hs1).trans hm1
          have hzB := hB.size
          have hsi : w.heap.size < wr.heap.size := by omega
          obtain ⟨wi, hwi⟩ : ∃ wi : World, wi = wr := ⟨_, rfl⟩
          subst hwi
          generalize stX k = sx at ix sb HK
          generalize stY k = sy at ix sb HK
          have hba := balloc (Below.refl wi.heap.size wi) (.cells #[.int .i64 sx, .int .i64 sy] 93)
          have hma := (hba.cell (p := ⟨w.heap.size, 0, none⟩) (by show w.heap.size < _; omega)).trans hmi
          have hpa := pairs_now hp hba
          have hga := heap_alloc_new wi (.cells #[.int .i64 sx, .int .i64 sy] 93)
          have hzA : (wi.alloc (.cells #[.int .i64 sx, .int .i64 sy] 93)).heap.size = wi.heap.size + 1 := by simp
          clear hp hlen hil
          go_wp2_with fail
          generalize wi.alloc (.cells #[.int .i64 sx, .int .i64 sy] 93) = wa at hba hma hpa hga hzA ⊢
          by_cases hh : -(n : Int) ≤ x + sx ∧ x + sx ≤ n ∧ -(n : Int) ≤ y + sy ∧ y + sy ≤ n
          · have HE : Hid (nbk (n : Int) i k = [((i : Int), oi n (x + sx) (y + sy))]) := Lib.hid (by rw [HK.out, if_pos hh])
            obtain ⟨p1, p2, p3, p4⟩ := hh
            (try go_wp2_with fail)
            refine (sqHas_yes n (x + sx) (y + sy) (by omega) (by omega) p1 p2 p3 p4 _).mono ?_
            rintro e w3 ⟨rfl, hb3⟩
            have hb03 := bnext hba hb3
            have hm3 := (hb3.cell (p := ⟨w.heap.size, 0, none⟩) (by show w.heap.size < _; omega)).trans hma
            have hp3 := pairs_now hpa hb3
            have hg3 := (hb3.block wi.heap.size (by omega)).trans hga
            have t0 : w3.cell? ⟨wi.heap.size, 0, none⟩ = some (.int .i64 sx) := blk_cell hg3 0 _ rfl
            have t1 : w3.cell? ⟨wi.heap.size, 1, none⟩ = some (.int .i64 sy) := blk_cell hg3 1 _ rfl
            have HOI := Lib.hid (fun w => sqIndexOf_any n (x + sx) (y + sy) (by omega) (by omega) p1 p2 p3 p4 w)
            clear hba hma hpa hga hb3 hzA
            go_wp2_with fail
            refine (HOI.out _).mono ?_
            rintro e w4 ⟨rfl, hb4⟩
            have hp4 := pairs_now hp3 hb4
            have hb04 := bnext hb03 hb4
            have hB4 := hB.trans (hb04.mono hzB)
            have hz4 := hB4.size
            clear hp3 hb4 hb03 hb04 hm3 hg3 t0 t1 HOI
            generalize oi (n : Int) (x + sx) (y + sy) = o at HE ⊢
            go_wp2_with (at_builtin; refine append_pair w1.heap.size _ w4 _ (nbp (n : Int) i ++ nbi (n : Int) i k) i o rfl _ _ rfl rfl rfl (by simp) hp4 hz4 (by have := HLEN.out; omega) ?_; intro v' w5 hp5 hb5)
            go_roundw
            case rel => exact ⟨k + 1, by omega, by go_num, by rw [HI1.out, HE.out, ← List.append_assoc]; exact hp5, hB4.trans hb5⟩
            case measure => simp [intOf]; omega
          · have HE : Hid (nbk (n : Int) i k = []) := Lib.hid (by rw [HK.out, if_neg hh])
            have HH := Lib.hid hh
            clear hh
            (try go_wp2_with fail)
            refine (sqHas_no n (x + sx) (y + sy) (by omega) (by omega) HH.out _).mono ?_
            rintro e w3 ⟨rfl, hb3⟩
            have hb03 := bnext hba hb3
            have hp3 := pairs_now hpa hb3
            clear hba hma hpa hga hb3 hzA
            go_wp2_with fail
            go_roundw
            case rel => exact ⟨k + 1, by omega, by go_num, by rw [HI1.out, HE.out, List.append_nil]; exact hp3, hB.trans (hb03.mono hzB)⟩
            case measure => simp [intOf]; omega
        · have hk2 : k = 3 := by omega
          rw [hk2, ← HNS.out] at hp
          rw [hk2]
          clear hk2
          go_wp2_with fail
          go_roundw
          case rel => exact ⟨i + 1, by omega, by go_num, hp, hB⟩
          case measure => simp [intOf]; omega
    · have hk2 : i = s := by omega
      rw [hk2] at hp
      clear hk2
      obtain ⟨sa, sc, sb, rfl, -⟩ := pair_shape hp
      go_wp2_with fail
      go_ret
      exact ⟨_, rfl, own_lo hp (by omega), hB1.trans (hb.mono (by omega))⟩
end Go.Proofs.YtcahecohjmahaaaDoor
