import Derived.Test.YtgpikaolgalpbaaGl
namespace Go.Proofs.Ytgpikaolgalpbaa
open Go.RowKit
set_option maxRecDepth 4000
theorem gAt_congr {M : Nat} {cp : Nat → List (Int × Int)} {d : Int × Int → Bool} {s0 : Nat × (Int × Int)} {L : List Nat} {R : (Int × Int) × Bool} {out : List Nat} {room : Int} {p q : Int × Int} (h : gAt M cp d s0 L R out room p) (e : inner p = inner q) : gAt M cp d s0 L R out room q := by
  unfold gAt at h ⊢
  rwa [e] at h
/-- The slice of another door, or nothing. -/
def NX (w : World) (lo : Nat) (v : Value) : Option (Int × Int) → Prop
  | none => v = .slice none 0 0
  | some p => ∃ g, v = .slice (some ⟨g, 0, none⟩) 2 2 ∧ lo ≤ g ∧ g < w.heap.size ∧ Rd w (some ⟨g, 0, none⟩) g 0 [p.1, p.2]
theorem nx_later {w w' : World} {lo : Nat} {v : Value} {o : Option (Int × Int)} (h : NX w lo v o) (hb : Below w.heap.size w w') : NX w' lo v o := by
  cases o with
  | none => exact h
  | some p =>
    obtain ⟨g, e, h1, h2, h3⟩ := h
    exact ⟨g, e, h1, Nat.lt_of_lt_of_le h2 hb.size, h3.below hb (.inr h2)⟩
theorem rd_two {w : World} {g : Nat} {x y : Int} (h : w.heap[g]? = some (.cells #[.int .i64 x, .int .i64 y] 3 (0, 0))) : Rd w (some ⟨g, 0, none⟩) g 0 [x, y] := by
  refine ⟨by simp [maxLen], fun j hj => ⟨rfl, ?_⟩⟩
  rw [cell_of_row _ _ _ _ _ (0, 0) h]
  match j, hj with
  | 0, _ => rfl
  | 1, _ => rfl
  | j + 2, hj => exact absurd hj (by simp)
def slen : Value → Nat
  | .slice _ m _ => m
  | _ => 0
/-- What the model's walk answers. -/
def OpWalked (w : World) (xs : List Int) (n : Nat) (W : List Nat × (Int × Int) × Bool) (e : Ending) (w' : World) : Prop :=
  ∃ v1 v2, e = .returned (.tuple #[v1, v2]) ∧ w'.ownsRow w.heap.size 3 1 v1 (ints W.1).length ((ints W.1).map (Value.int .i64)) ∧ w'.ownsRow w.heap.size 3 1 v2 (edL (edgeP xs n W)).length ((edL (edgeP xs n W)).map (Value.int .i64)) ∧ (∀ k, v1.ownBlock = some k → v2.ownBlock = some k → False) ∧ Below w.heap.size w w'
theorem opw_out {w w9 : World} {xs : List Int} {n : Nat} {L out : List Nat} {R : (Int × Int) × Bool} {p : Int × Int} {v : Value} (h : out = L ∧ R = (p, false)) (ho : w9.ownsRow w.heap.size 3 1 v (ints out).length ((ints out).map (Value.int .i64))) (hb : Below w.heap.size w w9) : OpWalked w xs n (L, R) (.returned (.tuple #[v, .slice none 0 0])) w9 := by
  obtain ⟨rfl, rfl⟩ := h
  refine ⟨_, _, rfl, ho, ?_, (fun k _ h => by cases h), hb⟩
  rw [show edgeP xs n (out, p, false) = none from rfl]
  exact World.ownsRow_nil _ _ _ _
theorem opw_two {w w9 : World} {xs : List Int} {n k : Nat} {L out : List Nat} {R : (Int × Int) × Bool} {p q : Int × Int} {v u : Value} (h : out ++ [k] = L ∧ R = (p, true)) (he : (oppAt xs n k).head? = some q) (ho : w9.ownsRow w.heap.size 3 1 v (ints (out ++ [k])).length ((ints (out ++ [k])).map (Value.int .i64)))
    (ho2 : w9.ownsRow w.heap.size 3 1 u [q.1, q.2].length ([q.1, q.2].map (Value.int .i64))) (hd : ∀ k, v.ownBlock = some k → u.ownBlock = some k → False) (hb : Below w.heap.size w w9) : OpWalked w xs n (L, R) (.returned (.tuple #[v, u])) w9 := by
  obtain ⟨rfl, rfl⟩ := h
  refine ⟨_, _, rfl, ho, ?_, hd, hb⟩
  rw [show edgeP xs n (out ++ [k], p, true) = some q by rw [edgeP, if_pos rfl, lastG_app]; exact he]
  exact ho2
set_option maxHeartbeats 6400000 in
theorem opWalk_any (n : Nat) (xs : List Int) (a : Option Addr) (b len cap : Nat) (pd0 : Option Addr) (bd0 cd0 : Nat) (x0 y0 : Int) (p0 : Int × Int) (w : World) (hn : xs.length = len) (h : Rd w a b 0 xs) (hb0 : len = 0 ∨ b < w.heap.size) (hL : sqB n xs = true)
    (hd : Rd w pd0 bd0 0 [x0, y0]) (hbd0 : bd0 < w.heap.size) (hxy : x0 < y0) (hp : p0 ∈ (sqPs n).filter (sumB xs 3)) (hin : inner p0 = (x0, y0)) :
    Calls Try.prog 75 #[.int .i64 n, .slice a len cap, .slice pd0 2 cd0] w (OpWalked w xs n (swW n xs p0)) := by
  obtain ⟨n', hnn, h1, h2, hl, hA⟩ := sqB_nat hL
  obtain rfl : n = n' := by omega
  clear hnn
  obtain ⟨s0, L, R, hLR, hat⟩ := gGoes_at (sq_goes hL hp).1
  have hsw : swW n xs p0 = (L, R) := hLR
  rw [hin] at hat
  have HAT := Lib.hid (gAt_congr (q := (x0, y0)) hat (by rw [hin]; exact (inner_sorted hxy).symm))
  rw [hsw]
  have HT := Lib.hid (sqC_tri h2)
  have hsl := sqn_le n h2
  have hcl : (sqC n).length ≤ 1000 := by
    have := sci_len n (sqn n)
    unfold sqC; omega
  have HFG := Lib.hid (sq_fgr hL)
  have HL := Lib.hid hL
  have HRD := Lib.hid (fun w' (hb : Below w.heap.size w w') => h.later hn hb0 hb)
  have HB0 := Lib.hid hb0
  have HN := Lib.hid hn
  have HAA := Lib.hid (fun k (hk : k < len) => all4_at hA k (by omega))
  have HSQ : Hid (sqn n = len) := Lib.hid (by omega)
  have hlb : len ≤ 81 := by omega
  have HODR := Lib.hid (fun i j w' (hb : Below w.heap.size w w') (hi : i < len) (hj : j < len) => opDoor_any xs i j a b len cap w' hn (h.later hn hb0 hb) hA (by omega) (by omega))
  have HD := Lib.hid (fun w' (hb : Below w.heap.size w w') => hd.below hb (.inr hbd0))
  clear h hn hA hl hb0 hat hLR hsw hL hin hp hd hsl
  go_enter Try.func75, Try.ntmps75
  go_wp2_with fail
  refine (opCells_any n h1 h2 _).mono ?_
  rintro e w1 ⟨cv, rfl, hc1, hb1⟩
  have hc1 : CellsV w1 w.heap.size cv (sqC n) := hc1
  obtain ⟨ca, cm, cc, rfl⟩ := cells_shape hc1
  have hs1 := hb1.size
  go_wp2_with fail
  refine (doNext_any (sqC n) (sqn n) x0 y0 (-1) _ pd0 _ bd0 _ _ cd0 w1 HT.out hcl hc1 (HD.out w1 hb1) (by omega) (by omega)).mono ?_
  rintro e w2 ⟨rfl, hb2⟩
  rw [inner_sorted hxy]
  have hB2 := bnext hb1 hb2
  have HC := Lib.hid (fun w' (hb : Below w2.heap.size w2 w') => cells_now (cells_now hc1 hb2) hb)
  have HD2 := Lib.hid (HD.out w2 hB2)
  have hbd2 : bd0 < w2.heap.size := by have := hB2.size; omega
  obtain ⟨hcm, -⟩ := cells_row hc1
  subst hcm
  clear hc1 hb1 hb2 HD hbd0 hs1
  go_wp2_with fail
  go_loopw [2, 9, 10] (fun v2 v9 v10 wr => ∃ (out : List Nat) (u v room : Int) (pd : Option Addr) (bd cd : Nat), v2 = .slice pd 2 cd ∧ Hid (Rd wr pd bd 0 [u, v]) ∧ bd < wr.heap.size ∧ v10.ownBlock ≠ some bd ∧ v9 = .int .i64 room ∧ u < v ∧ Hid (gAt (sqC n).length (cpr (sqC n)) (sumB xs 3) s0 L R out room (u, v)) ∧
    wr.ownsRow w2.heap.size 3 1 v10 (ints out).length ((ints out).map (Value.int .i64)) ∧ Below w2.heap.size w2 wr) (fun _ _ v10 _ => (sqC n).length + 1 - slen v10)
  case atStart => exact ⟨[], x0, y0, _, pd0, bd0, cd0, rfl, HD2, hbd2, (by simp [Value.ownBlock]), rfl, hxy, HAT, World.ownsRow_nil _ _ _ _, Below.refl _ _⟩
  case round =>
    obtain ⟨out, u, v, room, pd, bd, cd, rfl, hrd, hbd1, hne1, rfl, huv, hat, ho, hB⟩ := hrel
    obtain ⟨-, pa, pc, pb, rfl, hpx, -⟩ := own_shape ho
    obtain ⟨wi, hwi⟩ : ∃ wi : World, wi = wr := ⟨_, rfl⟩
    subst hwi
    have hs := hB.size
    by_cases hrm : room = -1
    · have hend : out = L ∧ R = ((u, v), false) := by
        rcases hat.out with ⟨k, hk, -⟩ | ⟨-, h⟩
        · omega
        · rwa [inner_sorted huv] at h
      have HE := Lib.hid hend
      have hneg : room < 0 := by omega
      clear hrm hend hat
      go_wp2_with fail
      go_returns
      exact opw_out HE.out (own_base ho (by have := hB2.size; omega)) (bnext hB2 hB)
    · obtain ⟨k, rfl, hk, hol, hin, hno, hso⟩ := gAt_room HFG.out.fig hat.out hrm
      rw [inner_sorted huv] at hno hso hin
      have HNO := Lib.hid hno
      have HSO := Lib.hid hso
      have HOPN := Lib.hid (fun p h => opp_none (p := p) HL.out hk hin h)
      have HEND := Lib.hid (fun h => nxt_end HL.out hk hin h)
      have HIL := Lib.hid (ints_len out)
      have hil3 : (ints out).length < 2000 := by rw [HIL.out]; omega
      have hki : (k : Int) < ((sqC n).length : Int) := by omega
      have HNE := Lib.hid hne1
      clear hat hin hno hso hrm hne1
      go_wp2_with (at_builtin; refine append_int_at w2.heap.size wi _ (ints out) _ rfl _ _ rfl rfl rfl ho hs (by omega) ?_; intro v' w6 ho6 hb6 hk6 hn6; rw [← ints_app] at ho6; obtain ⟨-, pa', pc', pb', rfl, hpx', -⟩ := own_shape ho6; have hB6 := hB.trans hb6; obtain ⟨x, y, z, g, rc, rb, rfl, hgl, hP, hx, hy, hz, hxy', hyz, c1, hrow, hrb, hrc1, hrc2⟩ := row_cell HT.out (HC.out w6 hB6) hk)
      have hbe := hk6 bd hbd1 HNE.out
      have hrd6 : Hid (Rd w6 pd bd 0 [u, v]) := Lib.hid ⟨hrd.out.1, fun j hj => ⟨(hrd.out.2 j hj).1, (World.cell?_of_block (a := ⟨bd, 0 + j, none⟩) hbe).trans (hrd.out.2 j hj).2⟩⟩
      have hbd6 : bd < w6.heap.size := Nat.lt_of_not_le fun hge => by
        have e1 : w6.heap[bd]? = none := Array.getElem?_eq_none hge
        rw [e1] at hbe
        have e2 : wi.heap[bd]? = some wi.heap[bd] := Array.getElem?_eq_getElem hbd1
        rw [e2] at hbe
        cases hbe
      have HLT6 := Lib.hid (own_lt ho6)
      have HBW6 := Lib.hid (bnext hB2 hB6)
      have HBW6R := Lib.hid hB6
      have HROW := Lib.hid hrow
      have hrcm : rc ≤ maxLen := hrc2
      unfold maxLen at hrcm
      rw [hP] at HOPN HEND
      have HFS := Lib.hid (fun t (ht : t < 3) h => find_step (0, 0) (tri3 x y z) (sumB xs 0) t ht h)
      have HNXY := Lib.hid (fun t (ht : t < 3) => nxt_yes (sumB xs 3) u v (tri3 x y z) t ht)
      have HNXN := Lib.hid (fun t (ht : t < 3) => nxt_no (sumB xs 3) u v (tri3 x y z) t ht)
      have HIN : Hid (∀ j, j < 3 → [x, y, z].getD j 0 < len) := Lib.hid (fun j hj => by
        have := HSQ.out
        match j, hj with
        | 0, _ => show x < len; omega
        | 1, _ => show y < len; omega
        | 2, _ => show z < len; omega)
      have HCV : Hid (∀ j, j < 3 → [(x : Int), (y : Int), (z : Int)].getD j 0 = (([x, y, z].getD j 0 : Nat) : Int)) := Lib.hid (fun j hj => by
        match j, hj with
        | 0, _ => rfl
        | 1, _ => rfl
        | 2, _ => rfl)
      have HC6 := Lib.hid (fun w' (hb : Below w6.heap.size w6 w') => cells_now (HC.out w6 hB6) hb)
      clear ho hB hb6 hbe hk6 hn6 hrd hbd1 hrow hx hy hz hxy' hyz hrc2 hP hB6
      go_wp2_with fail
      go_loopw [11, 32] (fun v11 v32 wr => ∃ q : Nat, q ≤ 3 ∧ v32 = .int .i64 q ∧ NX wr w6.heap.size v11 (nxt (sumB xs 3) u v ((tri3 x y z).take (pre3 q))) ∧ Hid (((tri3 x y z).take (pre3 q)).find? (sumB xs 0) = none) ∧ Below w6.heap.size w6 wr) (fun _ v32 _ => 3 - (intOf v32).toNat)
      case atStart => exact ⟨0, Nat.zero_le _, rfl, rfl, Lib.hid rfl, Below.refl _ _⟩
      case round =>
        obtain ⟨q, hq, rfl, hnx, hno, hb⟩ := hrel
        obtain ⟨wo, hwo⟩ : ∃ wo : World, wo = wr := ⟨_, rfl⟩
        subst hwo
        by_cases hlt : q < 3
        · obtain ⟨-, cq'⟩ := HROW.out.2 q (by simpa using hlt)
          have cq' := (hb.cell (p := ⟨rb, 0 + q, none⟩) hrb).trans cq'
          rw [HCV.out q hlt, Nat.zero_add] at cq'
          have c1' := (hb.cell (p := ⟨g, k, none⟩) hgl).trans c1
          have hil := HIN.out q hlt
          have hqi : (q : Int) < 3 := by omega
          have hps := pre3_succ q hlt
          have HPS := Lib.hid hps
          generalize hiq0 : [x, y, z].getD q 0 = i at cq' hil
          by_cases hcq : rc = q + 1
          · go_wp2_with fail
            go_loopw [11, 45] (fun v11 v45 wr => ∃ m : Nat, m ≤ 2 - q ∧ v45 = .int .i64 m ∧ NX wr w6.heap.size v11 (nxt (sumB xs 3) u v ((tri3 x y z).take (pre3 q + m))) ∧ Hid (((tri3 x y z).take (pre3 q + m)).find? (sumB xs 0) = none) ∧ Below w6.heap.size w6 wr) (fun _ v45 _ => 2 - q - (intOf v45).toNat)
            case atStart => exact ⟨0, Nat.zero_le _, rfl, hnx, hno, hb⟩
            case round =>
              clear hnx hno hb cq' c1'
              obtain ⟨m, hm, rfl, hnx, hno, hb⟩ := hrel
              have hm2 : m = 2 - q := by omega
              have hm0 : m = 0 := by omega
              rw [hm2, ← HPS.out] at hnx hno
              clear hm2
              go_wp2_with fail
              go_roundw
              case rel => exact ⟨q + 1, by omega, by go_num, hnx, hno, hb⟩
              case measure => simp [intOf]; omega
          · go_wp2_with fail
            go_loopw [11, 45] (fun v11 v45 wr => ∃ m : Nat, m ≤ 2 - q ∧ v45 = .int .i64 m ∧ NX wr w6.heap.size v11 (nxt (sumB xs 3) u v ((tri3 x y z).take (pre3 q + m))) ∧ Hid (((tri3 x y z).take (pre3 q + m)).find? (sumB xs 0) = none) ∧ Below w6.heap.size w6 wr) (fun _ v45 _ => 2 - q - (intOf v45).toNat)
            case atStart => exact ⟨0, Nat.zero_le _, rfl, hnx, hno, hb⟩
            case round =>
              clear hnx hno hb cq' c1'
              obtain ⟨m, hm, rfl, hnx, hno, hb⟩ := hrel
              by_cases hltm : m < 2 - q
              · have hlt3 := (tri3_at x y z q m (by omega) hltm).2
                have hPat := (tri3_at x y z q m (by omega) hltm).1
                have hq1 : q + 1 + m < 3 := by omega
                obtain ⟨-, cm⟩ := HROW.out.2 (q + 1 + m) (by simpa using hq1)
                have cm := (hb.cell (p := ⟨rb, 0 + (q + 1 + m), none⟩) hrb).trans cm
                rw [HCV.out _ hq1, Nat.zero_add] at cm
                have hjl := HIN.out _ hq1
                have HS := HFS.out (pre3 q + m) hlt3 hno.out
                have HNY := HNXY.out (pre3 q + m) hlt3
                have HNN := HNXN.out (pre3 q + m) hlt3
                rw [hPat, hiq0] at HS HNY HNN
                have HS := Lib.hid HS
                have HNY := Lib.hid HNY
                have HNN := Lib.hid HNN
                have hmi : (m : Int) < ((2 - q : Nat) : Int) := by omega
                clear hPat hno
                generalize [x, y, z].getD (q + 1 + m) 0 = j at cm hjl HS HNY HNN
                have hB6r := HBW6.out.trans (hb.mono HBW6.out.size)
                obtain ⟨ha0, ci⟩ := (HRD.out wr hB6r).2 i (by have := HN.out; omega)
                have cj := ((HRD.out wr hB6r).2 j (by have := HN.out; omega)).2
                subst ha0
                rw [Nat.zero_add] at ci cj
                have A1 := HAA.out i hil
                have A2 := HAA.out j hjl
                have HSM : Hid (sumB xs 0 ((i : Int), (j : Int)) = (xs.getD i 0 + xs.getD j 0 == 0)) := Lib.hid rfl
                have HOD := Lib.hid (fun W hB => HODR.out i j W hB hil hjl)
                generalize xs.getD i 0 = X at ci A1 HSM
                generalize xs.getD j 0 = Y at cj A2 HSM
                have hii : (i : Int) < (len : Int) := by omega
                have hjj : (j : Int) < (len : Int) := by omega
                obtain ⟨wi2, hwi2⟩ : ∃ wi2 : World, wi2 = wr := ⟨_, rfl⟩
                subst hwi2
                go_wp2_with fail
                go_quiet (fail)
                have hbq := sub_drewN (Below.refl wi2.heap.size wi2) nq
                have hb2 := hb.trans (hbq.mono hb.size)
                have hnx2 := nx_later hnx hbq
                have hz2 := hb2.size
                clear ci cj cm hb hnx hbq
                generalize wi2.drewN nq = w8 at hb2 hnx2 hz2 ⊢
                cases hX : (X + Y == 0)
                · have H0 := Lib.hid (HS.out.2 (by rw [HSM.out]; exact hX))
                  have hB8 := HBW6.out.trans (hb2.mono HBW6.out.size)
                  go_wp2_with fail
                  refine (HOD.out w8 hB8).mono ?_
                  rintro e w9 ⟨rfl, m9, rfl⟩
                  have hb9q := sub_drewN (Below.refl w8.heap.size w8) m9
                  have hb9 := hb2.trans (hb9q.mono hb2.size)
                  have hnx9 := nx_later hnx2 hb9q
                  have hz9 := hb9.size
                  clear hb2 hnx2 hb9q hX hB8 hz2
                  generalize w8.drewN m9 = w9 at hb9 hnx9 hz9 ⊢
                  cases hD : sumB xs 3 ((i : Int), (j : Int))
                  · have H1 := Lib.hid (HNN.out (by rw [nxF, hD]; rfl))
                    clear hD
                    go_wp2_with fail
                    go_roundw
                    case rel => exact ⟨m + 1, by omega, by go_num, by rw [← Nat.add_assoc, H1.out]; exact hnx9, by rw [← Nat.add_assoc]; exact H0, hb9⟩
                    case measure => simp [intOf]; omega
                  · have hg9 := heap_alloc_new w9 (.cells #[.int .i64 i, .int .i64 j] 3)
                    have hrd9 : Rd (w9.alloc (.cells #[.int .i64 i, .int .i64 j] 3)) (some ⟨w9.heap.size, 0, none⟩) w9.heap.size 0 [(i : Int), (j : Int)] := rd_two hg9
                    have hba := balloc (Below.refl w9.heap.size w9) (.cells #[.int .i64 i, .int .i64 j] 3)
                    have hb10 := hb9.trans (hba.mono hz9)
                    have hnx10 := nx_later hnx9 hba
                    have hdr : Rd (w9.alloc (.cells #[.int .i64 i, .int .i64 j] 3)) pd bd 0 [u, v] := hrd6.out.below hb10 (.inr hbd6)
                    have hz10 : w9.heap.size + 1 = (w9.alloc (.cells #[.int .i64 i, .int .i64 j] 3)).heap.size := by simp
                    clear hnx9 hg9 hba
                    go_wp2_with fail
                    generalize w9.alloc (.cells #[.int .i64 i, .int .i64 j] 3) = w10 at hrd9 hb10 hnx10 hdr hz10 ⊢
                    refine (l1Same2_any i j u v _ pd _ bd 2 cd w10 hrd9 hdr).mono ?_
                    rintro e w11 ⟨rfl, m11, rfl⟩
                    have hb11q := sub_drewN (Below.refl w10.heap.size w10) m11
                    have hb11 := hb10.trans (hb11q.mono hb10.size)
                    have hnx11 := nx_later hnx10 hb11q
                    have hz11 := hb11.size
                    clear hrd9 hdr hb10 hnx10 hb11q hb9 hz9 hz10
                    generalize w10.drewN m11 = w11 at hb11 hnx11 hz11 ⊢
                    cases hE : ((i : Int) == u && (j : Int) == v)
                    · have H1 := Lib.hid (HNY.out (by rw [nxF, hD]; simp only [hE]; rfl))
                      clear hD hE
                      have hg12 := heap_alloc_new w11 (.cells #[.int .i64 i, .int .i64 j] 3)
                      have hb12 := hb11.trans ((balloc (Below.refl w11.heap.size w11) (.cells #[.int .i64 i, .int .i64 j] 3)).mono hz11)
                      go_wp2_with fail
                      go_roundw
                      case rel => exact ⟨m + 1, by omega, by go_num, by rw [← Nat.add_assoc, H1.out]; exact ⟨_, rfl, hz11, by simp, rd_two hg12⟩, by rw [← Nat.add_assoc]; exact H0, hb12⟩
                      case measure => simp [intOf]; omega
                    · have H1 := Lib.hid (HNN.out (by rw [nxF, hD]; simp only [hE]; rfl))
                      clear hD hE
                      go_wp2_with fail
                      go_roundw
                      case rel => exact ⟨m + 1, by omega, by go_num, by rw [← Nat.add_assoc, H1.out]; exact hnx11, by rw [← Nat.add_assoc]; exact H0, hb11⟩
                      case measure => simp [intOf]; omega
                · obtain ⟨on1, on2⟩ := HOPN.out _ (HS.out.1 (by rw [HSM.out]; exact hX))
                  have HE := Lib.hid (HNO.out on1)
                  have H2 := Lib.hid on2
                  clear hX on1 on2
                  have ho8 := own_now ho6 hb2
                  have hg8 := heap_alloc_new w8 (.cells #[.int .i64 i, .int .i64 j] 3)
                  have hba := balloc (Below.refl w8.heap.size w8) (.cells #[.int .i64 i, .int .i64 j] 3)
                  have ho9 := own_now ho8 hba
                  have hB9 := (HBW6.out.trans (hb2.mono HBW6.out.size)).trans (hba.mono (by have := HBW6.out.size; omega))
                  have HDJ : Hid (∀ q, (Value.slice pa' (ints (out ++ [k])).length pc').ownBlock = some q → q < w8.heap.size) := Lib.hid (fun q hq => own_lt ho8 q hq)
                  go_wp2_with fail
                  go_returns
                  exact opw_two HE.out H2.out (own_base ho9 (show w.heap.size ≤ w2.heap.size from hB2.size)) (own_block (xs := [(i : Int), (j : Int)]) (cur := #[.int .i64 i, .int .i64 j]) (by have := HBW6.out.size; omega) hg8 rfl rfl (by simp [maxLen])) (fun q h1 h2 => by have := HDJ.out q h1; simp [Value.ownBlock] at h2; omega) hB9
              · have hm2 : m = 2 - q := by omega
                rw [hm2, ← HPS.out] at hnx hno
                clear hm2
                go_wp2_with fail
                go_roundw
                case rel => exact ⟨q + 1, by omega, by go_num, hnx, hno, hb⟩
                case measure => simp [intOf]; omega
        · have hq3 : q = 3 := by omega
          subst hq3
          obtain ⟨dd, hd1, hd2⟩ := HEND.out (by simpa [pre3, tri3] using hno.out)
          have e3 : (tri3 x y z).take (pre3 3) = tri3 x y z := rfl
          rw [e3, hd1] at hnx
          obtain ⟨d1, d2⟩ := dd
          obtain ⟨gd, rfl, hg1, hg2, hg3⟩ := hnx
          simp only at hg3
          obtain ⟨hs1, hs2, hs3⟩ := HSO.out (d1, d2) hd2
          simp only at hs1
          have HAT2 := Lib.hid hs3
          have HD3 := Lib.hid hs2
          have HC7 := HC6.out wo hb
          clear hno hd1 hd2 hs3 hs2 e3
          go_wp2_with fail
          refine (doNext_any (sqC n) (sqn n) d1 d2 (k : Int) _ _ _ gd _ _ 2 wo HT.out hcl HC7 hg3 hg2 (by omega)).mono ?_
          rintro e w11 ⟨rfl, hb11⟩
          rw [HD3.out]
          have hb12 := bnext hb hb11
          have ho11 := own_now ho6 hb12
          have hg11 : Hid (Rd w11 (some ⟨gd, 0, none⟩) gd 0 [d1, d2]) := Lib.hid (hg3.below hb11 (.inr hg2))
          have hs11 := hb11.size
          have HOL : Hid ((ints (out ++ [k])).length = out.length + 1) := Lib.hid (by rw [ints_len, List.length_append]; rfl)
          go_wp2_with fail
          go_roundw
          case rel => exact ⟨out ++ [k], d1, d2, _, _, gd, 2, rfl, hg11, by omega, (fun e => by have := HLT6.out gd e; omega), rfl, hs1, HAT2, ho11, (HBW6R.out.trans (hb12.mono HBW6R.out.size))⟩
          case measure =>
            have e1 := HOL.out
            have e2 := HIL.out
            simp only [slen]
            omega
end Go.Proofs.Ytgpikaolgalpbaa
