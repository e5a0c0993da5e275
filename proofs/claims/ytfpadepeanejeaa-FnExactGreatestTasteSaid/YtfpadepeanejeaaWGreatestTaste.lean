import Derived.Test.YtfpadepeanejeaaMc1
namespace Go.Proofs.Ytfpadepeanejeaa
open Go.RowKit
set_option maxRecDepth 4000
/-- The greatest of numbers, at least 0. -/
def Mx (S : Int → Prop) (G : Int) : Prop := 0 ≤ G ∧ (∀ x, S x → x ≤ G) ∧ (G = 0 ∨ S G)
theorem Mx.uniq {S : Int → Prop} {G H : Int} (h : Mx S G) (k : Mx S H) : G = H := by
  obtain ⟨h1, h2, h3⟩ := h
  obtain ⟨k1, k2, k3⟩ := k
  have a : G ≤ H := h3.elim (fun e => by omega) (fun e => k2 _ e)
  have b : H ≤ G := k3.elim (fun e => by omega) (fun e => h2 _ e)
  omega
theorem Mx.congr {S S' : Int → Prop} {G : Int} (h : Mx S G) (e : ∀ x, S' x → S x ∨ x = 0) (e' : ∀ x, S x → S' x) : Mx S' G := by
  obtain ⟨h1, h2, h3⟩ := h
  exact ⟨h1, fun x hx => (e x hx).elim (fun hx => h2 x hx) (fun hx => by omega), h3.imp id (fun h => e' _ h)⟩
theorem Mx.less {S S' : Int → Prop} {G : Int} (h : Mx S G) (e : ∀ x, S' x → S x) (e' : ∀ x, S x → S' x ∨ x = 0) : Mx S' G := by
  obtain ⟨h1, h2, h3⟩ := h
  exact ⟨h1, fun x hx => h2 x (e x hx), h3.elim .inl (fun h => (e' _ h).elim .inr .inl)⟩
theorem Mx.step {S S' : Int → Prop} {G y : Int} (h : Mx S G) (e : ∀ x, S' x ↔ (S x ∨ x = y)) : Mx S' (if y < G then G else y) := by
  obtain ⟨h1, h2, h3⟩ := h
  by_cases hy : y < G
  · rw [if_pos hy]
    refine ⟨h1, fun x hx => ((e x).1 hx).elim (h2 x) (fun hx => by omega), h3.imp id (fun h => (e _).2 (.inl h))⟩
  · rw [if_neg hy]
    refine ⟨by omega, fun x hx => ((e x).1 hx).elim (fun hx => by have := h2 x hx; omega) (fun hx => by omega), .inr ((e _).2 (.inr rfl))⟩
theorem mx_exists (f : Nat → Int) : ∀ k : Nat, ∃ G, Mx (fun x => ∃ q, q < k ∧ x = f q) G
  | 0 => ⟨0, Int.le_refl _, fun x ⟨q, h, _⟩ => absurd h (Nat.not_lt_zero _), .inl rfl⟩
  | k + 1 => by
    obtain ⟨G, hG⟩ := mx_exists f k
    refine ⟨_, hG.step (y := f k) fun x => ⟨fun ⟨q, h1, h2⟩ => ?_, fun h => ?_⟩⟩
    · by_cases e : q = k
      · exact .inr (by rw [h2, e])
      · exact .inl ⟨q, by omega, h2⟩
    · rcases h with ⟨q, h1, h2⟩ | h
      · exact ⟨q, by omega, h2⟩
      · exact ⟨k, by omega, h⟩
/-- All tastes. -/
def ST (ts : List (List Int)) (x : Int) : Prop := ∃ q, q < 24 ∧ x = tv ts q
set_option maxHeartbeats 400000 in
theorem l1Most_if (a b : Int) (w : World) :
    Calls Try.prog 60 #[.int .i64 a, .int .i64 b] w fun e w' => e = .returned (.int .i64 (if b < a then a else b)) ∧ w = w' := by
  by_cases h : b < a
  · rw [if_pos h]
    go_enter Try.func60, Try.ntmps60
    go_wp2_with fail
    go_ret
    exact ⟨rfl, rfl⟩
  · rw [if_neg h]
    go_enter Try.func60, Try.ntmps60
    go_wp2_with fail
    go_ret
    exact ⟨rfl, rfl⟩
/-- The tastes ahead of a place. -/
def SU (ts : List (List Int)) (n p j : Nat) (x : Int) : Prop := ∃ p' j' : Nat, (p' < p ∨ (p' = p ∧ j' < j)) ∧ p' < 3 ∧ j' < n ∧ x = (ts.getD p' []).getD j' 0
theorem SU_succ (ts : List (List Int)) (n p j : Nat) (hp : p < 3) (hj : j < n) (x : Int) : SU ts n p (j + 1) x ↔ (SU ts n p j x ∨ x = (ts.getD p []).getD j 0) := by
  constructor
  · rintro ⟨p', j', h, h1, h2, rfl⟩
    by_cases e : p' = p ∧ j' = j
    · obtain ⟨rfl, rfl⟩ := e; exact .inr rfl
    · exact .inl ⟨p', j', by omega, h1, h2, rfl⟩
  · rintro (⟨p', j', h, h1, h2, rfl⟩ | rfl)
    · exact ⟨p', j', by omega, h1, h2, rfl⟩
    · exact ⟨p, j, by omega, hp, hj, rfl⟩
theorem SU_row (ts : List (List Int)) (n p : Nat) (x : Int) : SU ts n (p + 1) 0 x ↔ SU ts n p n x := by
  constructor
  · rintro ⟨p', j', h, h1, h2, rfl⟩; exact ⟨p', j', by omega, h1, h2, rfl⟩
  · rintro ⟨p', j', h, h1, h2, rfl⟩; exact ⟨p', j', by omega, h1, h2, rfl⟩
theorem SU_all {ts : List (List Int)} {n : Nat} (h2 : n ≤ 8) (hy : rowsB n 9 ts = true) {G : Int} (h : Mx (ST ts) G) : Mx (SU ts n 3 0) G := by
  obtain ⟨-, hr⟩ := rowsB_at hy
  have h3 := (rowsB_at hy).1
  refine h.less (fun x => ?_) (fun x => ?_)
  · rintro ⟨p', j', h, h1, h2, rfl⟩
    exact ⟨3 * j' + p', by omega, by rw [tv, show (3 * j' + p') % 3 = p' by omega, show (3 * j' + p') / 3 = j' by omega]⟩
  · rintro ⟨q, h1, rfl⟩
    by_cases e : q / 3 < n
    · exact .inl ⟨q % 3, q / 3, by omega, by omega, e, rfl⟩
    · right
      rw [tv, List.getD_eq_getElem?_getD, List.getElem?_eq_none (by rw [(hr (q % 3) (by omega)).1]; omega)]
      rfl
def OutGreatestTaste (w : World) (r0 : Int) (r1 : Bool) (e : Ending) (w' : World) : Prop := e = .returned (.tuple #[.int .i64 r0, .bool r1]) ∧ Below w.heap.size w w'
set_option maxHeartbeats 3200000 in
theorem lawOf_GreatestTaste (n : Int) (ts : List (List Int)) (a_ts : Option Addr) (c_ts : Nat) (w : World) (h_ts : RdSS w w.heap.size a_ts ts) (r0 : Int) (r1 : Bool)
    (hs : ∀ (a_ts' : Option Addr) (c_ts' : Nat) (w' : World), SmallSS ts → RdSS w' w'.heap.size a_ts' ts → Calls Try.prog 32 #[.int .i64 n, .slice a_ts' ts.length c_ts'] w' (OutGreatestTaste w' r0 r1))
    (hi : ∀ (a_ts' : Option Addr) (c_ts' : Nat) (w' : World), SmallSS ts → RdSS w' w'.heap.size a_ts' ts → Calls Try.prog 33 #[.int .i64 n, .slice a_ts' ts.length c_ts'] w' (OutGreatestTaste w' r0 r1)) :
    Calls Try.prog 10 #[.int .i64 n, .slice a_ts ts.length c_ts] w fun e w' => e = .returned (.bool true) ∧ Below w.heap.size w w' := by
  have HS := Lib.hid hs
  have HI := Lib.hid hi
  clear hs hi
  have hne0 : (r0 != r0) = false := by simp
  have hne1 : (r1 != r1) = false := by simp
  have hB0 : Below w.heap.size w w := Below.refl _ _
  go_enter Try.func10, Try.ntmps10
  go_wp2_with fail
  refine (szIntSS_any ts a_ts c_ts _ _ (by omega) (by omega) w h_ts).mono ?_
  rintro e w' ⟨l1, rfl, rfl, hl⟩
  rcases hl with hl | ⟨hl0_0, hl1_0, hsz_ts⟩
  · go_wp2_with fail
    go_ret
    exact ⟨rfl, Below.refl _ _⟩
  go_wp2_with fail
  refine (toIntSS_any ts a_ts c_ts _ _ h_ts (by omega) hsz_ts).mono ?_
  rintro e w1 ⟨v_tsp, rfl, o_tsp, hb⟩
  have hc := chg_below hb
  clear hb
  have z1 := hc.size
  replace h_ts := rdss_chg h_ts hc (by omega) (by omega)
  replace hB0 := below_chg hB0 hc (by omega) (by omega)
  clear hc
  obtain ⟨a_tsp, c_tsp, rfl, rd_tsp⟩ := oss_shape o_tsp
  go_wp2_with fail
  refine (HS.out a_tsp c_tsp _ hsz_ts (rdss_mono rd_tsp (by omega))).mono ?_
  rintro e w2 ⟨rfl, hb⟩
  have hc := chg_below hb
  clear hb
  clear rd_tsp
  have z2 := hc.size
  replace h_ts := rdss_chg h_ts hc (by omega) (by omega)
  replace o_tsp := oss_keep o_tsp hc (by omega) (by omega)
  replace hB0 := below_chg hB0 hc (by omega) (by omega)
  clear hc
  go_wp2_with fail
  clear o_tsp
  refine (toIntSS_any ts a_ts c_ts _ _ h_ts (by omega) hsz_ts).mono ?_
  rintro e w3 ⟨v_tsx, rfl, o_tsx, hb⟩
  have hc := chg_below hb
  clear hb
  have z3 := hc.size
  replace h_ts := rdss_chg h_ts hc (by omega) (by omega)
  replace hB0 := below_chg hB0 hc (by omega) (by omega)
  clear hc
  obtain ⟨a_tsx, c_tsx, rfl, rd_tsx⟩ := oss_shape o_tsx
  go_wp2_with fail
  refine (HI.out a_tsx c_tsx _ hsz_ts (rdss_mono rd_tsx (by omega))).mono ?_
  rintro e w4 ⟨rfl, hb⟩
  have hc := chg_below hb
  clear hb
  clear rd_tsx
  have z4 := hc.size
  replace h_ts := rdss_chg h_ts hc (by omega) (by omega)
  replace o_tsx := oss_keep o_tsx hc (by omega) (by omega)
  replace hB0 := below_chg hB0 hc (by omega) (by omega)
  clear hc
  go_wp2_with fail
  refine (toIntSS_any ts a_ts c_ts _ _ h_ts (by omega) hsz_ts).mono ?_
  rintro e w5 ⟨v_tsy, rfl, o_tsy, hb⟩
  have hc := chg_below hb
  clear hb
  have z5 := hc.size
  replace h_ts := rdss_chg h_ts hc (by omega) (by omega)
  replace o_tsx := oss_keep o_tsx hc (by omega) (by omega)
  replace hB0 := below_chg hB0 hc (by omega) (by omega)
  clear hc
  obtain ⟨a_tsy, c_tsy, rfl, -⟩ := oss_shape o_tsy
  go_wp2_with fail
  refine (eqIntSS_rd ts a_tsx a_tsy _ _ c_tsx c_tsy _ (oss_rds o_tsx) (oss_rds o_tsy)).mono ?_
  rintro e w6 ⟨rfl, hs⟩
  have hc := chg_same hs
  clear hs
  have z6 := hc.size
  replace h_ts := rdss_chg h_ts hc (by omega) (by omega)
  replace o_tsx := oss_keep o_tsx hc (by omega) (by omega)
  replace o_tsy := oss_keep o_tsy hc (by omega) (by omega)
  replace hB0 := below_chg hB0 hc (by omega) (by omega)
  clear hc
  go_wp2_with fail
  clear o_tsy
  go_ret
  exact ⟨rfl, hB0⟩
set_option maxHeartbeats 1600000 in
theorem specGreatestTaste_yes (n : Nat) (h1 : 1 ≤ n) (h2 : n ≤ 8) (ts : List (List Int)) (hy : rowsB n 9 ts = true) (G : Int) (hG : Mx (ST ts) G) (a : Option Addr) (cap B : Nat) (w : World) (h : RdSS w B a ts) :
    Calls Try.prog 32 #[.int .i64 n, .slice a ts.length cap] w (OutGreatestTaste w G true) := by
  have HT := Lib.hid (ckTastes_yes n h1 h2 ts hy a cap _ w h)
  have HG := Lib.hid (SU_all h2 hy hG)
  obtain ⟨hl3, hrow⟩ := rowsB_at hy
  have HROW := Lib.hid hrow
  have HL3 := Lib.hid hl3
  have hlb : ts.length ≤ 3 := by omega
  obtain ⟨hm, b, off, hr⟩ := h
  have HR := Lib.hid hr
  have HSU := Lib.hid (fun p j hp hj x => SU_succ ts n p j hp hj x)
  have HSR := Lib.hid (fun p x => SU_row ts n p x)
  have HS0 : Hid (Mx (SU ts n 0 0) 0) := Lib.hid ⟨Int.le_refl _, fun x ⟨p', j', h, _⟩ => by omega, .inl rfl⟩
  clear hr hrow hl3 hy hG
  go_enter Try.func32, Try.ntmps32
  go_wp2_with fail
  refine HT.out.mono ?_
  rintro e w' ⟨rfl, rfl⟩
  go_wp2_with fail
  go_loop [6, 17] (fun v6 v17 => ∃ (p : Nat) (g : Int), p ≤ ts.length ∧ v17 = .int .i64 p ∧ v6 = .int .i64 g ∧ Mx (SU ts n p 0) g) (fun _ v17 => ts.length - (intOf v17).toNat)
  case atStart => exact ⟨0, 0, Nat.zero_le _, rfl, rfl, HS0.out⟩
  case round =>
    obtain ⟨p, g, hp, rfl, rfl, hmx⟩ := hrel
    have HMX := Lib.hid hmx
    clear hmx
    by_cases hlt : p < ts.length
    · obtain ⟨ha, hbl, ra, rc, c1, rb, ro, hrd, -⟩ := HR.out p hlt
      subst ha
      obtain ⟨htl, -⟩ := HROW.out p hlt
      have hpi : (p : Int) < (ts.length : Int) := by omega
      have HSP := Lib.hid (fun j hj x => HSU.out p j (by omega) hj x)
      have HRP := Lib.hid (HSR.out p)
      have HTL := Lib.hid htl
      have htb : (ts.getD p []).length ≤ 8 := by omega
      have HRD := Lib.hid hrd
      clear htl hrd
      generalize ts.getD p [] = t at *
      go_wp2_with fail
      go_loop [6, 23] (fun v6 v23 => ∃ (j : Nat) (g : Int), j ≤ t.length ∧ v23 = .int .i64 j ∧ v6 = .int .i64 g ∧ Mx (SU ts n p j) g) (fun _ v23 => t.length - (intOf v23).toNat)
      case atStart => exact ⟨0, g, Nat.zero_le _, rfl, rfl, HMX.out⟩
      case round =>
        clear HMX
        obtain ⟨j, g, hj, rfl, rfl, hmx⟩ := hrel
        have HMX := Lib.hid hmx
        clear hmx
        by_cases hltj : j < t.length
        · obtain ⟨hra, cj⟩ := HRD.out.2 j hltj
          subst hra
          have hji : (j : Int) < (t.length : Int) := by omega
          have HST := Lib.hid (HMX.out.step (y := t.getD j 0) (fun x => HSP.out j (by rw [← HTL.out]; exact hltj) x))
          generalize t.getD j 0 = x at *
          go_wp2_with fail
          refine (l1Most_if g x _).mono ?_
          rintro e w' ⟨rfl, rfl⟩
          generalize (if x < g then g else x) = u at *
          go_wp2_with fail
          go_round
          case rel => exact ⟨j + 1, u, by omega, by go_num, rfl, HST.out⟩
          case measure => simp [intOf]; omega
        · have hnj : n = j := by have := HTL.out; omega
          have HE : Hid (Mx (SU ts n (p + 1) 0) g) := Lib.hid (HMX.out.congr (fun x hx => .inl (by rw [← hnj]; exact (HRP.out x).1 hx)) (fun x hx => (HRP.out x).2 (by rw [← hnj] at hx; exact hx)))
          clear hnj
          clear HMX
          go_wp2_with fail
          go_round
          case rel => exact ⟨p + 1, g, by omega, by go_num, rfl, HE.out⟩
          case measure => simp [intOf]; omega
    · have hp3 : p = 3 := by have := HL3.out; omega
      rw [hp3] at HMX
      have e := HMX.out.uniq HG.out
      subst e
      clear hp3 HMX
      go_wp2_with fail
      go_returns
      exact ⟨rfl, Below.refl _ _⟩
theorem specGreatestTaste_no (n : Int) (ts : List (List Int)) (hy : tstB n ts = false) (a : Option Addr) (cap B : Nat) (w : World) (h : RdSS w B a ts) :
    Calls Try.prog 32 #[.int .i64 n, .slice a ts.length cap] w (OutGreatestTaste w 0 false) := by
  have HT := Lib.hid (ckTastes_no n ts hy a cap _ w h)
  clear h hy
  go_enter Try.func32, Try.ntmps32
  go_wp2_with fail
  refine HT.out.mono ?_
  rintro e w' ⟨rfl, rfl⟩
  go_wp2_with fail
  go_returns
  exact ⟨rfl, Below.refl _ _⟩
/-- The greatest of the first k + 1 numbers. -/
def mxr (xs : List Int) : Nat → Int
  | 0 => xs.getD 0 0
  | k + 1 => max (mxr xs k) (xs.getD (k + 1) 0)
set_option maxHeartbeats 800000 in
theorem slicesMax_any (xs : List Int) (a : Option Addr) (b off cap : Nat) (w : World) (hl : 1 ≤ xs.length) (h : Rd w a b off xs) :
    Calls Try.prog 81 #[.slice a xs.length cap] w fun e w' => e = .returned (.int .i64 (mxr xs (xs.length - 1))) ∧ w = w' := by
  obtain ⟨hm, hc⟩ := h
  unfold maxLen at hm
  obtain ⟨ha, c0⟩ := hc 0 hl
  subst ha
  rw [Nat.add_zero] at c0
  have HC := Lib.hid (fun k hk => (hc k hk).2)
  have HM0 : Hid (mxr xs 0 = xs.getD 0 0) := Lib.hid rfl
  have HMS : Hid (∀ k, mxr xs (k + 1) = max (mxr xs k) (xs.getD (k + 1) 0)) := Lib.hid (fun _ => rfl)
  have hli : ¬ ((xs.length : Int) < 1) := by omega
  have hli2 : (0 : Int) < (xs.length : Int) := by omega
  clear hc
  go_enter Try.func81, Try.ntmps81
  go_wp2_with fail
  go_loop [3, 4] (fun v3 v4 => ∃ k : Nat, k + 1 ≤ xs.length ∧ v4 = .int .i64 ((k + 1 : Nat) : Int) ∧ v3 = .int .i64 (mxr xs k)) (fun _ v4 => xs.length - (intOf v4).toNat)
  case atStart => exact ⟨0, hl, rfl, by rw [HM0.out]; rfl⟩
  case round =>
    obtain ⟨k, hk, rfl, rfl⟩ := hrel
    by_cases hlt : k + 1 < xs.length
    · have ck := HC.out (k + 1) hlt
      have hki : ((k + 1 : Nat) : Int) < (xs.length : Int) := by omega
      have HX := Lib.hid (HMS.out k)
      clear c0
      generalize xs.getD (k + 1) 0 = x at *
      generalize mxr xs k = m at *
      have HX2 : Hid (mxr xs (k + 1) = if m < x then x else m) := Lib.hid (by rw [HX.out]; split <;> omega)
      go_wp2_with fail
      go_round
      case rel => exact ⟨k + 1, by omega, by go_num, by rw [HX2.out]⟩
      case measure => simp [intOf]; omega
    · have hk2 : k = xs.length - 1 := by omega
      have hki : ¬ ((k + 1 : Nat) : Int) < (xs.length : Int) := by omega
      have HK := Lib.hid hk2
      clear hk2
      go_wp2_with fail
      go_ret
      exact ⟨by rw [← HK.out]; rfl, rfl⟩
theorem arr_index (f : Nat → Int) (k : Nat) (hk : k < 8) (w : World) : (Instr.index 51 (.agg (arrF 24 f)) (.int .i64 k)).run Try.prog w = .ok (.agg #[.int .i64 (f (3 * k)), .int .i64 (f (3 * k + 1)), .int .i64 (f (3 * k + 2))]) w := by
  rcases (by omega : k = 0 ∨ k = 1 ∨ k = 2 ∨ k = 3 ∨ k = 4 ∨ k = 5 ∨ k = 6 ∨ k = 7) with rfl | rfl | rfl | rfl | rfl | rfl | rfl | rfl
  · exact (show (Instr.index 51 (.agg (arrF 24 f)) (.int .i64 0)).run Try.prog w = .ok (.agg #[.int .i64 (f 0), .int .i64 (f 1), .int .i64 (f 2)]) w by kernel_rfl)
  · exact (show (Instr.index 51 (.agg (arrF 24 f)) (.int .i64 1)).run Try.prog w = .ok (.agg #[.int .i64 (f 3), .int .i64 (f 4), .int .i64 (f 5)]) w by kernel_rfl)
  · exact (show (Instr.index 51 (.agg (arrF 24 f)) (.int .i64 2)).run Try.prog w = .ok (.agg #[.int .i64 (f 6), .int .i64 (f 7), .int .i64 (f 8)]) w by kernel_rfl)
  · exact (show (Instr.index 51 (.agg (arrF 24 f)) (.int .i64 3)).run Try.prog w = .ok (.agg #[.int .i64 (f 9), .int .i64 (f 10), .int .i64 (f 11)]) w by kernel_rfl)
  · exact (show (Instr.index 51 (.agg (arrF 24 f)) (.int .i64 4)).run Try.prog w = .ok (.agg #[.int .i64 (f 12), .int .i64 (f 13), .int .i64 (f 14)]) w by kernel_rfl)
  · exact (show (Instr.index 51 (.agg (arrF 24 f)) (.int .i64 5)).run Try.prog w = .ok (.agg #[.int .i64 (f 15), .int .i64 (f 16), .int .i64 (f 17)]) w by kernel_rfl)
  · exact (show (Instr.index 51 (.agg (arrF 24 f)) (.int .i64 6)).run Try.prog w = .ok (.agg #[.int .i64 (f 18), .int .i64 (f 19), .int .i64 (f 20)]) w by kernel_rfl)
  · exact (show (Instr.index 51 (.agg (arrF 24 f)) (.int .i64 7)).run Try.prog w = .ok (.agg #[.int .i64 (f 21), .int .i64 (f 22), .int .i64 (f 23)]) w by kernel_rfl)
theorem blkSlices : Blk 51 24 := ⟨.inr ⟨_, _, Try.underlying51⟩, by kernel_rfl⟩
/-- The first k slices. -/
def SV (ts : List (List Int)) (k : Nat) (x : Int) : Prop := ∃ q, q < 3 * k ∧ x = tv ts q
theorem Mx.three {S S' : Int → Prop} {G x y z : Int} (h : Mx S G) (e : ∀ u, S' u ↔ (S u ∨ u = x ∨ u = y ∨ u = z)) : Mx S' (max G (max (max x y) z)) := by
  obtain ⟨h1, h2, h3⟩ := h
  refine ⟨by omega, fun u hu => ?_, ?_⟩
  · rcases (e u).1 hu with h | rfl | rfl | rfl
    · have := h2 u h; omega
    · omega
    · omega
    · omega
  · rcases (by omega : max G (max (max x y) z) = G ∨ max G (max (max x y) z) = x ∨ max G (max (max x y) z) = y ∨ max G (max (max x y) z) = z) with h | h | h | h
    · rw [h]; exact h3.imp id (fun h => (e _).2 (.inl h))
    · exact .inr ((e _).2 (.inr (.inl h)))
    · exact .inr ((e _).2 (.inr (.inr (.inl h))))
    · exact .inr ((e _).2 (.inr (.inr (.inr h))))
set_option maxHeartbeats 1600000 in
theorem greatestTaste_any (n : Nat) (ts : List (List Int)) (G : Int) (hG : Mx (ST ts) G) (w : World) :
    Calls Try.prog 61 #[.agg (cakeA n ts)] w fun e w' => e = .returned (.int .i64 G) ∧ Below w.heap.size w w' := by
  have hg0 := heap_alloc_new w (.cells (cakeA n ts) 53)
  have hb0 := balloc (Below.refl w.heap.size w) (.cells (cakeA n ts) 53)
  have hwin : ∀ j, j < 24 → (cakeA n ts)[1 + j]? = (arrF 24 (tv ts))[j]? := fun j hj => by rw [arrF_at _ _ _ hj]; exact cakeF_at n (tv ts) j hj
  have HI := Lib.hid (fun k hk => arr_index (tv ts) k hk)
  have HS : Hid (∀ k u, SV ts (k + 1) u ↔ (SV ts k u ∨ u = tv ts (3 * k) ∨ u = tv ts (3 * k + 1) ∨ u = tv ts (3 * k + 2))) := Lib.hid (fun k u => by
    constructor
    · rintro ⟨q, hq, rfl⟩
      by_cases e : q < 3 * k
      · exact .inl ⟨q, e, rfl⟩
      · rcases (by omega : q = 3 * k ∨ q = 3 * k + 1 ∨ q = 3 * k + 2) with rfl | rfl | rfl
        · exact .inr (.inl rfl)
        · exact .inr (.inr (.inl rfl))
        · exact .inr (.inr (.inr rfl))
    · rintro (⟨q, hq, rfl⟩ | rfl | rfl | rfl)
      · exact ⟨q, by omega, rfl⟩
      · exact ⟨3 * k, by omega, rfl⟩
      · exact ⟨3 * k + 1, by omega, rfl⟩
      · exact ⟨3 * k + 2, by omega, rfl⟩)
  have HS0 : Hid (Mx (SV ts 0) 0) := Lib.hid ⟨Int.le_refl _, fun x ⟨q, h, _⟩ => by omega, .inl rfl⟩
  have HE : Hid (∀ H, Mx (SV ts 8) H → H = G) := Lib.hid (fun H h => Mx.uniq h hG)
  clear hG
  go_enter Try.func61, Try.ntmps61
  go_wp2_with ((with_reducible refine load_win blkSlices ?_ _ rfl w.heap.size 1 ?_ (cakeA n ts) (arrF 24 (tv ts)) hg0 hwin (arrF_size _ _) ?_); exact rfl; exact rfl; simp only [Act.put, List.setIfInBounds_toArray, List.set_cons_zero, List.set_cons_succ])
  generalize w.alloc (.cells (cakeA n ts) 53) = w1 at hb0 ⊢
  clear hg0 hwin
  generalize arrF 24 (tv ts) = ar at *
  go_loopw [3, 8] (fun v3 v8 wr => ∃ (k : Nat) (g : Int), k ≤ 8 ∧ v8 = .int .i64 k ∧ v3 = .int .i64 g ∧ Mx (SV ts k) g ∧ Below w.heap.size w wr) (fun _ v8 _ => 8 - (intOf v8).toNat)
  case atStart => exact ⟨0, 0, by omega, rfl, rfl, HS0.out, hb0⟩
  case round =>
    obtain ⟨k, g, hk, rfl, rfl, hmx, hb⟩ := hrel
    have HMX := Lib.hid hmx
    clear hmx
    by_cases hlt : k < 8
    · have hki : (k : Int) < 8 := by omega
      have hidx := HI.out k hlt
      have HT := Lib.hid (HMX.out.three (HS.out k))
      generalize tv ts (3 * k) = x at *
      generalize tv ts (3 * k + 1) = y at *
      generalize tv ts (3 * k + 2) = z at *
      have hrd : Rd (wr.alloc (.cells #[.int .i64 x, .int .i64 y, .int .i64 z] 50)) (some ⟨wr.heap.size, 0, none⟩) wr.heap.size 0 [x, y, z] := ⟨by simp [maxLen], fun j hj => ⟨rfl, by
        rw [World.cell?_alloc_at _ _ _ _ (by simp)]
        simp only [List.length_cons, List.length_nil] at hj
        rcases (by omega : j = 0 ∨ j = 1 ∨ j = 2) with rfl | rfl | rfl <;> rfl⟩⟩
      have HRD := Lib.hid hrd
      clear hrd
      go_wp2_with fail
      refine (slicesMax_any [x, y, z] _ _ _ _ _ (by simp) HRD.out).mono ?_
      rintro e w' ⟨rfl, rfl⟩
      obtain ⟨M, hM⟩ : ∃ M, M = max (max x y) z := ⟨_, rfl⟩
      have hmm : mxr [x, y, z] ([x, y, z].length - 1) = M := by rw [hM]; rfl
      have hmx : max g (max (max x y) z) = if g < M then M else g := by rw [hM]; split <;> omega
      rw [hmx] at HT
      rw [hmm]
      clear hmm hM hmx
      go_wp2_with fail
      go_roundw
      case rel => exact ⟨k + 1, _, by omega, by go_num, rfl, HT.out, balloc hb _⟩
      case measure => simp [intOf]; omega
    · have hk8 : k = 8 := by omega
      rw [hk8] at HMX
      have e := HE.out g HMX.out
      subst e
      clear hk8 HMX
      go_wp2_with fail
      go_ret
      exact ⟨rfl, hb⟩
set_option maxHeartbeats 1600000 in
theorem implGreatestTaste_yes (n : Nat) (h1 : 1 ≤ n) (h2 : n ≤ 8) (ts : List (List Int)) (hy : rowsB n 9 ts = true) (G : Int) (hG : Mx (ST ts) G) (a : Option Addr) (cap : Nat) (w : World) (h : RdSS w w.heap.size a ts) :
    Calls Try.prog 33 #[.int .i64 n, .slice a ts.length cap] w (OutGreatestTaste w G true) := by
  have HC := Lib.hid (cakeOf_yes n h1 h2 ts a cap w h hy)
  have HL := Lib.hid (fun w => greatestTaste_any n ts G hG w)
  clear h hy hG
  go_enter Try.func33, Try.ntmps33
  go_wp2_with fail
  refine (HC.out).mono ?_
  rintro e w1 ⟨rfl, hb1⟩
  have hz1 := hb1.size
  go_wp2_with (first | (with_reducible refine alloc_blk zeroC run_alloc_cake rfl rfl ?_) | ((with_reducible refine store_blk blkCake rfl _ _ rfl w1.heap.size (cakeA n ts) zeroC ?_ ?_ (heap_alloc_new _ _) zeroC_size (cakeA_size _ _) (cakeA_one _ _) w1.heap.size (Nat.le_refl _) ?_); exact rfl; exact rfl; intro w2 hg2 hb2 hk2 hz2; have hB2 : Below w.heap.size w w2 := (balloc hb1 _).trans (hb2.mono hz1)) | ((with_reducible refine load_blk blkCake ?_ _ rfl (w1.heap.size) ?_ (cakeA n ts) hg2 (cakeA_size _ _) ?_); exact rfl; exact rfl; simp only [Act.put, List.setIfInBounds_toArray, List.set_cons_zero, List.set_cons_succ]))
  refine (HL.out _).mono ?_
  rintro e w3 ⟨rfl, hb3⟩
  have hB3 := bnext hB2 hb3
  go_wp2_with fail
  go_returns
  exact ⟨rfl, hB3⟩
set_option maxHeartbeats 1600000 in
theorem implGreatestTaste_no (n : Int) (ts : List (List Int)) (hy : tstB n ts = false) (a : Option Addr) (cap : Nat) (w : World) (h : RdSS w w.heap.size a ts) :
    Calls Try.prog 33 #[.int .i64 n, .slice a ts.length cap] w (OutGreatestTaste w 0 false) := by
  have HC := Lib.hid (cakeOf_fail n ts hy a cap w h)
  clear h hy
  go_enter Try.func33, Try.ntmps33
  go_wp2_with fail
  refine (HC.out).mono ?_
  rintro e w1 ⟨rfl, hb1⟩
  have hz1 := hb1.size
  go_wp2_with (first | (with_reducible refine alloc_blk zeroC run_alloc_cake rfl rfl ?_) | ((with_reducible refine store_blk blkCake rfl _ _ rfl w1.heap.size (zeroC) zeroC ?_ ?_ (heap_alloc_new _ _) zeroC_size (zeroC_size) (zeroC_one) w1.heap.size (Nat.le_refl _) ?_); exact rfl; exact rfl; intro w2 hg2 hb2 hk2 hz2; have hB2 : Below w.heap.size w w2 := (balloc hb1 _).trans (hb2.mono hz1)))
  go_returns
  exact ⟨rfl, hB2⟩
theorem law_GreatestTaste (w : World) (n : Int) (_ : (Lit.int .i64 n).wf = true) (ts : List (List Int)) (a_ts : Option Addr) (c_ts : Nat) (h_ts : RdSS w w.heap.size a_ts ts) :
    Calls Try.prog 10 #[.int .i64 n, .slice a_ts ts.length c_ts] w fun e w' => e = .returned (.bool true) ∧ Below w.heap.size w w' := by
  cases h : tstB n ts
  · exact lawOf_GreatestTaste n ts a_ts c_ts w h_ts _ _ (fun a c w' _ h' => specGreatestTaste_no n ts h a c _ w' h') (fun a c w' _ h' => implGreatestTaste_no n ts h a c w' h')
  · obtain ⟨n, rfl, h1, h2, hy⟩ := tstB_yes h
    obtain ⟨G, hG⟩ := mx_exists (tv ts) 24
    exact lawOf_GreatestTaste n ts a_ts c_ts w h_ts _ _ (fun a c w' _ h => specGreatestTaste_yes n h1 h2 ts hy G hG a c _ w' h) (fun a c w' _ h => implGreatestTaste_yes n h1 h2 ts hy G hG a c w' h)
end Go.Proofs.Ytfpadepeanejeaa
