import Derived.RegionTactic
import Derived.Test.YtncpnkcdjfohgaaDoorMd1
import Derived.Test.YtncpnkcdjfohgaaDoorMb1
namespace Go.Proofs.YtncpnkcdjfohgaaDoor
open Go.RowKit
set_option maxRecDepth 4000
/-- What somebody finds a thing worth more than their own. -/
def env (W : Nat → Nat → Int) (S : Nat → Nat) (p q : Nat) : Int := W p q - W p (S p)
def SN (W : Nat → Nat → Int) (S : Nat → Nat) (p q : Nat) (x : Int) : Prop := ∃ p' q' : Nat, (p' < p ∨ (p' = p ∧ q' < q)) ∧ p' < 3 ∧ q' < 3 ∧ x = env W S p' q'
theorem SN_succ (W : Nat → Nat → Int) (S : Nat → Nat) (p q : Nat) (hp : p < 3) (hq : q < 3) (x : Int) : SN W S p (q + 1) x ↔ (SN W S p q x ∨ x = env W S p q) := by
  constructor
  · rintro ⟨p', q', h, h1, h2, rfl⟩
    by_cases e : p' = p ∧ q' = q
    · obtain ⟨rfl, rfl⟩ := e; exact .inr rfl
    · exact .inl ⟨p', q', by omega, h1, h2, rfl⟩
  · rintro (⟨p', q', h, h1, h2, rfl⟩ | rfl)
    · exact ⟨p', q', by omega, h1, h2, rfl⟩
    · exact ⟨p, q, by omega, hp, hq, rfl⟩
theorem SN_row (W : Nat → Nat → Int) (S : Nat → Nat) (p : Nat) (x : Int) : SN W S (p + 1) 0 x ↔ SN W S p 3 x := by
  constructor
  · rintro ⟨p', q', h, h1, h2, rfl⟩; exact ⟨p', q', by omega, h1, h2, rfl⟩
  · rintro ⟨p', q', h, h1, h2, rfl⟩; exact ⟨p', q', by omega, h1, h2, rfl⟩
theorem SN_three (W : Nat → Nat → Int) (S : Nat → Nat) (p : Nat) (hp : p < 3) (x : Int) : SN W S (p + 1) 0 x ↔ (SN W S p 0 x ∨ x = env W S p 0 ∨ x = env W S p 1 ∨ x = env W S p 2) := by
  rw [SN_row, SN_succ W S p 2 hp (by omega), SN_succ W S p 1 hp (by omega), SN_succ W S p 0 hp (by omega)]
  simp only [or_assoc]
theorem SN_zero (W : Nat → Nat → Int) (S : Nat → Nat) : Mx (SN W S 0 0) 0 := ⟨Int.le_refl _, fun x ⟨p', q', h, _⟩ => by omega, .inl rfl⟩
theorem envy_exists (W : Nat → Nat → Int) (S : Nat → Nat) : ∃ G, Mx (SN W S 3 0) G :=
  ⟨_, (((SN_zero W S).three (SN_three W S 0 (by omega))).three (SN_three W S 1 (by omega))).three (SN_three W S 2 (by omega))⟩
theorem SN_congr {W W' : Nat → Nat → Int} {S S' : Nat → Nat} (hW : ∀ p, p < 3 → ∀ q, q < 3 → W p q = W' p q) (hS : ∀ p, p < 3 → S p = S' p ∧ S p < 3) {G : Int} (h : Mx (SN W S 3 0) G) : Mx (SN W' S' 3 0) G := by
  have e : ∀ p, p < 3 → ∀ q, q < 3 → env W S p q = env W' S' p q := fun p hp q hq => by
    obtain ⟨h1, h2⟩ := hS p hp
    rw [env, env, hW p hp q hq, hW p hp _ h2, h1]
  refine h.congr (fun x => ?_) (fun x => ?_)
  · rintro ⟨p', q', h, h1, h2, rfl⟩; exact .inl ⟨p', q', h, h1, h2, (e _ h1 _ h2).symm⟩
  · rintro ⟨p', q', h, h1, h2, rfl⟩; exact ⟨p', q', h, h1, h2, e _ h1 _ h2⟩
/-- Rows of three numbers, none of them great. -/
structure Rows3 (cs : List (List Int)) (W : Nat → Nat → Int) : Prop where
  len : cs.length = 3
  row : ∀ p, p < 3 → (cs.getD p []).length = 3
  at' : ∀ p, p < 3 → ∀ q, q < 3 → (cs.getD p []).getD q 0 = W p q
  bd : ∀ p, p < 3 → ∀ q, q < 3 → -1000 ≤ W p q ∧ W p q ≤ 1000
set_option maxHeartbeats 3200000 in
theorem ckEnvy_any (cs : List (List Int)) (W : Nat → Nat → Int) (R : Rows3 cs W) (k : Nat) (hk : k < 6) (G : Int) (hG : Mx (SN W (shS k) 3 0) G) (a a' : Option Addr) (cap cap' B B' : Nat) (w : World) (h : RdSS w B a cs) (h' : RdS w B' a' (shL k)) :
    Calls Tryd.prog 49 #[.slice a cs.length cap, .slice a' 3 cap'] w fun e w' => e = .returned (.int .i64 G) ∧ w = w' := by
  obtain ⟨hm, b, off, hr⟩ := h
  obtain ⟨b', off', hs, -⟩ := h'
  have HR := Lib.hid hr
  have HS := Lib.hid (fun p (hp : p < 3) => hs.2 p (by show p < 3; exact hp))
  have HE := Lib.hid (fun p (hp : p < 3) => (shL_at k p hp).trans (shS_eq k p hk hp))
  have HSL := Lib.hid (fun p (hp : p < 3) => shS_lt k p hk hp)
  have HLEN := Lib.hid R.len
  have HROW := Lib.hid R.row
  have HAT := Lib.hid R.at'
  have HBD := Lib.hid R.bd
  have HG := Lib.hid hG
  have HU := Lib.hid (fun p q hp hq x => SN_succ W (shS k) p q hp hq x)
  have HW := Lib.hid (fun p x => SN_row W (shS k) p x)
  have HZ := Lib.hid (SN_zero W (shS k))
  have HEN : Hid (∀ p q, env W (shS k) p q = W p q - W p (shS k p)) := Lib.hid (fun _ _ => rfl)
  have hb3 : cs.length ≤ 3 := by rw [R.len]; omega
  clear hr hs hG R
  generalize shS k = S at *
  go_enter Tryd.func49, Tryd.ntmps49
  go_wp2_with fail
  go_loop [5, 12] (fun v5 v12 => ∃ (p : Nat) (g : Int), p ≤ cs.length ∧ v12 = .int .i64 p ∧ v5 = .int .i64 g ∧ Mx (SN W S p 0) g) (fun _ v12 => cs.length - (intOf v12).toNat)
  case atStart => exact ⟨0, 0, Nat.zero_le _, rfl, rfl, HZ.out⟩
  case round =>
    obtain ⟨p, g, hp, rfl, rfl, hmx⟩ := hrel
    have HMX := Lib.hid hmx
    clear hmx
    by_cases hlt : p < cs.length
    · have hp3 : p < 3 := by omega
      obtain ⟨ha, hbl, ra, rc, c1, rb, ro, hrd, -⟩ := HR.out p hlt
      subst ha
      obtain ⟨ha', c2⟩ := HS.out p hp3
      subst ha'
      rw [HE.out p hp3] at c2
      have hsl := HSL.out p hp3
      have hpi : (p : Int) < (cs.length : Int) := by omega
      have hpi3 : (p : Int) < 3 := by omega
      have HUP := Lib.hid (fun q hq x => HU.out p q hp3 hq x)
      have HWP := Lib.hid (HW.out p)
      have HTL := Lib.hid (HROW.out p hp3)
      have htb : (cs.getD p []).length ≤ 3 := by rw [HROW.out p hp3]; omega
      have HTA := Lib.hid (HAT.out p hp3)
      have HTB := Lib.hid (HBD.out p hp3)
      have HRD := Lib.hid hrd
      have HEP := Lib.hid (HEN.out p)
      clear hrd
      generalize S p = s at *
      generalize cs.getD p [] = t at *
      go_wp2_with fail
      go_loop [5, 19] (fun v5 v19 => ∃ (q : Nat) (g : Int), q ≤ t.length ∧ v19 = .int .i64 q ∧ v5 = .int .i64 g ∧ Mx (SN W S p q) g) (fun _ v19 => t.length - (intOf v19).toNat)
      case atStart => exact ⟨0, g, Nat.zero_le _, rfl, rfl, HMX.out⟩
      case round =>
        clear HMX
        obtain ⟨q, g, hq, rfl, rfl, hmx⟩ := hrel
        have HMX := Lib.hid hmx
        clear hmx
        by_cases hltq : q < t.length
        · have hq3 : q < 3 := by omega
          obtain ⟨hra, cq⟩ := HRD.out.2 q hltq
          subst hra
          have cs' := (HRD.out.2 s (by rw [HTL.out]; exact hsl)).2
          have hqi : (q : Int) < (t.length : Int) := by omega
          have hsi : (s : Int) < (t.length : Int) := by rw [HTL.out]; omega
          have hx := HTB.out q hq3
          have hy := HTB.out s hsl
          rw [HTA.out q hq3] at cq
          rw [HTA.out s hsl] at cs'
          have hst := HMX.out.step (y := env W S p q) (fun x => HUP.out q hq3 x)
          rw [HEP.out q] at hst
          have HST := Lib.hid hst
          clear hst
          generalize W p q = x at *
          generalize W p s = y at *
          go_wp2_with fail
          refine (l1Most_if g (x - y) _).mono ?_
          rintro e w' ⟨rfl, rfl⟩
          generalize (if x - y < g then g else x - y) = u at *
          go_wp2_with fail
          go_round
          case rel => exact ⟨q + 1, u, by omega, by go_num, rfl, HST.out⟩
          case measure => simp [intOf]; omega
        · have hq3 : 3 = q := by have := HTL.out; omega
          have HE2 : Hid (Mx (SN W S (p + 1) 0) g) := Lib.hid (HMX.out.congr (fun x hx => .inl (by rw [← hq3]; exact (HWP.out x).1 hx)) (fun x hx => (HWP.out x).2 (by rw [← hq3] at hx; exact hx)))
          clear HMX hq3
          go_wp2_with fail
          go_round
          case rel => exact ⟨p + 1, g, by omega, by go_num, rfl, HE2.out⟩
          case measure => simp [intOf]; omega
    · have hp3 : p = 3 := by have := HLEN.out; omega
      rw [hp3] at HMX
      have e := HMX.out.uniq HG.out
      subst e
      clear hp3 HMX
      go_wp2_with fail
      go_ret
      exact ⟨rfl, rfl⟩
/-- What the pieces are worth to all. -/
def wps (ts : List (List Int)) (n i : Nat) : List (List Int) := ts.map fun t => pcs t n i
theorem wps_rows (ts : List (List Int)) (n i : Nat) (h2 : n ≤ 8) (hi : i < Pr.cnt n) (hy : rowsB n 9 ts = true) : Rows3 (wps ts n i) (fun p q => worth (ts.getD p []) n i q) := by
  have hc := (Pr.cnt_le n (by omega)).1
  obtain ⟨h3, hr⟩ := rowsB_at hy
  have hg : ∀ p, p < 3 → (wps ts n i).getD p [] = pcs (ts.getD p []) n i := fun p hp => by
    rw [wps, List.getD_eq_getElem?_getD, List.getElem?_map, List.getD_eq_getElem?_getD, List.getElem?_eq_getElem (by omega)]
    rfl
  refine ⟨by simp [wps, h3], fun p hp => by rw [hg p hp]; rfl, fun p hp q hq => ?_, fun p hp q hq => ?_⟩
  · rw [hg p hp]
    rcases (by omega : q = 0 ∨ q = 1 ∨ q = 2) with rfl | rfl | rfl <;> rfl
  · have := worth_bd (hr p (by omega)).2 n i q h2 (Pr.R_le_of_lt n (by omega) i hi) (Pr.RC_bd i (by omega)).1 hq
    show -1000 ≤ worth (ts.getD p []) n i q ∧ worth (ts.getD p []) n i q ≤ 1000
    omega
set_option maxHeartbeats 1600000 in
theorem ckWorths_any (n i : Nat) (h1 : 1 ≤ n) (h2 : n ≤ 8) (hi : i < Pr.cnt n) (ts : List (List Int)) (hy : rowsB n 9 ts = true) (a : Option Addr) (cap : Nat) (w : World) (h : RdSS w w.heap.size a ts) :
    Calls Tryd.prog 67 #[.int .i64 n, .slice a ts.length cap, .int .i64 i] w fun e w' => ∃ v, e = .returned v ∧ CellsV w' w.heap.size v (wps ts n i) ∧ Below w.heap.size w w' := by
  obtain ⟨hl3, hrow⟩ := rowsB_at hy
  have HROW := Lib.hid hrow
  have hb3 : ts.length ≤ 3 := by omega
  have HRD := Lib.hid h
  have HV : Hid (wps ts n i = (ts.take ts.length).map fun t => pcs t n i) := Lib.hid (by rw [List.take_length]; rfl)
  have HS : Hid (∀ k, k < ts.length → (ts.take (k + 1)).map (fun t => pcs t n i) = (ts.take k).map (fun t => pcs t n i) ++ [pcs (ts.getD k []) n i]) := Lib.hid (fun k hk => by
    rw [List.take_add_one, List.map_append, List.getElem?_eq_getElem hk, List.getD_eq_getElem?_getD, List.getElem?_eq_getElem hk]; rfl)
  have HL : Hid (∀ k, k ≤ ts.length → ((ts.take k).map fun t => pcs t n i).length = k) := Lib.hid (fun k hk => by simp; omega)
  clear h hrow hy hl3
  go_enter Tryd.func67, Tryd.ntmps67
  go_wp2_with fail
  go_loopw [7, 12] (fun v7 v12 wr => ∃ k : Nat, k ≤ ts.length ∧ v12 = .int .i64 k ∧ CellsV wr w.heap.size v7 ((ts.take k).map fun t => pcs t n i) ∧ Below w.heap.size w wr) (fun _ v12 _ => ts.length - (intOf v12).toNat)
  case atStart => exact ⟨0, Nat.zero_le _, rfl, cells_nil _ _, Below.refl _ _⟩
  case round =>
    obtain ⟨k, hk, rfl, hc, hb⟩ := hrel
    obtain ⟨wq, rfl⟩ : ∃ wq : World, wq = wr := ⟨_, rfl⟩
    by_cases hlt : k < ts.length
    · obtain ⟨-, b, off, hr⟩ := rdss_later HRD.out hb
      obtain ⟨ha, hbl, ra, rc, c1, hrs⟩ := hr k hlt
      subst ha
      have hki : (k : Int) < (ts.length : Int) := by omega
      have HS1 := Lib.hid (HS.out k hlt)
      have HLK := Lib.hid (HL.out k hk)
      obtain ⟨htl, hta⟩ := HROW.out k hlt
      have HTL := Lib.hid htl
      have HTA := Lib.hid hta
      have HRS := Lib.hid (rds_mono hrs hb.size)
      have hsz := hb.size
      clear hr hrs htl hta
      generalize (ts.take k).map (fun t => pcs t n i) = L at *
      generalize ts.getD k [] = t at *
      go_wp2_with fail
      refine (ckPieces_own n i h1 h2 hi t HTL.out HTA.out ra rc wq HRS.out).mono ?_
      rintro e w2 ⟨v, rfl, ho, hb2⟩
      obtain ⟨-, a2, c2, b2, rfl, -, -⟩ := own_shape ho
      generalize pcs t n i = c at *
      go_wp2_with (at_builtin; refine append_row w.heap.size _ wq w2 _ _ L c rfl _ _ rfl rfl rfl rfl hc hb2 ho rfl hsz (by have := HLK.out; omega) ?_; intro v' w5 hc5 hb5)
      go_roundw
      case rel => first | exact ⟨k + 1, by omega, by go_num, by rw [HS1.out]; exact hc5, (bnext hb hb2).trans hb5⟩ | ((repeat apply Exists.intro); exact ⟨⟨k + 1, by omega, by go_num, by rw [HS1.out]; exact hc5, (bnext hb hb2).trans hb5⟩, rfl⟩)
      case measure => simp [intOf]; omega
    · have hk2 : k = ts.length := by omega
      subst hk2
      rw [← HV.out] at hc
      go_wp2_with fail
      go_ret
      exact ⟨_, rfl, hc, hb⟩
end Go.Proofs.YtncpnkcdjfohgaaDoor
