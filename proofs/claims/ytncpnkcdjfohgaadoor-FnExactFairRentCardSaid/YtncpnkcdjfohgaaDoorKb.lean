import Derived.Test.YtncpnkcdjfohgaaDoorKa
namespace Go.Proofs.YtncpnkcdjfohgaaDoor
open Go.RowKit
set_option maxRecDepth 4000
/-- Sizes within the law's bound. -/
def SmallSS (cs : List (List Int)) : Prop := cs.length ≤ 1048576 ∧ ∀ k, (cs.getD k []).length ≤ 1048576
set_option maxHeartbeats 400000 in
theorem szIntS_any (a : Option Addr) (n cap : Nat) (l : Int) (h0 : 0 ≤ l) (h1 : l ≤ 1048576) (hn : n ≤ maxLen) (w : World) :
    Calls Tryd.prog 39 #[.slice a n cap, .int .i64 l] w fun e w' => ∃ r, e = .returned (.int .i64 r) ∧ w = w' ∧ (r < 0 ∨ (0 ≤ r ∧ r = l - n)) := by
  unfold maxLen at hn
  by_cases h : l - (n : Int) < 0
  · go_enter Tryd.func39, Tryd.ntmps39
    go_wp2_with fail
    go_ret
    exact ⟨_, rfl, rfl, .inl (by omega)⟩
  · go_enter Tryd.func39, Tryd.ntmps39
    go_wp2_with fail
    go_ret
    exact ⟨_, rfl, rfl, .inr ⟨by omega, rfl⟩⟩
set_option maxHeartbeats 800000 in
theorem szIntSS_any (cs : List (List Int)) (a : Option Addr) (cap : Nat) (B : Nat) (l0 : Int) (hl0 : 0 ≤ l0) (hl1 : l0 ≤ 1048576) (w : World) (h : RdSS w B a cs) :
    Calls Tryd.prog 8 #[.slice a cs.length cap, .int .i64 l0] w fun e w' => ∃ r, e = .returned (.int .i64 r) ∧ w = w' ∧ (r < 0 ∨ (0 ≤ r ∧ r ≤ 1048576 ∧ SmallSS cs)) := by
  obtain ⟨hm, b, off, hc⟩ := h
  unfold maxLen at hm
  have HC := Lib.hid hc
  clear hc
  by_cases h : l0 - (cs.length : Int) < 0
  · go_enter Tryd.func8, Tryd.ntmps8
    go_wp2_with fail
    go_ret
    exact ⟨_, rfl, rfl, .inl (by omega)⟩
  · go_enter Tryd.func8, Tryd.ntmps8
    go_wp2_with fail
    go_loop [1, 5] (fun v1 v5 => ∃ (k : Nat) (l : Int), k ≤ cs.length ∧ v5 = .int .i64 k ∧ v1 = .int .i64 l ∧ 0 ≤ l ∧ l ≤ 1048576 ∧ ∀ j, j < k → (cs.getD j []).length ≤ 1048576) (fun _ v5 => cs.length - (intOf v5).toNat)
    case atStart => exact ⟨0, _, Nat.zero_le _, rfl, rfl, by omega, by omega, by omega⟩
    case round =>
      obtain ⟨k, l, hk, rfl, rfl, l0, l1, hall⟩ := hrel
      have HA := Lib.hid hall
      clear hall
      by_cases hlt : k < cs.length
      · obtain ⟨ha, hb, ra, rc, c1, rb, ro, hr, -⟩ := HC.out k hlt
        subst ha
        have hi : (k : Int) < (cs.length : Int) := by omega
        have hrm := hr.1
        have HX : Hid (∀ j, j < k + 1 → j < k ∨ j = k) := Lib.hid (fun j hj => by omega)
        have HE : Hid (∀ m, (cs.getD k []).length = m → ∀ j, j = k → (cs.getD j []).length = m) := Lib.hid (fun m hm j hj => by rw [hj]; exact hm)
        generalize hn : (cs.getD k []).length = n at c1 hrm
        have HN := Lib.hid hn
        clear hn hr
        go_wp2_with fail
        refine (szIntS_any ra n rc l l0 l1 hrm _).mono ?_
        rintro e w1 ⟨r, rfl, rfl, hr⟩
        rcases hr with hr | ⟨r0, hr⟩
        · go_wp2_with fail
          go_ret
          exact ⟨_, rfl, rfl, .inl (by omega)⟩
        · have r1 : r ≤ 1048576 := by omega
          have hn2 : n ≤ 1048576 := by omega
          clear hr
          go_wp2_with fail
          go_round
          case rel =>
            refine ⟨k + 1, r, by omega, by go_num, rfl, r0, r1, fun j hj => ?_⟩
            rcases HX.out j hj with h | h
            · exact HA.out j h
            · rw [HE.out n HN.out j h]; exact hn2
          case measure => simp [intOf]; omega
      · have hk2 : cs.length = k := by omega
        have HK := Lib.hid hk2
        clear hk2
        go_wp2_with fail
        go_ret
        refine ⟨_, rfl, rfl, .inr ⟨l0, l1, by have := HK.out; omega, fun j => ?_⟩⟩
        by_cases hj : j < k
        · exact HA.out j hj
        · rw [List.getD_eq_getElem?_getD, List.getElem?_eq_none (by have := HK.out; omega)]; simp
theorem copy_rows (cs : List (List Int)) (k : Nat) (hk : k < cs.length) : (cs.take k ++ List.replicate (cs.length - k) ([] : List Int)).set k (cs.getD k []) = cs.take (k + 1) ++ List.replicate (cs.length - (k + 1)) ([] : List Int) := by
  apply List.ext_getElem?
  intro i
  simp only [List.getElem?_set, List.length_append, List.length_take, List.length_replicate, List.getElem?_append, List.getElem?_take, List.getElem?_replicate]
  by_cases h1 : k = i
  · subst h1
    rw [if_pos rfl, if_pos (by omega), if_pos (by omega), if_pos (by omega), List.getD_eq_getElem?_getD, List.getElem?_eq_getElem hk]; rfl
  · rw [if_neg h1]
    by_cases h2 : i < k
    · rw [if_pos (by omega), if_pos h2, if_pos (by omega), if_pos (by omega)]
    · by_cases h3 : i < cs.length
      · rw [if_neg (by omega), if_pos (by omega), if_neg (by omega), if_pos (by omega)]
      · rw [if_neg (by omega), if_neg (by omega), if_neg (by omega), if_neg (by omega)]
set_option maxHeartbeats 1600000 in
theorem toIntSS_any (cs : List (List Int)) (a : Option Addr) (cap B : Nat) (w : World) (h : RdSS w B a cs) (hB : B ≤ w.heap.size) (hsz : SmallSS cs) :
    Calls Tryd.prog 10 #[.slice a cs.length cap] w fun e w' => ∃ v, e = .returned v ∧ OSS w' w.heap.size w'.heap.size v cs ∧ Below w.heap.size w w' := by
  have hlen := hsz.1
  have HSM := Lib.hid hsz.2
  have HRD := Lib.hid h
  clear h hsz
  obtain ⟨i0, hi, hz0, hz1, hz2⟩ := info_parts rowsInfo
  go_enter Tryd.func10, Tryd.ntmps10
  go_wp2_with (at_make; refine wpList_make_full _ rfl _ _ 22 rfl w.heap.size 29 i0 (.slice none 0 0) 1 Tryd.underlying22 hi hz0 hz1 _ _ _ _ cs.length rfl rfl ?hC ?hL ?hb2 ?hb3 ?hb4 ?_)
  case hC => rfl
  case hL => rfl
  case hb2 => rw [hz2]; omega
  case hb3 => unfold maxLen; omega
  case hb4 => exact Nat.le_refl _
  intro w1 ho1 hg1
  have hc1 : CellsV w1 w.heap.size (.slice (some ⟨w.heap.size, 0, none⟩) cs.length cs.length) (cs.take 0 ++ List.replicate (cs.length - 0) []) := by
    rw [List.take_zero, List.nil_append, Nat.sub_zero]
    refine cells_made ?_
    first | exact made_rows cs.length ▸ ho1 | exact made_rows' cs.length ▸ ho1
  have hB1 : Below w.heap.size w w1 := (Below.refl _ _).grown hg1 (Nat.le_refl _) (fun k hk => by cases hk)
  clear ho1 hg1
  go_wp2_with fail
  go_loopw [4] (fun v4 wr => ∃ k : Nat, k ≤ cs.length ∧ v4 = .int .i64 k ∧ CellsV wr w.heap.size (.slice (some ⟨w.heap.size, 0, none⟩) cs.length cs.length) (cs.take k ++ List.replicate (cs.length - k) []) ∧ Below w.heap.size w wr) (fun v4 _ => cs.length - (intOf v4).toNat)
  case atStart => exact ⟨0, Nat.zero_le _, rfl, hc1, hB1⟩
  case round =>
    clear hc1 hB1
    obtain ⟨k, hk, rfl, hc, hb⟩ := hrel
    by_cases hlt : k < cs.length
    · obtain ⟨g, old, hg, hgb, hgl, hold, hfr, hput⟩ := cells_put hc k (by simp; omega)
      simp only [Option.some.injEq, Addr.mk.injEq, and_true] at hg
      subst hg
      have hsz := hb.size
      obtain ⟨-, b, off, hrow⟩ := rdss_chg HRD.out (⟨hb.os, hb.tape, hb.output, hb.size, fun k hk _ => hb.block k hk⟩ : Chg 0 0 w wr) hB (.inr rfl)
      obtain ⟨ha, hbB, ra, rc, c1, rb, ro, hr, hrb⟩ := hrow k hlt
      subst ha
      have HE := Lib.hid (copy_rows cs k hlt)
      have HP := Lib.hid hput
      have hki : (k : Int) < (cs.length : Int) := by omega
      have hsm := HSM.out k
      have HR := Lib.hid hr
      clear hput hc hr hrow
      generalize cs.getD k [] = c at *
      go_wp2_with fail
      refine (toIntS_any c ra rb ro c.length rc wr rfl HR.out (by omega) hsm).mono ?_
      rintro e w2 ⟨v2, rfl, ho2, hb2⟩
      have hold2 := (hb2.cell (p := ⟨w.heap.size, k, none⟩) hgl).trans hold
      have hfr2 := (hb2.frozen (p := ⟨w.heap.size, k, none⟩) hgl).trans hfr
      have HO := Lib.hid ho2
      have HB2 := Lib.hid hb2
      clear ho2 hb2 c1 hold hfr
      obtain ⟨-, a2, cap2, b2, rfl, -, -⟩ := own_shape HO.out
      go_wp2_with fail
      go_roundw
      case rel =>
        have hcv := HP.out _ _ _ HB2.out HO.out
        rw [HE.out] at hcv
        exact ⟨k + 1, by omega, by go_num, hcv, (hb.trans (HB2.out.mono hb.size)).setCell (p := ⟨w.heap.size, k, none⟩) (Nat.le_refl _) _⟩
      case measure => simp [intOf]; omega
    · have hk2 : k = cs.length := by omega
      rw [hk2, Nat.sub_self, List.replicate_zero, List.append_nil, List.take_length] at hc
      clear hk2
      go_wp2_with fail
      go_ret
      exact ⟨_, rfl, oss_new hc, hb⟩
theorem eqIntS_rd (xs : List Int) (a a' : Option Addr) (B B' cap cap' : Nat) (w : World) (h : RdS w B a xs) (h' : RdS w B' a' xs) :
    Calls Tryd.prog 15 #[.slice a xs.length cap, .slice a' xs.length cap'] w fun e w' => e = .returned (.bool true) ∧ Same w w' := by
  obtain ⟨b, off, h, -⟩ := h
  obtain ⟨b', off', h', -⟩ := h'
  exact eqIntS_same xs a a' b off b' off' _ _ cap cap' w rfl rfl h h'
theorem RdS.drewN {w : World} {B : Nat} {a : Option Addr} {xs : List Int} (h : RdS w B a xs) (m : Nat) : RdS (w.drewN m) B a xs := by
  obtain ⟨b, off, h, h2⟩ := h
  exact ⟨b, off, h.drewN m, h2⟩
set_option maxHeartbeats 800000 in
theorem eqIntSS_rd (cs : List (List Int)) (a a' : Option Addr) (B B' cap cap' : Nat) (w : World) (h : RdSS w B a cs) (h' : RdSS w B' a' cs) :
    Calls Tryd.prog 12 #[.slice a cs.length cap, .slice a' cs.length cap'] w fun e w' => e = .returned (.bool true) ∧ Same w w' := by
  obtain ⟨hm, b, off, hc⟩ := h
  obtain ⟨-, b', off', hc'⟩ := h'
  unfold maxLen at hm
  have hne : ((cs.length : Int) != (cs.length : Int)) = false := by simp
  have HC := Lib.hid hc
  have HC' := Lib.hid hc'
  clear hc hc'
  go_enter Tryd.func12, Tryd.ntmps12
  go_wp2
  go_loopw [5] (fun v5 wr => ∃ k : Nat, k ≤ cs.length ∧ v5 = .int .i64 k ∧ Same w wr) (fun v5 _ => cs.length - (intOf v5).toNat)
  case atStart => exact ⟨0, Nat.zero_le _, rfl, Same.refl _⟩
  case round =>
    obtain ⟨k, hk, rfl, hs⟩ := hrel
    by_cases hlt : k < cs.length
    · obtain ⟨ha, hbl, ra, rc, c1, rb, ro, hr, hx⟩ := HC.out k hlt
      obtain ⟨ha', hbl', ra', rc', c2, rb', ro', hr', hx'⟩ := HC'.out k hlt
      subst ha ha'
      have c1 := (hs.cell ⟨b, off + k, none⟩).trans c1
      have c2 := (hs.cell ⟨b', off' + k, none⟩).trans c2
      have HR1 := Lib.hid (hr.same hs)
      have HR2 := Lib.hid (hr'.same hs)
      have hi : (k : Int) < (cs.length : Int) := by omega
      clear hr hr' hx hx' hbl hbl'
      generalize cs.getD k [] = c at c1 c2 HR1 HR2
      go_wp2_with fail
      go_quiet (first | (go_at_call 15; refine Calls.quiet_of (eqIntS_drew c ra ra' rb ro rb' ro' _ _ rc rc' _ rfl rfl (HR1.out.drewN _) (HR2.out.drewN _))))
      go_wp2
      go_roundw
      case rel => exact ⟨k + 1, by omega, by go_num, hs.drewN _⟩
      case measure => simp [intOf]; omega
    · go_wp2
      go_ret
      exact ⟨rfl, hs⟩
theorem markIntS_chg (xs : List Int) (a : Option Addr) (lo hi cap : Nat) (k : Int) (w : World) (ho : OI w lo hi (.slice a xs.length cap) xs) (hk0 : 0 ≤ k) (hk : k + xs.length ≤ 9223372036854775807) :
    Calls Tryd.prog 17 #[.slice a xs.length cap, .int .i64 k] w fun e w' => e = .returned (.int .i64 (k + xs.length)) ∧ OI w' lo hi (.slice a xs.length cap) (mkd k xs.length xs) ∧ Chg lo hi w w' := by
  obtain ⟨et, ho⟩ := ho
  refine (markIntS_only et xs a lo xs.length cap k w ho.1 hk0 hk).mono ?_
  rintro e w' ⟨rfl, h1, h2, h3⟩
  obtain ⟨-, a', c', b, hv, hx, hr⟩ := own_shape ho.1
  simp only [Value.slice.injEq] at hv
  obtain ⟨rfl, -, rfl⟩ := hv
  refine ⟨rfl, ⟨et, by rw [mkd_len _ _ _ (Nat.le_refl _)]; exact h1, ho.2⟩, h2.os, h2.tape, h2.output, h2.size, fun j _ hj => h3 j ?_⟩
  rcases hx with h | h
  · exact .inl h
  · have h4 := (ho.1.lt b (by rw [h]; rfl)).1
    have h5 := ho.2 b (by rw [h]; rfl)
    exact .inr ⟨b, h, by omega⟩
theorem offs_big (ls : List Nat) (h : ∀ i, ls.getD i 0 ≤ 1048576) : ∀ j, offs ls j ≤ 1048576 * j
  | 0 => Nat.le_refl _
  | j + 1 => by have := offs_big ls h j; have := h j; simp only [offs]; omega
set_option maxHeartbeats 800000 in
theorem markIntSS_chg (ls : List Nat) (cs : List (List Int)) (hls : Lens ls cs) (hsmall : ∀ i, ls.getD i 0 ≤ 1048576) (hlen : ls.length ≤ 1048576) (a : Option Addr) (lo hi cap : Nat) (q : Int) (hq0 : 0 ≤ q) (hq1 : q ≤ 4611686018427387904) (w : World) (ho : OSS w lo hi (.slice a cs.length cap) cs) :
    Calls Tryd.prog 16 #[.slice a cs.length cap, .int .i64 q] w fun e w' => e = .returned (.int .i64 (q + (offs ls ls.length : Nat))) ∧ (∃ cs', Mkd q ls ls.length cs' ∧ OSS w' lo hi (.slice a cs.length cap) cs') ∧ Chg lo hi w w' := by
  obtain ⟨-, hm, -⟩ := oss_row ho
  rw [hls.1] at ho ⊢
  have HO := Lib.hid (offs_big ls hsmall)
  have HS := Lib.hid hsmall
  have hst : Mkd q ls 0 cs := ⟨hls, fun i hi => by omega⟩
  clear hls hm hsmall
  go_enter Tryd.func16, Tryd.ntmps16
  go_wp2_with fail
  go_loopw [1, 5] (fun v1 v5 wr => ∃ j : Nat, ∃ cs' : List (List Int), j ≤ ls.length ∧ v5 = .int .i64 j ∧ v1 = .int .i64 (q + (offs ls j : Nat)) ∧ Mkd q ls j cs' ∧ OSS wr lo hi (.slice a ls.length cap) cs' ∧ Chg lo hi w wr) (fun _ v5 _ => ls.length - (intOf v5).toNat)
  case atStart => exact ⟨0, cs, Nat.zero_le _, rfl, by simp [offs], hst, ho, chg_refl _ _ _⟩
  case round =>
    obtain ⟨j, cs', hj, rfl, rfl, hmk, hw, hb⟩ := hrel
    clear ho hst
    by_cases hlt : j < ls.length
    · obtain ⟨-, -, hrows⟩ := oss_row hw
      obtain ⟨g, ra, rc, rfl, c1, hown, hset⟩ := hrows j (by have := hmk.1.1; omega)
      have hol := HO.out j
      have hos := HS.out j
      have hl := hmk.1.2 j
      have HN := Lib.hid (mkd_row q ls j cs' hmk hlt)
      have HT := Lib.hid hset
      have HE : Hid (offs ls (j + 1) = offs ls j + ls.getD j 0) := rfl
      clear hrows hmk hw hset
      rw [← hl] at HE hos
      generalize offs ls j = o at hol HN HE
      generalize ls.getD j 0 = lj at hl
      clear hl lj
      generalize cs'.getD j [] = c at c1 hown HT HN HE hos
      go_wp2_with fail
      refine (markIntS_only 3 c ra lo c.length rc _ wr hown.1 (by omega) (by omega)).mono ?_
      rintro e w1 ⟨rfl, ho1, hb1, hk1⟩
      have hnew := HT.out w1 (mkd (q + (o : Nat)) c.length c) (by rw [mkd_len _ _ _ (Nat.le_refl _)]; exact ho1) hk1
      have hC1 : Chg lo hi wr w1 := by
        obtain ⟨-, a', c', b', hv, hx, -⟩ := own_shape hown.1
        simp only [Value.slice.injEq] at hv
        obtain ⟨rfl, -, rfl⟩ := hv
        refine ⟨hb1.os, hb1.tape, hb1.output, hb1.size, fun i _ hi => hk1 i ?_⟩
        rcases hx with h | h
        · exact .inl h
        · have h4 := (hown.1.lt b' (by rw [h]; rfl)).1
          have h5 := hown.2 b' (by rw [h]; rfl)
          exact .inr ⟨b', h, by omega⟩
      clear ho1 hk1 hown HT c1
      go_wp2_with fail
      go_roundw
      case rel => exact ⟨j + 1, cs'.set j (mkd (q + (o : Nat)) c.length c), by omega, by go_num, by rw [HE.out]; simp only [Value.int.injEq, true_and]; omega, HN.out, hnew, hb.trans hC1⟩
      case measure => simp [intOf]; omega
    · have hj2 : j = ls.length := by omega
      subst hj2
      go_wp2_with fail
      go_ret
      exact ⟨rfl, ⟨_, hmk, hw⟩, hb⟩
theorem heldIntS_rd (xs : List Int) (k : Int) (a : Option Addr) (B n cap : Nat) (w : World) (hn : (mkd k xs.length xs).length = n) (h : RdS w B a (mkd k xs.length xs)) (hk0 : 0 ≤ k) (hk : k + xs.length ≤ 9223372036854775807) :
    Calls Tryd.prog 18 #[.slice a n cap, .int .i64 k] w fun e w' => e = .returned (.int .i64 (k + n)) ∧ w = w' := by
  obtain ⟨b, off, h, -⟩ := h
  have hl : (mkd k xs.length xs).length = xs.length := mkd_len _ _ _ (Nat.le_refl _)
  exact heldIntS_yes _ a b off n cap k w hn h hk0 (by rw [hl]; exact hk) (fun j hj => mkd_all k xs j (by rw [hl] at hj; exact hj))
theorem rds_max {w : World} {B : Nat} {a : Option Addr} {xs : List Int} (h : RdS w B a xs) : xs.length ≤ maxLen := by
  obtain ⟨b, off, h, -⟩ := h
  exact h.1
theorem toIntS_rd (xs : List Int) (a : Option Addr) (cap B : Nat) (w : World) (h : RdS w B a xs) (hB : B ≤ w.heap.size) (hsz : xs.length ≤ 1048576) :
    Calls Tryd.prog 42 #[.slice a xs.length cap] w fun e w' => ∃ v, e = .returned v ∧ OI w' w.heap.size w'.heap.size v xs ∧ Below w.heap.size w w' := by
  obtain ⟨b, off, h, hb⟩ := h
  refine (toIntS_any xs a b off xs.length cap w rfl h (by omega) hsz).mono ?_
  rintro e w' ⟨v, rfl, ho, hb⟩
  exact ⟨v, rfl, oi_new ho, hb⟩
theorem small_lens {cs : List (List Int)} (h : SmallSS cs) : ∃ ls : List Nat, Lens ls cs ∧ (∀ i, ls.getD i 0 ≤ 1048576) ∧ ls.length ≤ 1048576 :=
  ⟨cs.map List.length, lens_self cs, fun i => by rw [← (lens_self cs).2 i]; exact h.2 i, by simpa using h.1⟩
theorem oss_rds {w : World} {lo hi cap : Nat} {a : Option Addr} {cs : List (List Int)} (h : OSS w lo hi (.slice a cs.length cap) cs) : RdSS w hi a cs := (oss_rd h).2
theorem oss_rds2 {w : World} {lo hi n cap : Nat} {a : Option Addr} {cs : List (List Int)} (h : OSS w lo hi (.slice a n cap) cs) : RdSS w hi a cs := (oss_rd h).2
theorem oi_rds2 {w : World} {lo hi n cap : Nat} {a : Option Addr} {xs : List Int} (h : OI w lo hi (.slice a n cap) xs) : RdS w hi a xs := by
  obtain ⟨a', c', b, hv, -, hr⟩ := oi_shape h
  simp only [Value.slice.injEq] at hv
  obtain ⟨rfl, -, rfl⟩ := hv
  exact hr
theorem oi_rds {w : World} {lo hi cap : Nat} {a : Option Addr} {xs : List Int} (h : OI w lo hi (.slice a xs.length cap) xs) : RdS w hi a xs := oi_rds2 h
end Go.Proofs.YtncpnkcdjfohgaaDoor
