import Derived.Test.YtgpikaolgalpbaaGp
namespace Go.Proofs.Ytgpikaolgalpbaa
open Go.RowKit
set_option maxRecDepth 4000
theorem bq_anti : ∀ n, n < 5 → ∀ j, j < 4 * n + 1 → bq n ((j + 4 * n) % (8 * n)) = ((sqn n : Nat) : Int) - 1 - bq n j := by decide +kernel
theorem bq_up : ∀ n, n < 5 → ∀ j, j < 4 * n → bq n j < bq n (j + 1) := by decide +kernel
theorem oppB_at {m : Nat} {xs : List Int} (h : oppB m xs = true) (k : Nat) (hk : k < 8 * m) : oppo m xs k = true := by
  simp only [oppB, List.all_eq_true, List.mem_range] at h; exact h k hk
/-- The first opposite edge along the border of opposite labels has its lesser point first: it is in the first half. -/
theorem opp_sorted {n : Nat} {xs : List Int} (h2 : n ≤ 4) (hO : oppB n xs = true) {k : Nat} (hk : k < 8 * n) (hno : ((sqPs n).take k).find? (sumB xs 0) = none) (hy : sumB xs 0 ((sqPs n).getD k (0, 0)) = true) : ((sqPs n).getD k (0, 0)).1 < ((sqPs n).getD k (0, 0)).2 := by
  rw [sqPs_at n k hk] at hy ⊢
  rcases Nat.lt_or_ge k (4 * n) with hlt | hge
  · have e : (k + 1) % (8 * n) = k + 1 := Nat.mod_eq_of_lt (by omega)
    rw [e]
    exact bq_up n (by omega) k hlt
  · exfalso
    obtain ⟨j, rfl⟩ : ∃ j, k = j + 4 * n := ⟨k - 4 * n, by omega⟩
    have hj : j < 4 * n := by omega
    have e1 : bq n (j + 4 * n) = ((sqn n : Nat) : Int) - 1 - bq n j := by
      have := bq_anti n (by omega) j (by omega)
      rwa [Nat.mod_eq_of_lt (by omega)] at this
    have e2 : bq n ((j + 4 * n + 1) % (8 * n)) = ((sqn n : Nat) : Int) - 1 - bq n (j + 1) := by
      have := bq_anti n (by omega) (j + 1) (by omega)
      rwa [show j + 1 + 4 * n = j + 4 * n + 1 by omega] at this
    have o1 := oppB_at hO j (by omega)
    have o2 := oppB_at hO (j + 1) (by omega)
    obtain ⟨b0, b1⟩ := bq_lt n (by omega) j (by omega)
    obtain ⟨b2, b3⟩ := bq_lt n (by omega) (j + 1) (by omega)
    have hs : sumB xs 0 ((sqPs n).getD j (0, 0)) = true := by
      have e : (j + 1) % (8 * n) = j + 1 := Nat.mod_eq_of_lt (by omega)
      rw [sqPs_at n j (by omega), e]
      rw [e1, e2] at hy
      simp only [sumB, oppo, beq_iff_eq] at hy o1 o2 ⊢
      rw [show (((sqn n : Nat) : Int) - 1 - bq n j).toNat = sqn n - 1 - (bq n j).toNat by omega, show (((sqn n : Nat) : Int) - 1 - bq n (j + 1)).toNat = sqn n - 1 - (bq n (j + 1)).toNat by omega] at hy
      omega
    have hjl : j < (sqPs n).length := by rw [sqPs_len]; omega
    have hmem : (sqPs n).getD j (0, 0) ∈ (sqPs n).take (j + 4 * n) := by
      rw [List.getD_eq_getElem?_getD, List.getElem?_eq_getElem hjl]
      exact List.mem_take_iff_getElem.2 ⟨j, by omega, rfl⟩
    have := List.find?_eq_none.1 hno _ hmem
    exact this hs
theorem filter_find {α : Type} {f : α → Bool} {l : List α} {p : α} (h : l.find? f = some p) : ∃ r, l.filter f = p :: r := by
  have e : (l.filter f).head? = some p := by rw [List.head?_filter]; exact h
  cases hl : l.filter f with
  | nil => rw [hl] at e; cases e
  | cons a r => rw [hl] at e; simp only [List.head?_cons, Option.some.injEq] at e; exact ⟨r, by rw [e]⟩
theorem filter_none {α : Type} {f : α → Bool} {l : List α} (h : l.find? f = none) : l.filter f = [] := by
  rw [List.filter_eq_nil_iff]
  exact fun q hq => List.find?_eq_none.1 h q hq
theorem edge_ff {n : Nat} {xs : List Int} (hL : sqB n xs = true) {p : Int × Int} (hp : p ∈ (sqPs n).filter (sumB xs 3)) : ffG (sqC n).length (cpr (sqC n)) (sumB xs 3) p = (edgeP xs n (swW n xs p)).isSome := by
  obtain ⟨pre, l, e1, -, e3⟩ := sq_edge hL hp
  have hw : (swW n xs p).1 = pre ++ [l] := e1
  cases hf : (swW n xs p).2.2
  · have : ffG (sqC n).length (cpr (sqC n)) (sumB xs 3) p = false := hf
    rw [this, edgeP, hf]; rfl
  · have : ffG (sqC n).length (cpr (sqC n)) (sumB xs 3) p = true := hf
    obtain ⟨e, rest, he⟩ := e3 hf
    rw [this, edgeP, hf, hw, lastG_app, he]; rfl
set_option maxHeartbeats 3200000 in
theorem specFindOpposite (n : Int) (xs : List Int) (a : Option Addr) (b len cap : Nat) (w : World) (hn : xs.length = len) (hsm : len ≤ 1048576) (h : Rd w a b 0 xs) (hb0 : len = 0 ∨ b < w.heap.size) :
    Calls Try.prog 40 #[.int .i64 n, .slice a len cap] w (Gives w 3 (valFO n xs) (okFO n xs)) := by
  by_cases hr : 1 ≤ n ∧ n ≤ 4
  · obtain ⟨h1, h2⟩ := hr
    have HM := Lib.hid (opIs_any n xs a b len cap w hn hsm h hb0)
    cases hO : okOpp n xs
    · have H1 := Lib.hid (fo_no (n := n) (xs := xs) (by simpa [okOpp] using hO))
      rw [hO] at HM
      clear hO h hn hb0
      go_enter Try.func40, Try.ntmps40
      go_wp2_with fail
      refine (opReach_yes n h1 h2 _).mono ?_
      rintro e w' ⟨rfl, rfl⟩
      go_wp2_with fail
      refine HM.out.mono ?_
      rintro e w1 ⟨rfl, hb1⟩
      go_wp2_with fail
      go_ret2
      exact gives_nil' H1.out hb1
    · have hO2 := hO
      simp only [okOpp, Bool.and_eq_true] at hO2
      obtain ⟨hL, hOB⟩ := hO2
      obtain ⟨n, rfl, h1, h2, hl, hA⟩ := sqB_nat hL
      rw [Int.toNat_natCast] at hOB
      rw [hO] at HM
      have HYES := Lib.hid (fo_yes hL hOB)
      have HR := Lib.hid (fun W (hB : Below w.heap.size w W) => h.later hn hb0 hB)
      have HB0 := Lib.hid hb0
      have HNX := Lib.hid hn
      have HAA := Lib.hid (fun k (hk : k < len) => all4_at hA k (by omega))
      have HBE := Lib.hid (fun q (hq : q < 8 * n) => (by have := bq_lt n (by omega) q hq; omega : 0 ≤ bq n q ∧ bq n q < (len : Int)))
      have hsl := sqn_le n h2
      have hlb : len ≤ 81 := by omega
      have HPA := Lib.hid (fun k hk => sqPs_at n k hk)
      have HSO := Lib.hid (fun k hk hno hy => opp_sorted (n := n) (xs := xs) h2 hOB (k := k) hk hno hy)
      have HFS := Lib.hid (fun k (hk : k < 8 * n) h => find_step (0, 0) (sqPs n) (sumB xs 0) k (by rw [sqPs_len]; exact hk) h)
      have HEND : Hid ((sqPs n).take (8 * n) = sqPs n) := Lib.hid (by rw [← sqPs_len, List.take_length])
      have HFB := Lib.hid (fun p (h : (sqPs n).find? (sumB xs 0) = some p) => (by obtain ⟨r, e⟩ := filter_find h; exact foV_border e : foV n xs = some p))
      have HFN := Lib.hid (fun (h : (sqPs n).find? (sumB xs 0) = none) p k => foV_walk (p := p) (filter_none h) k)
      have HF0 := Lib.hid (fun (h : (sqPs n).find? (sumB xs 0) = none) k => foV_none (filter_none h) k)
      have HDO := Lib.hid (fun W (hB : Below w.heap.size w W) => opDoors_any n xs a b len cap W hn (h.later hn hb0 hB) (by have := hB.size; omega) hL)
      have HBL : Hid (outS xs 3 (sqPs n) = ((sqPs n).filter (sumB xs 3)).map lst) := Lib.hid rfl
      have HFS2 := Lib.hid (fun k hk h => find_step (0, 0) ((sqPs n).filter (sumB xs 3)) (ffG (sqC n).length (cpr (sqC n)) (sumB xs 3)) k hk h)
      have hbl : ((sqPs n).filter (sumB xs 3)).length ≤ 32 := by have := List.length_filter_le (sumB xs 3) (sqPs n); rw [sqPs_len] at this; omega
      have HLA := Lib.hid (lst_at ((sqPs n).filter (sumB xs 3)))
      have HML : Hid ((((sqPs n).filter (sumB xs 3)).map lst).length = ((sqPs n).filter (sumB xs 3)).length) := Lib.hid (by simp)
      have HMEM := Lib.hid (fun k (hk : k < ((sqPs n).filter (sumB xs 3)).length) => find_mem ((sqPs n).filter (sumB xs 3)) (0, 0) k hk)
      have HFF := Lib.hid (fun p hp => edge_ff (p := p) hL hp)
      have HW := Lib.hid (fun (p : Int × Int) w' bd (hb : Below w.heap.size w w') (hp : p ∈ (sqPs n).filter (sumB xs 3)) (hd : Rd w' (some ⟨bd, 0, none⟩) bd 0 [lsI p.1 p.2, gtI p.1 p.2]) hbd => opWalk_any n xs a b len cap (some ⟨bd, 0, none⟩) bd 2 (lsI p.1 p.2) (gtI p.1 p.2) p w' hn (h.later hn hb0 hb) (by have := hb.size; omega) hL hd hbd (inner_lt (sq_goes hL hp).1.1) hp rfl)
      clear hL h hl hn hA hb0 hO hOB hsl
      go_enter Try.func40, Try.ntmps40
      go_wp2_with fail
      refine (opReach_yes (n : Int) (by omega) (by omega) _).mono ?_
      rintro e w' ⟨rfl, rfl⟩
      go_wp2_with fail
      refine HM.out.mono ?_
      rintro e w0 ⟨rfl, hb0⟩
      go_wp2_with fail
      refine (opBorder_any n h1 h2 _).mono ?_
      rintro e w1 ⟨v, rfl, ho1, hb1⟩
      obtain ⟨-, ba, bc, bb, rfl, hx, hrd⟩ := own_shape ho1
      have HBLT := Lib.hid (hx.imp_right fun h => own_lt ho1 bb (by rw [h]; rfl))
      have HRD := Lib.hid hrd
      have HBO := Lib.hid (bol_len n (8 * n))
      have hB1 := bnext hb0 hb1
      clear hrd hx ho1 hb0 hb1 HM
      rw [HBO.out]
      go_wp2_with fail
      go_loopw [27] (fun v27 wr => ∃ k : Nat, k ≤ 8 * n ∧ v27 = .int .i64 k ∧ Hid (((sqPs n).take k).find? (sumB xs 0) = none) ∧ Below w1.heap.size w1 wr) (fun v27 _ => 8 * n - (intOf v27).toNat)
      case atStart => exact ⟨0, Nat.zero_le _, rfl, Lib.hid rfl, Below.refl _ _⟩
      case round =>
        obtain ⟨k, hk, rfl, hf, hb⟩ := hrel
        by_cases hlt : k < 8 * n
        · have hr1 := HRD.out.below hb HBLT.out
          obtain ⟨rfl, c0⟩ := hr1.2 k (by rw [HBO.out]; exact hlt)
          have hmod : (k + 1) % (8 * n) < 8 * n := Nat.mod_lt _ (by omega)
          have c1 := (hr1.2 ((k + 1) % (8 * n)) (by rw [HBO.out]; exact hmod)).2
          rw [bol_at _ _ _ hlt, Nat.zero_add] at c0
          rw [bol_at _ _ _ hmod, Nat.zero_add] at c1
          obtain ⟨i0, i1⟩ := HBE.out k hlt
          obtain ⟨j0, j1⟩ := HBE.out _ hmod
          have hrem := rem_nat k (8 * n)
          have hmi2 : ((k : Int) + 1) % (8 * (n : Int)) < 8 * (n : Int) := Int.emod_lt_of_pos _ (by omega)
          have hmi3 : 0 ≤ ((k : Int) + 1) % (8 * (n : Int)) := Int.emod_nonneg _ (by omega)
          have hki : (k : Int) < ((8 * n : Nat) : Int) := by omega
          have hmi : (((k + 1) % (8 * n) : Nat) : Int) < ((8 * n : Nat) : Int) := by omega
          have HS := HFS.out k hlt hf.out
          have HSK := HSO.out k hlt hf.out
          rw [HPA.out k hlt] at HS HSK
          have HS := Lib.hid HS
          have HSK := Lib.hid HSK
          have HW1 := Lib.hid (bnext hB1 hb)
          clear hr1 hf
          generalize bq n k = i at c0 i0 i1 HS HSK
          generalize bq n ((k + 1) % (8 * n)) = j at c1 j0 j1 HS HSK
          obtain ⟨i, rfl⟩ := Int.eq_ofNat_of_zero_le i0
          obtain ⟨j, rfl⟩ := Int.eq_ofNat_of_zero_le j0
          obtain ⟨wi, hwi⟩ : ∃ wi : World, wi = wr := ⟨_, rfl⟩
          subst hwi
          have hrw := HR.out wi HW1.out
          obtain ⟨rfl, ca⟩ := hrw.2 i (by have := HNX.out; omega)
          have cb := (hrw.2 j (by have := HNX.out; omega)).2
          rw [Nat.zero_add] at ca cb
          have A1 := HAA.out i (by omega)
          have A2 := HAA.out j (by omega)
          have HSM : Hid (sumB xs 0 ((i : Int), (j : Int)) = (xs.getD i 0 + xs.getD j 0 == 0)) := Lib.hid rfl
          clear hrw
          generalize xs.getD i 0 = x at ca A1 HSM
          generalize xs.getD j 0 = y at cb A2 HSM
          go_wp2_with fail
          go_quiet (fail)
          have hbq := sub_drewN hb nq
          clear ca cb c0 c1 hb
          generalize wi.drewN nq = w8 at hbq ⊢
          cases hX : (x + y == 0)
          · have H0 := Lib.hid (HS.out.2 (by rw [HSM.out]; exact hX))
            clear hX
            go_wp2_with fail
            go_roundw
            case rel => exact ⟨k + 1, by omega, by go_num, H0, hbq⟩
            case measure => simp [intOf]; omega
          · have hy : sumB xs 0 ((i : Int), (j : Int)) = true := by rw [HSM.out]; exact hX
            have hlt2 : (i : Int) < (j : Int) := HSK.out hy
            have hin : lsI (i : Int) j = i ∧ gtI (i : Int) j = j := by
              have e : (lsI (i : Int) j, gtI (i : Int) j) = ((i : Int), (j : Int)) := inner_sorted (p := ((i : Int), (j : Int))) hlt2
              simp only [Prod.mk.injEq] at e
              exact e
            have HIN := Lib.hid hin
            have H1 : Hid (valFO (n : Int) xs = [(i : Int), (j : Int)] ∧ okFO (n : Int) xs = true) := Lib.hid (by
              have e := HFB.out _ (HS.out.1 hy)
              refine ⟨by rw [HYES.out.1, e]; rfl, by rw [HYES.out.2, e]; rfl⟩)
            clear hX hy hin hlt2
            have hz8 := (bnext hB1 hbq).size
            have hba := balloc (bnext hB1 hbq) (.cells #[.int .i64 i, .int .i64 j] 3)
            have hga := heap_alloc_new w8 (.cells #[.int .i64 i, .int .i64 j] 3)
            go_wp2_with fail
            refine (doInner_any i j _).mono ?_
            rintro e w9 ⟨rfl, rfl⟩
            rw [HIN.out.1, HIN.out.2]
            go_wp2_with fail
            go_ret2
            exact gives_list H1.out (own_block (xs := [(i : Int), (j : Int)]) (cur := #[.int .i64 i, .int .i64 j]) hz8 hga rfl rfl (by simp [maxLen])) hba
        · have hnone : (sqPs n).find? (sumB xs 0) = none := by
            have e := hf.out
            rwa [show k = 8 * n by omega, HEND.out] at e
          have HWV := Lib.hid (HFN.out hnone)
          have HNV := Lib.hid (HF0.out hnone)
          have hB2 := bnext hB1 hb
          clear hf hnone
          obtain ⟨wk, hwk⟩ : ∃ wk : World, wk = wr := ⟨_, rfl⟩
          subst hwk
          go_wp2_with fail
          refine (HDO.out _ hB2).mono ?_
          rintro e w2 ⟨v, rfl, hc2, hb2⟩
          rw [HBL.out] at hc2
          obtain ⟨sa, sm, sc, rfl⟩ := cells_shape hc2
          obtain ⟨rfl, -, hrows⟩ := cells_row hc2
          have HRW := Lib.hid hrows
          have hb2 := bnext hB2 hb2
          have hs2 := hb2.size
          clear hrows hc2 HDO hB2 hb hB1
          rw [HML.out]
          generalize (sqPs n).filter (sumB xs 3) = ps at HWV HNV HFS2 hbl HLA HML HMEM HFF HW HRW HBL ⊢
          go_wp2_with fail
          go_loopw [58] (fun v58 wr => ∃ k : Nat, k ≤ ps.length ∧ v58 = .int .i64 k ∧ Hid ((ps.take k).find? (ffG (sqC n).length (cpr (sqC n)) (sumB xs 3)) = none) ∧ Below w2.heap.size w2 wr) (fun v58 _ => ps.length - (intOf v58).toNat)
          case atStart => exact ⟨0, Nat.zero_le _, rfl, Lib.hid (by simp), Below.refl _ _⟩
          case round =>
            obtain ⟨k, hk, rfl, hf, hb⟩ := hrel
            by_cases hlt : k < ps.length
            · obtain ⟨g, qa, qc, qb, rfl, -, hgl, c, hqx, hqr, -, -⟩ := HRW.out k (by rw [HML.out]; exact hlt)
              rw [HLA.out k hlt] at c hqr
              have c := (hb.cell (p := ⟨g, k, none⟩) hgl).trans c
              have hqr := hqr.below hb (hqx.imp_right fun h => h.2.1)
              have HS := Lib.hid (HFS2.out k hlt hf.out)
              have HMK := Lib.hid (HMEM.out k hlt)
              have HFK := Lib.hid (HFF.out _ (HMEM.out k hlt))
              have hki : (k : Int) < (ps.length : Int) := by omega
              have hz := hb.size
              have hqb : qb < wr.heap.size := by
                rcases hqx with h | ⟨-, h3, -⟩
                · have := (hqr.2 0 (by simp)).1
                  rw [h] at this
                  cases this
                · omega
              clear hqx hf
              generalize ps.getD k (0, 0) = p at c hqr HS HMK HFK
              obtain ⟨p1, p2⟩ := p
              simp only at c hqr
              obtain ⟨rfl, c0⟩ := hqr.2 0 (by simp)
              have c1 := (hqr.2 1 (by simp)).2
              rw [Nat.zero_add] at c0 c1
              simp only [List.getD_cons_zero, List.getD_cons_succ] at c0 c1
              obtain ⟨wi, hwi⟩ : ∃ wi : World, wi = wr := ⟨_, rfl⟩
              subst hwi
              clear hqr
              go_wp2_with fail
              refine wp_region_mix (fun w' => Below wi.heap.size wi w') [8, 9] [0, 1, 2, 3, 4, 5, 6, 7, 8, 9, 10, 11, 12, 13, 14] (by kernel_rfl) (by kernel_rfl) (fun _ _ d _ _ h => by cases d <;> exact h) (by kernel_rfl) rfl (Below.refl _ _).drew ?_
              refine mix_take 0 _ ?_ rfl rfl rfl (some 63) rfl (fun w' hw' => ?hv0) ?_
              case hv0 =>
                go_simp
                with_reducible rfl
              simp only [Act.put, List.setIfInBounds_toArray, List.set_cons_zero, List.set_cons_succ]
              refine mix_take 1 _ ?_ rfl rfl rfl (some 64) rfl (fun w' hw' => ?hv1) ?_
              case hv1 =>
                go_simp
                with_reducible rfl
              simp only [Act.put, List.setIfInBounds_toArray, List.set_cons_zero, List.set_cons_succ]
              refine mix_take 2 _ ?_ rfl rfl rfl (some 65) rfl (fun w' hw' => ?hv2) ?_
              case hv2 =>
                go_simp
                with_reducible rfl
              simp only [Act.put, List.setIfInBounds_toArray, List.set_cons_zero, List.set_cons_succ]
              refine mix_take 3 _ ?_ rfl rfl rfl (some 66) rfl (fun w' hw' => ?hv3) ?_
              case hv3 =>
                go_simp
                with_reducible rfl
              simp only [Act.put, List.setIfInBounds_toArray, List.set_cons_zero, List.set_cons_succ]
              refine mix_take 4 _ ?_ rfl rfl rfl (some 67) rfl (fun w' hw' => ?hv4) ?_
              case hv4 =>
                have c0 := (Below.cell (p := ⟨qb, 0, none⟩) hw' hqb).trans c0
                have c1 := (Below.cell (p := ⟨qb, 1, none⟩) hw' hqb).trans c1
                go_simp
                with_reducible rfl
              simp only [Act.put, List.setIfInBounds_toArray, List.set_cons_zero, List.set_cons_succ]
              refine mix_take 5 _ ?_ rfl rfl rfl (some 68) rfl (fun w' hw' => ?hv5) ?_
              case hv5 =>
                go_simp
                with_reducible rfl
              simp only [Act.put, List.setIfInBounds_toArray, List.set_cons_zero, List.set_cons_succ]
              refine mix_take 6 _ ?_ rfl rfl rfl (some 69) rfl (fun w' hw' => ?hv6) ?_
              case hv6 =>
                go_simp
                with_reducible rfl
              simp only [Act.put, List.setIfInBounds_toArray, List.set_cons_zero, List.set_cons_succ]
              refine mix_take 7 _ ?_ rfl rfl rfl (some 70) rfl (fun w' hw' => ?hv7) ?_
              case hv7 =>
                have c0 := (Below.cell (p := ⟨qb, 0, none⟩) hw' hqb).trans c0
                have c1 := (Below.cell (p := ⟨qb, 1, none⟩) hw' hqb).trans c1
                go_simp
                with_reducible rfl
              simp only [Act.put, List.setIfInBounds_toArray, List.set_cons_zero, List.set_cons_succ]
              refine mix_call 8 _ rfl rfl rfl 74 #[.int .i64 p1, .int .i64 p2] (some 71) rfl ?hr8 ?_
              case hr8 => go_simp
              refine (doInner_any p1 p2 _).mono ?_
              rintro e w3 ⟨rfl, rfl⟩
              have hB3 : Below wi.heap.size wi (wi.drew.alloc (.cells #[.int .i64 (lsI p1 p2), .int .i64 (gtI p1 p2)] 3)) := (Below.refl _ _).drew.alloc (Nat.le_refl _) _
              have hg3 := heap_alloc_new wi.drew (.cells #[.int .i64 (lsI p1 p2), .int .i64 (gtI p1 p2)] 3)
              have hs3 : wi.drew.heap.size < (wi.drew.alloc (.cells #[.int .i64 (lsI p1 p2), .int .i64 (gtI p1 p2)] 3)).heap.size := by simp
              generalize wi.drew.alloc (.cells #[.int .i64 (lsI p1 p2), .int .i64 (gtI p1 p2)] 3) = w4 at hB3 hg3 hs3 ⊢
              have HWK := Lib.hid (HW.out (p1, p2) w4 wi.drew.heap.size (bnext (bnext hb2 hb) hB3) HMK.out (rd2 hg3) hs3)
              refine ⟨_, rfl, hB3, ?_⟩
              simp only [Act.put, List.setIfInBounds_toArray, List.set_cons_zero, List.set_cons_succ]
              refine mix_call 9 _ rfl rfl rfl 75 #[.int .i64 n, .slice a len cap, .slice (some ⟨wi.drew.heap.size, 0, none⟩) 2 2] (some 72) rfl ?hr9 ?_
              case hr9 => go_simp
              refine HWK.out.mono ?_
              rintro e w5 ⟨v1, v2, rfl, -, ho2, -, hb5⟩
              obtain ⟨-, ea, ec, eb, rfl, -, -⟩ := own_shape ho2
              have hB5 := bnext hB3 hb5
              refine ⟨_, rfl, hB5, ?_⟩
              simp only [Act.put, List.setIfInBounds_toArray, List.set_cons_zero, List.set_cons_succ]
              refine mix_take 10 _ ?_ rfl rfl rfl (some 62) rfl (fun w' hw' => ?hv10) ?_
              case hv10 =>
                go_simp
                with_reducible rfl
              simp only [Act.put, List.setIfInBounds_toArray, List.set_cons_zero, List.set_cons_succ]
              refine mix_take 11 _ ?_ rfl rfl rfl (some 73) rfl (fun w' hw' => ?hv11) ?_
              case hv11 =>
                go_simp
                with_reducible rfl
              simp only [Act.put, List.setIfInBounds_toArray, List.set_cons_zero, List.set_cons_succ]
              refine mix_take 12 _ ?_ rfl rfl rfl (some 74) rfl (fun w' hw' => ?hv12) ?_
              case hv12 =>
                go_simp
                with_reducible rfl
              simp only [Act.put, List.setIfInBounds_toArray, List.set_cons_zero, List.set_cons_succ]
              refine mix_take 13 _ ?_ rfl rfl rfl (some 12) rfl (fun w' hw' => ?hv13) ?_
              case hv13 =>
                go_simp
                with_reducible rfl
              simp only [Act.put, List.setIfInBounds_toArray, List.set_cons_zero, List.set_cons_succ]
              refine mix_take 14 _ ?_ rfl rfl rfl (some 13) rfl (fun w' hw' => ?hv14) ?_
              case hv14 =>
                go_simp
                with_reducible rfl
              simp only [Act.put, List.setIfInBounds_toArray, List.set_cons_zero, List.set_cons_succ]
              refine mix_done ?_
              have hB8 := hb.trans (hB5.mono hz)
              have hs4 : wi.heap.size ≤ w4.heap.size := hB3.size
              clear hB3 hg3 hs3 hB5 hb5 hb c c0 c1
              have HWV1 := Lib.hid (HWV.out (p1, p2))
              generalize hE : edgeP xs n (swW n xs (p1, p2)) = O at HFK HWV1 ho2 ⊢
              have HFK2 := HFK
              clear hE
              cases O with
              | none =>
                have e := Lib.hid (HS.out.2 (by rw [HFK.out]; rfl))
                rw [show edL none = [] from rfl, List.length_nil] at *
                go_wp2_with fail
                go_roundw
                case rel => exact ⟨k + 1, by omega, by go_num, e, hB8⟩
                case measure => simp [intOf]; omega
              | some pe =>
                obtain ⟨x, y⟩ := pe
                have H1 : Hid (valFO (n : Int) xs = [x, y] ∧ okFO (n : Int) xs = true) := Lib.hid (by
                  have e := HWV1.out (HS.out.1 (by rw [HFK.out]; rfl))
                  refine ⟨by rw [HYES.out.1, e]; rfl, by rw [HYES.out.2, e]; rfl⟩)
                rw [show edL (some (x, y)) = [x, y] from rfl] at ho2 ⊢
                rw [show ([x, y] : List Int).length = 2 from rfl] at ho2 ⊢
                have hle : w.heap.size ≤ w4.heap.size := by omega
                go_wp2_with fail
                go_ret2
                exact gives_list (M := [x, y]) H1.out (own_base ho2 hle) (bnext hb2 hB8)
            · have e : Hid (ps.find? (ffG (sqC n).length (cpr (sqC n)) (sumB xs 3)) = none) := by
                have := hf.out
                rwa [show k = ps.length by omega, List.take_length] at this
              have H1 : Hid (valFO (n : Int) xs = [] ∧ okFO (n : Int) xs = false) := Lib.hid (by
                have e2 := HNV.out e.out
                refine ⟨by rw [HYES.out.1, e2]; rfl, by rw [HYES.out.2, e2]; rfl⟩)
              go_wp2_with fail
              go_ret2
              exact gives_nil' H1.out (bnext hb2 hb)
  · have hL : sqB n xs = false := sqB_reach hr
    have H1 := Lib.hid (fo_no (n := n) (xs := xs) (by simp [hL]))
    clear h hL
    go_enter Try.func40, Try.ntmps40
    go_wp2_with fail
    refine (opReach_no n hr _).mono ?_
    rintro e w' ⟨rfl, rfl⟩
    go_wp2_with fail
    go_ret2
    exact gives_nil' H1.out (Below.refl _ _)
end Go.Proofs.Ytgpikaolgalpbaa
