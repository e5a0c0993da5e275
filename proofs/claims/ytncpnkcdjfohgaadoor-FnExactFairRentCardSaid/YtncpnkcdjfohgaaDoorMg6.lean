import Derived.RegionTactic
import Derived.Test.YtncpnkcdjfohgaaDoorMg3
import Derived.Test.YtncpnkcdjfohgaaDoorMt
import Derived.Test.YtncpnkcdjfohgaaDoorMf4
import Derived.Test.YtncpnkcdjfohgaaDoorMd6
namespace Go.Proofs.YtncpnkcdjfohgaaDoor
open Go.RowKit
set_option maxRecDepth 4000
set_option maxHeartbeats 6400000 in
theorem leastEnvy_flat (n : Nat) (h1 : 1 ≤ n) (h2 : n ≤ 8) (ts : List (List Int)) (hy : rowsB 3 20 ts = true) (j : Nat) (hj : IsB (dlF (rnW ts n)) (6 * Pr.cnt n) j) (w : World) (hv : ShV w) :
    Calls Tryd.prog 86 #[.agg #[.int .i64 n], .agg (flA n (rw9 ts)), .func (.func 76) #[] #[]] w fun e w' => e = .returned (.agg (dA (j / 6) (j % 6) (-(dlF (rnW ts n) j)))) ∧ Below w.heap.size w w' := by
  have hcn := (Pr.cnt_le n (by omega)).1
  have HI := Lib.hid (fun k hk w => idxAll k hk w)
  have HO := Lib.hid (fun i hi w => flatOffers_any n i h1 h2 hi (rw9 ts) (rw9_bd hy) (rn9 ts n i) (fun q _ => rfl) w)
  have HE : Hid (∀ i k, i < Pr.cnt n → k < 6 → ∀ w : World, Calls Tryd.prog 57 #[.agg (arrF 9 (rn9 ts n i)), .agg (shA k)] w fun e w' => e = .returned (.int .i64 (envK (rnW ts n i) k)) ∧ Below w.heap.size w w') := Lib.hid (fun i k hi hk w => offEnvy_any (rn9 ts n i) (rn9_bd hy n i h2 hi) k hk _ (SN_congr (fun p _ q hq => (rn9_at ts n i p q hq).symm) (fun p hp => ⟨rfl, shS_lt k p hk hp⟩) (envK_mx _ k)) w)
  have HEB : Hid (∀ i k, i < Pr.cnt n → k < 6 → envK (rnW ts n i) k ≤ 2000) := Lib.hid (fun i k hi hk => envK_le (rnts_rows hy n i h2 hi).bd k hk)
  clear hy
  have HJ := Lib.hid hj
  have HV := Lib.hid hv
  obtain ⟨hh0, hh1, hh2, hh3⟩ := four_heap w (.cells #[.int .i64 n] 50) (.cells (flA n (rw9 ts)) 72) (.cells zeroD 60) (.cells zeroD 60)
  have hP0 : HPd 72 (flA n (rw9 ts)) n w.heap.size zeroD _ := ⟨hh0, hh1, hh2, hh3⟩
  have hb0 := balloc (balloc (balloc (balloc (Below.refl w.heap.size w) (.cells #[.int .i64 n] 50)) (.cells (flA n (rw9 ts)) 72)) (.cells zeroD 60)) (.cells zeroD 60)
  clear hj hv hh0 hh1 hh2
  go_enter Tryd.func86, Tryd.ntmps86
  go_wp2_with (first | ((with_reducible refine build_blk maxD _ run_build_max rfl _ rfl ?_ ?_); exact rfl; simp only [Act.put, List.setIfInBounds_toArray, List.set_cons_zero, List.set_cons_succ]) | ((with_reducible refine alloc_blk zeroD run_alloc_deal rfl rfl ?_); simp only [World.size_alloc, Act.put, List.setIfInBounds_toArray, List.set_cons_zero, List.set_cons_succ]) | ((with_reducible refine store_blk blkDeal rfl _ _ rfl (w.heap.size + 3) maxD zeroD ?_ ?_ hh3 zeroD_size rfl (by simp [maxD, Value.oneCell']) (w.heap.size + 3) (Nat.le_refl _) ?_); exact rfl; exact rfl; intro w4 hg4 hb4 hk4 hz4; have hP4 := hP0.set hk4 hg4; have hB4 : Below w.heap.size w w4 := hb0.trans (hb4.mono (by omega)); have hm4 := blk_cell hP4.1 0 (.int .i64 n) rfl))
  refine (size_any n h2 _).mono ?_
  rintro e w5 ⟨rfl, hb5⟩
  have hP5 := hP4.below hb5
  have hB5 := bnext hB4 hb5
  clear hb0 hh3 hP0 hg4 hb4 hk4 hz4 hP4 hB4 hm4 hb5
  go_wp2_with fail
  go_loopw [16] (fun v16 wr => ∃ (i : Nat) (cs : Array Value) (l : Int), i ≤ Pr.cnt n ∧ v16 = .int .i64 i ∧ DI (dlF (rnW ts n)) (6 * i) cs l ∧ HPd 72 (flA n (rw9 ts)) n w.heap.size cs wr ∧ Below w.heap.size w wr) (fun v16 _ => Pr.cnt n - (intOf v16).toNat)
  case atStart => exact ⟨0, maxD, 9223372036854775807, Nat.zero_le _, rfl, .inl ⟨rfl, rfl, rfl⟩, hP5, hB5⟩
  case round =>
    clear hP5 hB5
    obtain ⟨i, cs, l, hi, rfl, hdi, hPwi, hBwi⟩ := hrel
    obtain ⟨wi, rfl⟩ : ∃ wi : World, wi = wr := ⟨_, rfl⟩
    have HDI := Lib.hid hdi
    clear hdi
    by_cases hlt : i < Pr.cnt n
    · have hii : (i : Int) < (Pr.cnt n : Nat) := by omega
      have HEI := Lib.hid (fun k hk w => HE.out i k hlt hk w)
      have HEBI := Lib.hid (fun k hk => HEB.out i k hlt hk)
      go_wp2_with fail
      refine (fun (hX : ∀ (g : Nat) (w7 : World), w7.heap[g]? = some (.cells (arrF 9 (rn9 ts n i)) 70 (0, 0)) → w.heap.size + 4 ≤ g → HPd 72 (flA n (rw9 ts)) n w.heap.size cs w7 → Below w.heap.size w w7 → (?X : Nat → World → Prop) g w7) => ?reg) ?main
      case reg =>
        refine wp_region_mt (fun w' => HPd 72 (flA n (rw9 ts)) n w.heap.size cs w') (.take 0 (.take 1 (.take 2 (.take 3 (.fork 4 (.fork 5 (.sole 6 (.sole 7 .done)) 6 (.sole 5 (.sole 7 .done))) 6 (.sole 4 (.sole 5 (.sole 7 .done)))))))) (by kernel_rfl) (by kernel_rfl) (fun _ _ d _ _ h => by cases d <;> exact h) (by kernel_rfl) rfl (hPwi.below ((Same.refl wi).drew _)) ?_
        refine mt_take 0 _ ?_ rfl rfl (some 19) rfl (fun w' hw' => ?hv0) ?_
        case hv0 =>
          go_simp
          with_reducible rfl
        simp only [Act.put, List.setIfInBounds_toArray, List.set_cons_zero, List.set_cons_succ]
        refine mt_take 1 _ (.agg (flA n (rw9 ts))) rfl rfl (some 20) rfl (fun w' hw' => exec_row _ _ rfl (w.heap.size + 1) rfl (flA n (rw9 ts)) (load_ok blkFlat w' _ _ hw'.2.1 (flA_size _ _))) ?_
        simp only [Act.put, List.setIfInBounds_toArray, List.set_cons_zero, List.set_cons_succ]
        refine mt_take 2 _ ?_ rfl rfl (some 21) rfl (fun w' hw' => ?hv2) ?_
        case hv2 =>
          have s0 : w'.cell? ⟨w.heap.size, 0, none⟩ = some (.int .i64 n) := blk_cell hw'.1 0 _ rfl
          go_simp
          with_reducible rfl
        simp only [Act.put, List.setIfInBounds_toArray, List.set_cons_zero, List.set_cons_succ]
        refine mt_take 3 _ ?_ rfl rfl (some 22) rfl (fun w' hw' => ?hv3) ?_
        case hv3 =>
          go_simp
          with_reducible rfl
        simp only [Act.put, List.setIfInBounds_toArray, List.set_cons_zero, List.set_cons_succ]
        refine mt_fork ?_ ?_
        · refine mt_call 4 _ rfl rfl 77 #[.agg #[.int .i64 n], .int .i64 i] (some 23) rfl ?hr ?_
          case hr => go_simp
          refine (spotAt_any n i h1 h2 (by omega) _).mono ?_
          rintro e wa ⟨rfl, hbx⟩
          have hbwa : Below wi.heap.size wi wa := ((Same.refl wi).drew _).trans hbx
          have hPwa := hPwi.below hbwa
          have hBwa := bnext hBwi hbwa
          refine ⟨_, rfl, hPwa, ?_⟩
          simp only [Act.put, List.setIfInBounds_toArray, List.set_cons_zero, List.set_cons_succ]
          refine mt_fork ?_ ?_
          · refine mt_call 5 _ rfl rfl 76 #[.agg (flA n (rw9 ts)), .agg #[.int .i64 ((n : Int) - (Pr.R i : Nat)), .int .i64 ((Pr.R i : Int) - (Pr.C i : Nat)), .int .i64 (Pr.C i : Nat)]] (some 24) rfl ?hr ?_
            case hr => go_simp
            refine (HO.out i hlt _).mono ?_
            rintro e wb ⟨rfl, hbwb⟩
            have hPwb := hPwa.below hbwb
            have hBwb := bnext hBwa hbwb
            refine ⟨_, rfl, hPwb, ?_⟩
            simp only [Act.put, List.setIfInBounds_toArray, List.set_cons_zero, List.set_cons_succ]
            have hgwc := heap_alloc_new wb (.cells zeroO 70)
            have hbwc : Below wb.heap.size wb (wb.alloc (.cells zeroO 70)) := balloc (Below.refl _ _) _
            have hPwc := hPwb.below hbwc
            have hBwc := bnext hBwb hbwc
            have hge := hPwb.lt
            refine mt_alloc zeroO run_alloc_off 6 _ rfl rfl rfl (some 9) rfl ⟨hPwc, ?_⟩
            generalize wb.alloc (.cells zeroO 70) = wc at hgwc hbwc hPwc hBwc ⊢
            obtain ⟨g, hgeq⟩ : ∃ g, g = wb.heap.size := ⟨_, rfl⟩
            replace hge : w.heap.size + 4 ≤ g := by rw [hgeq]; exact hge
            rw [← hgeq] at hgwc ⊢
            clear hgeq
            simp only [Act.put, List.setIfInBounds_toArray, List.set_cons_zero, List.set_cons_succ]
            refine mt_store_blk blkOff 7 _ rfl rfl _ _ rfl none rfl g (arrF 9 (rn9 ts n i)) zeroO rfl rfl hgwc zeroO_size (arrF_size _ _) (arrF_one _ _) g (Nat.le_refl _) ?_
            intro w8 hg8 hb8 hk8 hz8
            refine ⟨hPwc.keep hk8 hge, ?_⟩
            simp only [Act.put]
            refine mt_done ?_
            exact hX g w8 hg8 hge (hPwc.keep hk8 hge) (hBwc.trans (hb8.mono (by omega)))
          · have hgwb := heap_alloc_new wa (.cells zeroO 70)
            have hbwb : Below wa.heap.size wa (wa.alloc (.cells zeroO 70)) := balloc (Below.refl _ _) _
            have hPwb := hPwa.below hbwb
            have hBwb := bnext hBwa hbwb
            have hge := hPwa.lt
            refine mt_alloc zeroO run_alloc_off 6 _ rfl rfl rfl (some 9) rfl ⟨hPwb, ?_⟩
            generalize wa.alloc (.cells zeroO 70) = wb at hgwb hbwb hPwb hBwb ⊢
            obtain ⟨g, hgeq⟩ : ∃ g, g = wa.heap.size := ⟨_, rfl⟩
            replace hge : w.heap.size + 4 ≤ g := by rw [hgeq]; exact hge
            rw [← hgeq] at hgwb ⊢
            clear hgeq
            simp only [Act.put, List.setIfInBounds_toArray, List.set_cons_zero, List.set_cons_succ]
            refine mt_call 5 _ rfl rfl 76 #[.agg (flA n (rw9 ts)), .agg #[.int .i64 ((n : Int) - (Pr.R i : Nat)), .int .i64 ((Pr.R i : Int) - (Pr.C i : Nat)), .int .i64 (Pr.C i : Nat)]] (some 24) rfl ?hr ?_
            case hr => go_simp
            refine (HO.out i hlt _).mono ?_
            rintro e wc ⟨rfl, hbwc⟩
            have hPwc := hPwb.below hbwc
            have hBwc := bnext hBwb hbwc
            have hgwc := (hbwc.block g (Array.getElem?_eq_some_iff.1 hgwb).1).trans hgwb
            refine ⟨_, rfl, hPwc, ?_⟩
            simp only [Act.put, List.setIfInBounds_toArray, List.set_cons_zero, List.set_cons_succ]
            refine mt_store_blk blkOff 7 _ rfl rfl _ _ rfl none rfl g (arrF 9 (rn9 ts n i)) zeroO rfl rfl hgwc zeroO_size (arrF_size _ _) (arrF_one _ _) g (Nat.le_refl _) ?_
            intro w8 hg8 hb8 hk8 hz8
            refine ⟨hPwc.keep hk8 hge, ?_⟩
            simp only [Act.put]
            refine mt_done ?_
            exact hX g w8 hg8 hge (hPwc.keep hk8 hge) (hBwc.trans (hb8.mono (by omega)))
        · have hgwa := heap_alloc_new wi.drew (.cells zeroO 70)
          have hbwa : Below wi.heap.size wi (wi.drew.alloc (.cells zeroO 70)) := balloc ((Same.refl wi).drew wi.heap.size) _
          have hPwa := hPwi.below hbwa
          have hBwa := bnext hBwi hbwa
          have hge := hPwi.lt
          refine mt_alloc zeroO run_alloc_off 6 _ rfl rfl rfl (some 9) rfl ⟨hPwa, ?_⟩
          generalize wi.drew.alloc (.cells zeroO 70) = wa at hgwa hbwa hPwa hBwa ⊢
          obtain ⟨g, hgeq⟩ : ∃ g, g = wi.drew.heap.size := ⟨_, rfl⟩
          replace hge : w.heap.size + 4 ≤ g := by rw [hgeq]; exact hge
          rw [← hgeq] at hgwa ⊢
          clear hgeq
          simp only [Act.put, List.setIfInBounds_toArray, List.set_cons_zero, List.set_cons_succ]
          refine mt_call 4 _ rfl rfl 77 #[.agg #[.int .i64 n], .int .i64 i] (some 23) rfl ?hr ?_
          case hr => go_simp
          refine (spotAt_any n i h1 h2 (by omega) _).mono ?_
          rintro e wb ⟨rfl, hbx⟩
          have hbwb : Below wa.heap.size wa wb := hbx
          have hPwb := hPwa.below hbwb
          have hBwb := bnext hBwa hbwb
          have hgwb := (hbwb.block g (Array.getElem?_eq_some_iff.1 hgwa).1).trans hgwa
          refine ⟨_, rfl, hPwb, ?_⟩
          simp only [Act.put, List.setIfInBounds_toArray, List.set_cons_zero, List.set_cons_succ]
          refine mt_call 5 _ rfl rfl 76 #[.agg (flA n (rw9 ts)), .agg #[.int .i64 ((n : Int) - (Pr.R i : Nat)), .int .i64 ((Pr.R i : Int) - (Pr.C i : Nat)), .int .i64 (Pr.C i : Nat)]] (some 24) rfl ?hr ?_
          case hr => go_simp
          refine (HO.out i hlt _).mono ?_
          rintro e wc ⟨rfl, hbwc⟩
          have hPwc := hPwb.below hbwc
          have hBwc := bnext hBwb hbwc
          have hgwc := (hbwc.block g (Array.getElem?_eq_some_iff.1 hgwb).1).trans hgwb
          refine ⟨_, rfl, hPwc, ?_⟩
          simp only [Act.put, List.setIfInBounds_toArray, List.set_cons_zero, List.set_cons_succ]
          refine mt_store_blk blkOff 7 _ rfl rfl _ _ rfl none rfl g (arrF 9 (rn9 ts n i)) zeroO rfl rfl hgwc zeroO_size (arrF_size _ _) (arrF_one _ _) g (Nat.le_refl _) ?_
          intro w8 hg8 hb8 hk8 hz8
          refine ⟨hPwc.keep hk8 hge, ?_⟩
          simp only [Act.put]
          refine mt_done ?_
          exact hX g w8 hg8 hge (hPwc.keep hk8 hge) (hBwc.trans (hb8.mono (by omega)))
      case main =>
        intro g w7 hg hge hP hB
        clear hPwi hBwi
        have hrg := shv_range (ShV_later HV.out hB)
        go_wp2_with ((with_reducible refine load_rng blkAll ?_ _ rfl 0 0 ?_ (arrF 18 shn) hrg (arrF_size _ _) ?_); exact rfl; exact rfl; simp only [Act.put, List.setIfInBounds_toArray, List.set_cons_zero, List.set_cons_succ])
        clear hrg
        generalize arrF 18 shn = ar at *
        go_loopw [26] (fun v26 wr => ∃ (k : Nat) (cs : Array Value) (l : Int), k ≤ 6 ∧ v26 = .int .i64 k ∧ DI (dlF (rnW ts n)) (6 * i + k) cs l ∧ HPd 72 (flA n (rw9 ts)) n w.heap.size cs wr ∧ wr.heap[g]? = some (.cells (arrF 9 (rn9 ts n i)) 70 (0, 0)) ∧ Below w.heap.size w wr) (fun v26 _ => 6 - (intOf v26).toNat)
        case atStart => exact ⟨0, cs, l, by omega, rfl, HDI.out, hP, hg, hB⟩
        case round =>
          clear HDI hP hg hB
          obtain ⟨k, cs, l, hk, rfl, hdi, hP, hg, hB⟩ := hrel
          obtain ⟨wq, rfl⟩ : ∃ wq : World, wq = wr := ⟨_, rfl⟩
          have HDI := Lib.hid hdi
          clear hdi
          by_cases hltk : k < 6
          · have hki : (k : Int) < 6 := by omega
            have hidx := HI.out k hltk
            have HSA : Hid (shA k = #[.int .i64 (shn (3 * k)), .int .i64 (shn (3 * k + 1)), .int .i64 (shn (3 * k + 2))]) := Lib.hid rfl
            obtain ⟨w6, hw6⟩ : ∃ w1, w1 = wq.alloc (.cells (shA k) 58) := ⟨_, rfl⟩
            have hb6 : Below wq.heap.size wq w6 := by rw [hw6]; exact balloc (Below.refl _ _) _
            have hs6 : w6.heap[wq.heap.size]? = some (.cells (shA k) 58 (0, 0)) := by rw [hw6]; exact heap_alloc_new _ _
            have hB6 := bnext hB hb6
            have hP6 := hP.below hb6
            have hgl : g < wq.heap.size := (Array.getElem?_eq_some_iff.1 hg).1
            have hg6 := (hb6.block g hgl).trans hg
            have hP6lt := hP.lt
            rw [HSA.out] at hw6
            have HW6 := Lib.hid hw6
            have HBD := Lib.hid (run_build_deal i k (envK (rnW ts n i) k))
            have he : envK (rnW ts n i) k = -(dlF (rnW ts n) (6 * i + k)) := by rw [dlF_at _ _ _ hltk]; omega
            have HUP := Lib.hid (fun hc => DI.up HDI.out he hc)
            have HSTAY := Lib.hid (fun hc => DI.stay HDI.out he (HEBI.out k hltk) hc)
            have HSZ := Lib.hid HDI.out.size
            have HLE := Lib.hid HDI.out.least
            have HEK := Lib.hid (fun w => HEI.out k hltk w)
            rw [show (6 * i + k) / 6 = i by omega, show (6 * i + k) % 6 = k by omega] at HUP
            clear hw6 he HDI hb6 hP hg hB
            generalize envK (rnW ts n i) k = e at *
            generalize shn (3 * k) = x at hidx HW6
            generalize shn (3 * k + 1) = y at hidx HW6
            generalize shn (3 * k + 2) = z at hidx HW6
            go_wp2_with (first | ((with_reducible refine load_blk blkOff ?_ _ rfl (g) ?_ (arrF 9 (rn9 ts n i)) (by rw [← HW6.out]; exact hg6) (arrF_size _ _) ?_); exact rfl; exact rfl; simp only [Act.put, List.setIfInBounds_toArray, List.set_cons_zero, List.set_cons_succ]) | ((with_reducible refine load_blk blkSh ?_ _ rfl (wq.heap.size) ?_ (shA k) (by rw [← HW6.out]; exact hs6) (shA_size _) ?_); exact rfl; exact rfl; simp only [Act.put, List.setIfInBounds_toArray, List.set_cons_zero, List.set_cons_succ]))
            rw [← HW6.out]
            refine (HEK.out w6).mono ?_
            rintro e' w8 ⟨rfl, hb8⟩
            have hB8 := bnext hB6 hb8
            have hP8 := hP6.below hb8
            have hs8lt : wq.heap.size < w6.heap.size := (Array.getElem?_eq_some_iff.1 hs6).1
            have hg8 := (hb8.block g (by omega)).trans hg6
            have hs8 := (hb8.block wq.heap.size hs8lt).trans hs6
            have hd8 := hP8.2.2.2
            have hl8 := blk_cell hd8 4 (.int .i64 l) HLE.out
            clear hg6 hs6 hP6 hB6 hb8
            by_cases hel : e < l
            · have HN := Lib.hid (HUP.out hel)
              clear HUP HSTAY
              go_wp2_with (first | ((with_reducible refine load_blk blkSh ?_ _ rfl (wq.heap.size) ?_ (shA k) hs8 (shA_size _) ?_); exact rfl; exact rfl; simp only [Act.put, List.setIfInBounds_toArray, List.set_cons_zero, List.set_cons_succ]) | ((with_reducible refine build_deal HBD.out rfl _ _ _ rfl ?_ ?_ ?_ ?_); exact rfl; exact rfl; exact rfl; simp only [Act.put, List.setIfInBounds_toArray, List.set_cons_zero, List.set_cons_succ]) | ((with_reducible refine store_blk blkDeal rfl _ _ rfl (w.heap.size + 3) (dA i k e) cs ?_ ?_ hd8 HSZ.out (dA_size _ _ _) (dA_one _ _ _) (w.heap.size + 3) (Nat.le_refl _) ?_); exact rfl; exact rfl; intro w9 hg9 hb9 hk9 hz9))
              go_roundw
              case rel => exact ⟨k + 1, dA i k e, e, by omega, by go_num, HN.out, hP8.set hk9 hg9, (hk9 g (by omega)).trans hg8, hB8.trans (hb9.mono (by omega))⟩
              case measure => simp [intOf]; omega
            · have HN := Lib.hid (HSTAY.out (by omega))
              clear HUP HSTAY
              go_wp2_with fail
              go_roundw
              case rel => exact ⟨k + 1, cs, l, by omega, by go_num, HN.out, hP8, hg8, hB8⟩
              case measure => simp [intOf]; omega
          · obtain rfl : k = 6 := by omega
            have HN := Lib.hid HDI.out
            clear HDI
            go_wp2_with fail
            go_roundw
            case rel => exact ⟨i + 1, cs, l, by omega, by go_num, by rw [show 6 * (i + 1) = 6 * i + 6 by omega]; exact HN.out, hP, hB⟩
            case measure => simp [intOf]; omega
    · obtain rfl : i = Pr.cnt n := by omega
      have hcs := HDI.out.done HJ.out
      subst hcs
      clear HDI
      have hg2 := hPwi.2.2.1
      have hg3 := hPwi.2.2.2
      go_wp2_with (first | ((with_reducible refine load_blk blkDeal ?_ _ rfl (w.heap.size + 3) ?_ (dA (j / 6) (j % 6) (-(dlF (rnW ts n) j))) hg3 (dA_size _ _ _) ?_); exact rfl; exact rfl; simp only [Act.put, List.setIfInBounds_toArray, List.set_cons_zero, List.set_cons_succ]) | ((with_reducible refine store_blk blkDeal rfl _ _ rfl (w.heap.size + 2) (dA (j / 6) (j % 6) (-(dlF (rnW ts n) j))) zeroD ?_ ?_ hg2 zeroD_size (dA_size _ _ _) (dA_one _ _ _) (w.heap.size + 2) (Nat.le_refl _) ?_); exact rfl; exact rfl; intro w7 hg7 hb7 _ _))
      exact bodyPost_ret (results_blk1 blkDeal rfl _ _ (w.heap.size + 2) _ rfl hg7 (dA_size _ _ _)) rfl ⟨rfl, hBwi.trans (hb7.mono (by omega))⟩
end Go.Proofs.YtncpnkcdjfohgaaDoor
