import Derived.Test.YthkohenobbhhmaaHg
namespace Go.Proofs.Ythkohenobbhhmaa
open Go.RowKit
set_option maxRecDepth 4000
set_option maxHeartbeats 400000 in
theorem gridColumn_any (n m k r : Nat) (h2 : 1 ≤ m) (hr : r = k % m) (w : World) :
    Calls Try.prog 62 #[.agg #[.int .i64 n, .int .i64 m], .int .i64 k] w fun e w' => e = .returned (.int .i64 r) ∧ Below w.heap.size w w' := by
  have e1 : Int.tmod (k : Int) (m : Int) = (r : Int) := by rw [hr]; exact (Int.ofNat_tmod k m).symm
  have hrk : r ≤ k := by rw [hr]; exact Nat.mod_le _ _
  have hm0 : (m : Int) ≠ 0 := by omega
  have hm0n : ¬ m = 0 := by omega
  clear hr
  go_enter Try.func62, Try.ntmps62
  go_wp2_with fail
  go_ret
  exact ⟨ret_int (by first | rfl | exact e1), by go_grown⟩
set_option maxHeartbeats 400000 in
theorem gridRow_any (n m k d : Nat) (h2 : 1 ≤ m) (hd : d = k / m) (hk : k ≤ 1000) (w : World) :
    Calls Try.prog 63 #[.agg #[.int .i64 n, .int .i64 m], .int .i64 k] w fun e w' => e = .returned (.int .i64 d) ∧ Below w.heap.size w w' := by
  have e1 : Int.tdiv (k : Int) (m : Int) = (d : Int) := by rw [hd]; exact (Int.ofNat_tdiv k m).symm
  have hdk : d ≤ k := by rw [hd]; exact Nat.div_le_self _ _
  have hm0 : (m : Int) ≠ 0 := by omega
  have hm0n : ¬ m = 0 := by omega
  clear hd
  go_enter Try.func63, Try.ntmps63
  go_wp2_with fail
  go_ret
  exact ⟨ret_int (by first | rfl | exact e1), by go_grown⟩
set_option maxHeartbeats 400000 in
theorem gridPlace_any (n m r d p j : Nat) (hp : p = m * r) (hj : j = p + d) (h : j ≤ 1000) (w : World) :
    Calls Try.prog 61 #[.agg #[.int .i64 n, .int .i64 m], .int .i64 r, .int .i64 d] w fun e w' => e = .returned (.int .i64 j) ∧ Below w.heap.size w w' := by
  have e3 : (m : Int) * (r : Int) = (p : Int) := by rw [hp]; exact (Int.natCast_mul m r).symm
  have e4 : wrap64 ((m : Int) * (r : Int)) = (p : Int) := by rw [e3, IntWalk.wrap64_in _ ⟨by omega, by omega⟩]
  have e5 : wrap64 ((p : Int) + (d : Int)) = (j : Int) := by rw [IntWalk.wrap64_in _ ⟨by omega, by omega⟩]; omega
  have E3 := Lib.hid e3
  have E5 : Hid ((p : Int) + (d : Int) = (j : Int)) := Lib.hid (by omega)
  clear hp hj e3
  go_enter Try.func61, Try.ntmps61
  go_wp2_with fail
  go_ret
  exact ⟨ret_int (by first | rfl | exact e5 | exact E5.out | (rw [E3.out]; exact E5.out)), by go_grown⟩
set_option maxHeartbeats 400000 in
theorem rival_any (x : Int) (h0 : 0 ≤ x) (h2 : x ≤ 2) (w : World) :
    Calls Try.prog 60 #[.int .i64 x] w fun e w' => e = .returned (.int .i64 (tv x)) ∧ w = w' := by
  obtain ⟨k, rfl⟩ := Int.eq_ofNat_of_zero_le h0
  match k, h2 with
  | 0, _ | 1, _ | 2, _ =>
    go_enter Try.func60, Try.ntmps60
    go_wp2_with fail
    go_ret
    exact ⟨ret_int (by decide), rfl⟩
  | k + 3, h => exact absurd h (by omega)
theorem hb_set (m n : Nat) (L : List Int) (j : Nat) (v : Int) (hj : j < L.length) : (hbL m n L).toArray.setIfInBounds (2 + j) (.int .i64 v) = (hbL m n (L.set j v)).toArray := by
  apply Array.ext'
  rw [Array.toList_setIfInBounds]
  simp only [hbL, List.length_set]
  rw [show 2 + j = j + 1 + 1 by omega, List.set_cons_succ, List.set_cons_succ, List.set_append_left _ _ (by simpa using hj), List.map_set]
theorem hb0_rep (m n s : Nat) (hs : s ≤ 30) : hb0 m n = (hbL m n (List.replicate s 0)).toArray := by
  simp only [hb0, hbL, List.map_replicate, List.length_replicate]
  congr 3
  rw [List.replicate_append_replicate, show s + (30 - s) = 30 by omega]
theorem hb_zero (n m : Nat) (xs : List Int) : (hbL n m xs).toArray[0]? = some (.int .i64 n) ∧ (hbL n m xs).toArray[1]? = some (.int .i64 m) := ⟨rfl, rfl⟩
theorem set_at {w : World} {g i : Nat} {cur : Array Value} {t : TypeId} (hg : w.heap[g]? = some (.cells cur t (0, 0))) (v : Value) :
    (w.setCell ⟨g, i, none⟩ v).heap[g]? = some (.cells (cur.setIfInBounds i v) t (0, 0)) ∧ (∀ q, q ≠ g → (w.setCell ⟨g, i, none⟩ v).heap[q]? = w.heap[q]?) ∧ (w.setCell ⟨g, i, none⟩ v).heap.size = w.heap.size := by
  rw [setCell_eq_setRow w g i cur t (0, 0) v hg]
  exact ⟨setRow_heap w g cur _ t _ hg, fun q hq => setRow_other w g q _ hq, by simp [World.setRow]⟩
/-- Both boards' cells that a round reads. -/
def TwoB (w : World) (g h n m k : Nat) (x : Int) : Prop := w.cell? ⟨g, 0, none⟩ = some (.int .i64 n) ∧ w.cell? ⟨g, 1, none⟩ = some (.int .i64 m) ∧ w.cell? ⟨g, 2 + k, none⟩ = some (.int .i64 x) ∧ w.cell? ⟨h, 0, none⟩ = some (.int .i64 m) ∧ w.cell? ⟨h, 1, none⟩ = some (.int .i64 n)
theorem twoB_of {w : World} {g h n m k : Nat} {xs L : List Int} (hk : k < xs.length) (hg : w.heap[g]? = some (.cells (hbL n m xs).toArray 84 (0, 0))) (hh : w.heap[h]? = some (.cells (hbL m n L).toArray 84 (0, 0))) : TwoB w g h n m k (xs.getD k 0) :=
  ⟨blk_cell hg 0 _ rfl, blk_cell hg 1 _ rfl, blk_cell hg (2 + k) _ (hb_at n m xs k hk), blk_cell hh 0 _ rfl, blk_cell hh 1 _ rfl⟩
theorem twoB_now {w w' : World} {g h n m k : Nat} {x : Int} (hT : TwoB w g h n m k x) (hb : Below w.heap.size w w') (hg : g < w.heap.size) (hh : h < w.heap.size) : TwoB w' g h n m k x :=
  ⟨(hb.cell (p := ⟨g, 0, none⟩) hg).trans hT.1, (hb.cell (p := ⟨g, 1, none⟩) hg).trans hT.2.1, (hb.cell (p := ⟨g, 2 + k, none⟩) hg).trans hT.2.2.1, (hb.cell (p := ⟨h, 0, none⟩) hh).trans hT.2.2.2.1, (hb.cell (p := ⟨h, 1, none⟩) hh).trans hT.2.2.2.2⟩
set_option maxHeartbeats 3200000 in
theorem implTurnBoard (n m : Int) (xs : List Int) (a : Option Addr) (b len cap : Nat) (w : World) (hn : xs.length = len) (hsm : len ≤ 1048576) (h : Rd w a b 0 xs) (hb0 : len = 0 ∨ b < w.heap.size) :
    Calls Try.prog 28 #[.int .i64 n, .int .i64 m, .slice a len cap] w (Gives w 3 (valTurnB n m xs) (boardB n m xs)) := by
  cases hB : boardB n m xs
  · have HV : Hid (valTurnB n m xs = []) := Lib.hid (by simp [valTurnB, hB])
    have HH := Lib.hid (hexBoardOf_no n m xs a b len cap w hn hsm h hb0 hB)
    rw [HV.out]
    clear hB h hb0
    go_enter Try.func28, Try.ntmps28
    go_wp2_with fail
    refine HH.out.mono ?_
    rintro e w2 ⟨rfl, hB2⟩
    go_wp2_with (first
      | (with_reducible refine alloc_hb rfl rfl ?_)
      | ((with_reducible refine store_hb rfl _ _ rfl w2.heap.size zeroH zeroH ?_ ?_ ?_ zeroH_size zeroH_size zeroH_one w2.heap.size (Nat.le_refl _) ?_); exact rfl; exact rfl; exact heap_alloc_new _ _; intro w3 hg3 hb3; have hB3 := bnext hB2 ((balloc (Below.refl w2.heap.size w2) (.cells zeroH 84)).trans hb3)))
    go_ret2
    exact gives_none hB3
  · have HV0 : Hid (valTurnB n m xs = tbl n.toNat m.toNat xs.length xs xs.length) := Lib.hid (by simp [valTurnB, hB])
    rw [HV0.out]
    obtain ⟨n, m, s, rfl, rfl, hnm, h30, h1, h2, hp, hl, hA⟩ := boardB_yes hB
    rw [Int.toNat_natCast, Int.toNat_natCast, hl]
    have HH := Lib.hid (hexBoardOf_yes n m s xs a b len cap w hn h hb0 h1 h2 hnm h30 (by omega) hA)
    have HLI := Lib.hid (fun w => list_any m n s (tbl n m s xs s) w (by rw [Nat.mul_comm]; exact hnm) h30 (tbl_len n m s xs s))
    have hsz := hbL_size n m xs (by omega)
    have hone := hbL_one n m xs
    have HTL := Lib.hid (tbl_len n m s xs)
    have HZ := Lib.hid (hb0_rep m n s h30)
    have HN := Lib.hid hl
    have HA := Lib.hid hA
    have HNM := Lib.hid hnm
    clear hB h hb0 hnm hp hl hA HV0 hn
    go_enter Try.func28, Try.ntmps28
    go_wp2_with fail
    refine HH.out.mono ?_
    rintro e w2 ⟨rfl, hB2⟩
    go_wp2_with (first
      | ((with_reducible refine store_hb rfl _ _ rfl w2.heap.size (hbL n m xs).toArray zeroH ?_ ?_ ?_ zeroH_size hsz hone w2.heap.size (Nat.le_refl _) ?_); exact rfl; exact rfl; exact heap_alloc_new _ _; intro w3 hg3 hb3; have hB3 := bnext hB2 ((balloc (Below.refl w2.heap.size w2) (.cells zeroH 84)).trans hb3); have hlt3 := (Array.getElem?_eq_some_iff.1 hg3).1)
      | ((with_reducible refine buildn_hb rfl _ m n rfl ?_ ?_); exact rfl)
      | ((with_reducible refine store_hb rfl _ _ rfl w3.heap.size (hb0 m n) zeroH ?_ ?_ ?_ zeroH_size (hb0_size _ _) (hb0_one _ _) w3.heap.size (Nat.le_refl _) ?_); exact rfl; exact rfl; exact heap_alloc_new _ _; intro w4 hg4 hb4; have hB34 := ((balloc (Below.refl w3.heap.size w3) (.cells zeroH 84)).trans hb4); have hlt4 := (Array.getElem?_eq_some_iff.1 hg4).1; have hg8 := (hB34.block w2.heap.size hlt3).trans hg3; have q0 := blk_cell hg8 0 _ (hb_zero n m xs).1; have q1 := blk_cell hg8 1 _ (hb_zero n m xs).2)
      | (with_reducible refine alloc_hb rfl rfl ?_))
    refine (gridSize_any n m s HNM.out h30 _).mono ?_
    rintro e w5 ⟨rfl, hb5⟩
    rw [HZ.out] at hg4
    have hB5 := bnext (bnext hB3 hB34) hb5
    have hg8' := Lib.hid ((hb5.block w2.heap.size (by omega)).trans hg8)
    have hg9' := Lib.hid ((hb5.block w3.heap.size (by omega)).trans hg4)
    have hs5 := hb5.size
    have hB25 := hB2.size
    have hB35 := hB3.size
    have hsi : (s : Int) ≤ 30 := by omega
    clear hg3 hb3 hg4 hb4 hg8 q0 q1 hb5 hB2 hB3 hB34
    go_wp2_with fail
    go_loopw [28] (fun v28 wr => ∃ k : Nat, k ≤ s ∧ v28 = .int .i64 k ∧ Hid (wr.heap[w2.heap.size]? = some (.cells (hbL n m xs).toArray 84 (0, 0))) ∧ Hid (wr.heap[w3.heap.size]? = some (.cells (hbL m n (tbl n m s xs k)).toArray 84 (0, 0))) ∧ w5.heap.size ≤ wr.heap.size ∧ Below w.heap.size w wr) (fun v28 _ => s - (intOf v28).toNat)
    case atStart => exact ⟨0, Nat.zero_le _, rfl, hg8', hg9', Nat.le_refl _, hB5⟩
    case round =>
      clear hg8' hg9' hB5
      obtain ⟨k, hk, rfl, hg8, hg9, hsw, hb⟩ := hrel
      by_cases hlt : k < s
      · obtain ⟨l0, l2⟩ := allB_at HA.out k (by rw [HN.out]; exact hlt)
        have htl := tix_lt n m s k HNM.out h2 hlt
        have HT : Hid (tbl n m s xs (k + 1) = (tbl n m s xs k).set (tix n m k) (tv (xs.getD k 0))) := Lib.hid rfl
        have hTW := twoB_of (k := k) (by rw [HN.out]; exact hlt) hg8.out hg9.out
        obtain ⟨r, hr⟩ : ∃ r : Nat, r = k % m := ⟨_, rfl⟩
        obtain ⟨d, hd⟩ : ∃ d : Nat, d = k / m := ⟨_, rfl⟩
        obtain ⟨p, hp⟩ : ∃ p : Nat, p = n * r := ⟨_, rfl⟩
        obtain ⟨j, hj⟩ : ∃ j : Nat, j = p + d := ⟨_, rfl⟩
        have hjt : tix n m k = j := by rw [hj, hp, hr, hd]; rfl
        rw [hjt] at htl HT
        have HCO := Lib.hid (fun w' => gridColumn_any n m k r h2 hr w')
        have HRO := Lib.hid (fun w' => gridRow_any n m k d h2 hd (by omega) w')
        have HPL := Lib.hid (fun w' => gridPlace_any m n r d p j hp hj (by omega) w')
        have HHS := Lib.hid (fun v => hb_set m n (tbl n m s xs k) j v (by rw [HTL.out]; exact htl))
        have hji : (j : Int) < 30 := by omega
        have hki : (k : Int) < (s : Int) := by omega
        have hki3 : (k : Int) < 30 := by omega
        have htz := tbl_len n m s xs k
        have hos : j + 2 < (hbL m n (tbl n m s xs k)).toArray.size := by rw [hbL_size m n _ (by omega)]; omega
        generalize xs.getD k 0 = x at l0 l2 HT hTW
        have HTW := Lib.hid hTW
        clear hr hd hp hj hjt hTW htz
        generalize tbl n m s xs k = L at hg9 HT HHS hos
        obtain ⟨wi, hwi⟩ : ∃ wi : World, wi = wr := ⟨_, rfl⟩
        subst hwi
        go_wp2_with fail
        refine wp_region_mix (fun w' => TwoB w' w2.heap.size w3.heap.size n m k x) [5, 9, 10, 15, 18] [0, 1, 2, 3, 4, 6, 7, 8, 11, 12, 13, 14, 16, 5, 9, 10, 15, 17, 18] (by kernel_rfl) (by kernel_rfl) (fun _ _ d _ _ h => by cases d <;> exact h) (by kernel_rfl) rfl HTW.out ?_
        refine mix_take 0 _ ?_ rfl rfl rfl (some 31) rfl (fun w' hw' => ?hv0) ?_
        case hv0 =>
          go_simp
          with_reducible rfl
        simp only [Act.put, List.setIfInBounds_toArray, List.set_cons_zero, List.set_cons_succ]
        refine mix_take 1 _ ?_ rfl rfl rfl (some 32) rfl (fun w' hw' => ?hv1) ?_
        case hv1 =>
          obtain ⟨s0, s1, s2, s3, s4⟩ := hw'
          go_simp
          with_reducible rfl
        simp only [Act.put, List.setIfInBounds_toArray, List.set_cons_zero, List.set_cons_succ]
        refine mix_take 2 _ ?_ rfl rfl rfl (some 33) rfl (fun w' hw' => ?hv2) ?_
        case hv2 =>
          go_simp
          with_reducible rfl
        simp only [Act.put, List.setIfInBounds_toArray, List.set_cons_zero, List.set_cons_succ]
        refine mix_take 3 _ ?_ rfl rfl rfl (some 34) rfl (fun w' hw' => ?hv3) ?_
        case hv3 =>
          obtain ⟨s0, s1, s2, s3, s4⟩ := hw'
          go_simp
          with_reducible rfl
        simp only [Act.put, List.setIfInBounds_toArray, List.set_cons_zero, List.set_cons_succ]
        refine mix_take 4 _ ?_ rfl rfl rfl (some 35) rfl (fun w' hw' => ?hv4) ?_
        case hv4 =>
          go_simp
          with_reducible rfl
        simp only [Act.put, List.setIfInBounds_toArray, List.set_cons_zero, List.set_cons_succ]
        refine mix_take 6 _ ?_ rfl rfl rfl (some 37) rfl (fun w' hw' => ?hv6) ?_
        case hv6 =>
          go_simp
          with_reducible rfl
        simp only [Act.put, List.setIfInBounds_toArray, List.set_cons_zero, List.set_cons_succ]
        refine mix_take 7 _ ?_ rfl rfl rfl (some 38) rfl (fun w' hw' => ?hv7) ?_
        case hv7 =>
          obtain ⟨s0, s1, s2, s3, s4⟩ := hw'
          go_simp
          with_reducible rfl
        simp only [Act.put, List.setIfInBounds_toArray, List.set_cons_zero, List.set_cons_succ]
        refine mix_take 8 _ ?_ rfl rfl rfl (some 39) rfl (fun w' hw' => ?hv8) ?_
        case hv8 =>
          go_simp
          with_reducible rfl
        simp only [Act.put, List.setIfInBounds_toArray, List.set_cons_zero, List.set_cons_succ]
        refine mix_take 11 _ ?_ rfl rfl rfl (some 42) rfl (fun w' hw' => ?hv11) ?_
        case hv11 =>
          go_simp
          with_reducible rfl
        simp only [Act.put, List.setIfInBounds_toArray, List.set_cons_zero, List.set_cons_succ]
        refine mix_take 12 _ ?_ rfl rfl rfl (some 43) rfl (fun w' hw' => ?hv12) ?_
        case hv12 =>
          go_simp
          with_reducible rfl
        simp only [Act.put, List.setIfInBounds_toArray, List.set_cons_zero, List.set_cons_succ]
        refine mix_take 13 _ ?_ rfl rfl rfl (some 44) rfl (fun w' hw' => ?hv13) ?_
        case hv13 =>
          go_simp
          with_reducible rfl
        simp only [Act.put, List.setIfInBounds_toArray, List.set_cons_zero, List.set_cons_succ]
        refine mix_take 14 _ ?_ rfl rfl rfl (some 45) rfl (fun w' hw' => ?hv14) ?_
        case hv14 =>
          obtain ⟨s0, s1, s2, s3, s4⟩ := hw'
          go_simp
          with_reducible rfl
        simp only [Act.put, List.setIfInBounds_toArray, List.set_cons_zero, List.set_cons_succ]
        refine mix_take 16 _ ?_ rfl rfl rfl (some 47) rfl (fun w' hw' => ?hv16) ?_
        case hv16 =>
          go_simp
          with_reducible rfl
        simp only [Act.put, List.setIfInBounds_toArray, List.set_cons_zero, List.set_cons_succ]
        refine mix_call 5 _ rfl rfl rfl 62 #[.agg #[.int .i64 n, .int .i64 m], .int .i64 k] (some 36) rfl ?hr5 ?_
        case hr5 => go_simp
        refine (HCO.out _).mono ?_
        rintro e w6 ⟨rfl, hbw6⟩
        have hsw6 : wi.heap.size ≤ w6.heap.size := Nat.le_trans (Nat.le_refl _) hbw6.size
        have hBw6 : Below wi.heap.size wi w6 := (Below.refl _ _).drew.trans (hbw6.mono (Nat.le_refl _))
        have hTw6 := twoB_now HTW.out hBw6 (by omega) (by omega)
        refine ⟨_, rfl, hTw6, ?_⟩
        simp only [Act.put, List.setIfInBounds_toArray, List.set_cons_zero, List.set_cons_succ]
        refine mix_call 9 _ rfl rfl rfl 63 #[.agg #[.int .i64 n, .int .i64 m], .int .i64 k] (some 40) rfl ?hr9 ?_
        case hr9 => go_simp
        refine (HRO.out _).mono ?_
        rintro e w7 ⟨rfl, hbw7⟩
        have hsw7 : wi.heap.size ≤ w7.heap.size := Nat.le_trans hsw6 hbw7.size
        have hBw7 : Below wi.heap.size wi w7 := hBw6.trans (hbw7.mono hsw6)
        have hTw7 := twoB_now HTW.out hBw7 (by omega) (by omega)
        refine ⟨_, rfl, hTw7, ?_⟩
        simp only [Act.put, List.setIfInBounds_toArray, List.set_cons_zero, List.set_cons_succ]
        refine mix_call 10 _ rfl rfl rfl 61 #[.agg #[.int .i64 m, .int .i64 n], .int .i64 r, .int .i64 d] (some 41) rfl ?hr10 ?_
        case hr10 => go_simp
        refine (HPL.out _).mono ?_
        rintro e w8 ⟨rfl, hbw8⟩
        have hsw8 : wi.heap.size ≤ w8.heap.size := Nat.le_trans hsw7 hbw8.size
        have hBw8 : Below wi.heap.size wi w8 := hBw7.trans (hbw8.mono hsw7)
        have hTw8 := twoB_now HTW.out hBw8 (by omega) (by omega)
        refine ⟨_, rfl, hTw8, ?_⟩
        simp only [Act.put, List.setIfInBounds_toArray, List.set_cons_zero, List.set_cons_succ]
        refine mix_call 15 _ rfl rfl rfl 60 #[.int .i64 x] (some 46) rfl ?hr15 ?_
        case hr15 => go_simp
        refine (rival_any x l0 l2 _).mono ?_
        rintro e w9 ⟨rfl, rfl⟩
        refine ⟨_, rfl, hTw8, ?_⟩
        simp only [Act.put, List.setIfInBounds_toArray, List.set_cons_zero, List.set_cons_succ]
        refine mix_take 17 _ ?_ rfl rfl rfl (some 48) rfl (fun w' hw' => ?hv17) ?_
        case hv17 =>
          go_simp
          with_reducible rfl
        simp only [Act.put, List.setIfInBounds_toArray, List.set_cons_zero, List.set_cons_succ]
        have hg9w := (hBw8.block w3.heap.size (by omega)).trans hg9.out
        have hg8w := (hBw8.block w2.heap.size (by omega)).trans hg8.out
        obtain ⟨u1, u2, u3⟩ := set_at (i := 2 + j) hg9w (.int .i64 (tv x))
        rw [HHS.out, ← HT.out] at u1
        have u8 := (u2 w2.heap.size (by omega)).trans hg8w
        have hTu : TwoB (w8.setCell ⟨w3.heap.size, 2 + j, none⟩ (.int .i64 (tv x))) w2.heap.size w3.heap.size n m k x :=
          ⟨(World.cell?_of_block (a := ⟨w2.heap.size, 0, none⟩) (u2 w2.heap.size (by omega))).trans hTw8.1, (World.cell?_of_block (a := ⟨w2.heap.size, 1, none⟩) (u2 w2.heap.size (by omega))).trans hTw8.2.1, (World.cell?_of_block (a := ⟨w2.heap.size, 2 + k, none⟩) (u2 w2.heap.size (by omega))).trans hTw8.2.2.1, blk_cell u1 0 _ rfl, blk_cell u1 1 _ rfl⟩
        refine mix_store_cell 18 _ rfl rfl rfl _ _ _ rfl none rfl szInt w3.heap.size (2 + j) (tv x) rfl rfl _ _ hg9w (by omega) ⟨hTu, ?_⟩
        simp only [Act.put]
        refine mix_done ?_
        have hBu : Below w.heap.size w (w8.setCell ⟨w3.heap.size, 2 + j, none⟩ (.int .i64 (tv x))) := (hb.trans (hBw8.mono (by omega))).setCell (p := ⟨w3.heap.size, 2 + j, none⟩) (by show w.heap.size ≤ w3.heap.size; omega) _
        have U1 := Lib.hid u1
        have U8 := Lib.hid u8
        have hsu : w5.heap.size ≤ (w8.setCell ⟨w3.heap.size, 2 + j, none⟩ (.int .i64 (tv x))).heap.size := by rw [u3]; omega
        clear u1 u2 u8 hTu hg9w hg8w hTw6 hTw7 hTw8 hbw6 hbw7 hbw8 hBw6 hBw7 hBw8
        go_wp2_with fail
        go_roundw
        case rel => exact ⟨k + 1, by omega, by go_num, U8, U1, hsu, hBu⟩
        case measure => simp [intOf]; omega
      · have hk2 : k = s := by omega
        rw [hk2] at hg9
        clear hk2
        have hz2 := hbL_size m n (tbl n m s xs s) (by rw [HTL.out]; omega)
        have hle : w.heap.size ≤ wr.heap.size := hb.size
        go_wp2_with ((with_reducible refine load_hb rfl _ rfl w3.heap.size ?_ _ hg9.out hz2 ?_); exact rfl)
        refine (HLI.out wr).mono ?_
        rintro e w9 ⟨v, rfl, ho9, -, hb9⟩
        go_wp2_with fail
        go_ret2
        exact gives_of rfl (HTL.out s).symm (own_base ho9 hle) (bnext hb hb9)
set_option maxHeartbeats 1600000 in
theorem lawOf_TurnBoard (n m : Int) (a : Option Addr) (len cap : Nat) (zs : List Int) (w : World) (hrow : IsRow w a len cap zs) (L : List Int) (ok : Bool) (hLen : L.length ≤ 1000)
    (hs : ∀ a' b' cap' w', len ≤ 1048576 → Rd w' a' b' 0 (zs.take len) → (len = 0 ∨ b' < w'.heap.size) → Calls Try.prog 27 #[.int .i64 n, .int .i64 m, .slice a' len cap'] w' (Gives w' 3 L ok))
    (hi : ∀ a' b' cap' w', len ≤ 1048576 → Rd w' a' b' 0 (zs.take len) → (len = 0 ∨ b' < w'.heap.size) → Calls Try.prog 28 #[.int .i64 n, .int .i64 m, .slice a' len cap'] w' (Gives w' 3 L ok)) :
    Calls Try.prog 9 #[.int .i64 n, .int .i64 m, .slice a len cap] w fun e w' => e = .returned (.bool true) ∧ Below w.heap.size w w' := by
  obtain ⟨hlen, b, off, hr, hbb⟩ := isRow_rd hrow
  generalize zs.take len = xs at hlen hr hs hi
  have hm := hr.1
  unfold maxLen at hm
  rw [hlen] at hm
  have HRD : Hid (∀ W, Below w.heap.size w W → Rd W a b off xs ∧ (len = 0 ∨ b < W.heap.size)) := by
    intro W hB
    refine ⟨⟨hr.1, fun j hj => ⟨(hr.2 j hj).1, ?_⟩⟩, ?_⟩
    · rcases hbb with h | h
      · rw [hlen, h] at hj; exact absurd hj (Nat.not_lt_zero _)
      · exact (hB.cell h).trans (hr.2 j hj).2
    · rcases hbb with h | h
      · exact .inl h
      · exact .inr (by have := hB.size; omega)
  have HL := Lib.hid hlen
  have HS := Lib.hid hs
  have HI := Lib.hid hi
  have HB : Hid (∀ (w0 : World) a0 b0 cap0, (a0 = none ∨ a0 = some (⟨b0, 0, none⟩ : Addr)) → Rd w0 a0 b0 0 xs → (∀ k, (Value.slice a0 xs.length cap0).ownBlock = some k → k < w0.heap.size) → len = 0 ∨ b0 < w0.heap.size) := by
    intro w0 a0 b0 cap0 hx hrd hlt
    rcases hx with h | h
    · left
      rcases Nat.eq_zero_or_pos xs.length with h0 | h0
      · rw [← hlen]; exact h0
      · have := (hrd.2 0 h0).1; rw [h] at this; cases this
    · exact .inr (hlt b0 (by rw [h]; rfl))
  clear hr hrow hlen hs hi
  by_cases hbig : (1048576 : Int) < (len : Int)
  · go_enter Try.func9, Try.ntmps9
    go_wp2_with fail
    go_ret
    exact ⟨rfl, Below.refl _ _⟩
  · have hsm : len ≤ 1048576 := by omega
    have hok : (ok != ok) = false := by simp
    go_enter Try.func9, Try.ntmps9
    go_wp2_with fail
    refine (toIntS_any xs a b off len cap w HL.out (HRD.out _ (Below.refl _ _)).1 (HRD.out _ (Below.refl _ _)).2 hsm).mono ?_
    rintro e w1 ⟨v1, rfl, ho1, hb1⟩
    obtain ⟨-, a1, c1, b1, rfl, hx1, hr1⟩ := own_shape ho1
    have hbl1 := HB.out w1 a1 b1 c1 hx1 hr1 (fun k hk => own_lt ho1 k hk)
    go_wp2_with fail
    rw [HL.out]
    refine (HS.out a1 b1 c1 w1 hsm hr1 hbl1).mono ?_
    rintro e w2 ⟨v0, rfl, ho0, hb2⟩
    obtain ⟨-, a0, c0, b0, rfl, hx0, hr0⟩ := own_shape ho0
    have hlt0 := own_lt ho0
    have hB2 := bnext hb1 hb2
    clear ho1 hr1 hb1 hb2 hbl1 hr0
    go_wp2_with fail
    refine (toIntS_any xs a b off len cap w2 HL.out (HRD.out _ hB2).1 (HRD.out _ hB2).2 hsm).mono ?_
    rintro e w3 ⟨v3, rfl, ho3, hb3⟩
    obtain ⟨-, a3, c3, b3, rfl, hx3, hr3⟩ := own_shape ho3
    have hbl3 := HB.out w3 a3 b3 c3 hx3 hr3 (fun k hk => own_lt ho3 k hk)
    have ho0_3 := own_now ho0 hb3
    have hB3 := bnext hB2 hb3
    have hlt3 := own_lt ho3
    clear ho0
    go_wp2_with fail
    rw [HL.out]
    refine (HI.out a3 b3 c3 w3 hsm hr3 hbl3).mono ?_
    rintro e w4 ⟨vg, rfl, hog, hb4⟩
    obtain ⟨-, ag, cg, bg, rfl, hxg, hrg⟩ := own_shape hog
    have ho0_4 := own_now ho0_3 hb4
    have ho3_4 := own_now ho3 hb4
    have hB4 := bnext hB3 hb4
    have hltg := own_lt hog
    obtain ⟨-, a0', c0', b0', hv, -, hr0_4⟩ := own_shape ho0_4
    simp only [Value.slice.injEq] at hv
    obtain ⟨rfl, -, rfl⟩ := hv
    clear ho3 hr3 hbl3 ho0_3
    go_wp2_with fail
    refine (eqIntS_same L ag a0 bg 0 b0' 0 _ _ cg c0 w4 rfl rfl hrg hr0_4).mono ?_
    rintro e w5 ⟨rfl, hs5⟩
    have hog5 := own_same hog hs5
    have ho0_5 := own_same ho0_4 hs5
    have ho3_5 := own_same ho3_4 hs5
    have hB5 := below_same hB4 hs5
    have hsz5 : w4.heap.size ≤ w5.heap.size := (hs5 0).size
    clear hog ho0_4 ho3_4 hB4 hrg hr0_4
    go_wp2_with fail
    refine (toIntS_any xs a b off len cap w5 HL.out (HRD.out _ hB5).1 (HRD.out _ hB5).2 hsm).mono ?_
    rintro e w6 ⟨v6, rfl, ho6, hb6⟩
    obtain ⟨-, a6, c6, b6, rfl, hx6, hr6⟩ := own_shape ho6
    have hog6 := own_now hog5 hb6
    have ho0_6 := own_now ho0_5 hb6
    have ho3_6 := own_now ho3_5 hb6
    have hB6 := bnext hB5 hb6
    obtain ⟨-, a3', c3', b3', hv, hx3', hr3_6⟩ := own_shape ho3_6
    simp only [Value.slice.injEq] at hv
    obtain ⟨rfl, -, rfl⟩ := hv
    clear hog5 ho0_5 ho3_5 hB5 ho6
    go_wp2_with fail
    refine (eqIntS_same xs a3 a6 b3' 0 b6 0 _ _ c3 c6 w6 HL.out rfl hr3_6 hr6).mono ?_
    rintro e w7 ⟨rfl, hs7⟩
    have hog7 := own_same hog6 hs7
    have ho0_7 := own_same ho0_6 hs7
    have ho3_7 := own_same ho3_6 hs7
    have hB7 := below_same hB6 hs7
    have hsz7 : w4.heap.size ≤ w7.heap.size := Nat.le_trans hsz5 (Nat.le_trans hb6.size (hs7 0).size)
    clear hog6 ho0_6 ho3_6 hB6 hr3_6 hr6
    rw [HL.out] at ho3_7
    go_wp2_with fail
    refine (markIntS_only _ xs a3 w2.heap.size _ c3 1 w7 ho3_7 (by omega) (by have := HL.out; omega)).mono ?_
    rintro e w8 ⟨rfl, ho3m, hb8, hk8⟩
    have h38 : w3.heap.size ≤ w4.heap.size := hb4.size
    have hne : ∀ k, (k < w2.heap.size ∨ w3.heap.size ≤ k) → w8.heap[k]? = w7.heap[k]? := fun k hk => by
      apply hk8
      rcases hx3 with h | h
      · exact .inl h
      · refine .inr ⟨b3, h, ?_⟩
        have h1 := hlt3 b3 (by rw [h]; rfl)
        have h2 := (ho3_7.lt b3 (by rw [h]; rfl)).1
        omega
    have hog8 := own_keep hog7 (fun k hk => hne k (.inr ((hog7.lt k hk).1)))
    have ho0_8 := own_keep ho0_7 (fun k hk => hne k (.inl (hlt0 k hk)))
    have hB8 := hB7.trans (hb8.mono hB2.size)
    have hsz8 : w4.heap.size ≤ w8.heap.size := Nat.le_trans hsz7 hb8.size
    obtain ⟨-, ag', cg', bg', hv, -, hrg8⟩ := own_shape hog8
    simp only [Value.slice.injEq] at hv
    obtain ⟨rfl, -, rfl⟩ := hv
    obtain ⟨-, a0'', c0'', b0'', hv, -, hr0_8⟩ := own_shape ho0_8
    simp only [Value.slice.injEq] at hv
    obtain ⟨rfl, -, rfl⟩ := hv
    clear hog7 ho0_7 ho3_7 hB7 hne hk8 ho3m
    go_wp2_with fail
    refine (eqIntS_same L ag a0 bg' 0 b0'' 0 _ _ cg c0 w8 rfl rfl hrg8 hr0_8).mono ?_
    rintro e w9 ⟨rfl, hs9⟩
    have hog9 := own_same hog8 hs9
    have ho0_9 := own_same ho0_8 hs9
    have hB9 := below_same hB8 hs9
    have hsz9 : w4.heap.size ≤ w9.heap.size := Nat.le_trans hsz8 (hs9 0).size
    clear hog8 ho0_8 hB8 hrg8 hr0_8
    go_wp2_with fail
    refine (markIntS_any _ L ag w3.heap.size _ cg 1 w9 hog9 (by omega) (by omega)).mono ?_
    rintro e w10 ⟨rfl, hogm, hb10⟩
    obtain ⟨-, ag'', cg'', bgm, hv, hxgm, hrm⟩ := own_shape hogm
    simp only [Value.slice.injEq] at hv
    obtain ⟨rfl, -, rfl⟩ := hv
    have hlm : (mkd 1 L.length L).length = L.length := mkd_len _ _ _ (Nat.le_refl _)
    have HLM := Lib.hid hlm
    have ho0_10 := own_later ho0_9 (fun k hk => Nat.lt_of_lt_of_le (hlt0 k hk) hb3.size) hb10
    have hB10 := hB9.trans (hb10.mono hB3.size)
    clear hlm hog9 ho0_9 hB9
    go_wp2_with fail
    refine (heldIntS_yes (mkd 1 L.length L) ag bgm 0 _ cg 1 w10 HLM.out hrm (by omega) (by rw [HLM.out]; omega) (fun j hj => mkd_all 1 L j (by rw [HLM.out] at hj; exact hj))).mono ?_
    rintro e w10 ⟨rfl, rfl⟩
    go_wp2_with fail
    refine (toIntS_any xs a b off len cap w10 HL.out (HRD.out _ hB10).1 (HRD.out _ hB10).2 hsm).mono ?_
    rintro e w11 ⟨v11, rfl, ho11, hb11⟩
    obtain ⟨-, a11, c11, b11, rfl, hx11, hr11⟩ := own_shape ho11
    have hbl11 := HB.out w11 a11 b11 c11 hx11 hr11 (fun k hk => own_lt ho11 k hk)
    have hogm11 := own_now hogm hb11
    have ho0_11 := own_now ho0_10 hb11
    have hB11 := bnext hB10 hb11
    clear ho0_10 hogm hrm hB10
    go_wp2_with fail
    rw [HL.out]
    refine (HI.out a11 b11 c11 w11 hsm hr11 hbl11).mono ?_
    rintro e w12 ⟨vh, rfl, hoh, hb12⟩
    obtain ⟨-, ah, ch, bh, rfl, hxh, hrh⟩ := own_shape hoh
    have hogm12 := own_now hogm11 hb12
    have ho0_12 := own_now ho0_11 hb12
    have hB12 := bnext hB11 hb12
    obtain ⟨-, a0x, c0x, b0x, hv, -, hr0_12⟩ := own_shape ho0_12
    simp only [Value.slice.injEq] at hv
    obtain ⟨rfl, -, rfl⟩ := hv
    clear hogm11 ho0_11 hB11 ho11 hr11 hbl11
    go_wp2_with fail
    refine (eqIntS_same L ah a0 bh 0 b0x 0 _ _ ch c0 w12 rfl rfl hrh hr0_12).mono ?_
    rintro e w13 ⟨rfl, hs13⟩
    have hogm13 := own_same hogm12 hs13
    have hB13 := below_same hB12 hs13
    obtain ⟨-, agx, cgx, bgx, hv, -, hrm13⟩ := own_shape hogm13
    simp only [Value.slice.injEq] at hv
    obtain ⟨rfl, -, rfl⟩ := hv
    clear hogm12 ho0_12 hB12 hoh hrh hr0_12
    go_wp2_with fail
    refine (heldIntS_yes (mkd 1 L.length L) ag bgx 0 _ cg 1 w13 HLM.out hrm13 (by omega) (by rw [HLM.out]; omega) (fun j hj => mkd_all 1 L j (by rw [HLM.out] at hj; exact hj))).mono ?_
    rintro e w13 ⟨rfl, rfl⟩
    go_wp2_with fail
    go_ret
    exact ⟨rfl, hB13⟩
theorem law_TurnBoard (n m : Int) (a : Option Addr) (len cap : Nat) (zs : List Int) (w : World) (_ : (Lit.int .i64 n).wf = true) (_ : (Lit.int .i64 m).wf = true) (hrow : IsRow w a len cap zs) :
    Calls Try.prog 9 #[.int .i64 n, .int .i64 m, .slice a len cap] w fun e w' => e = .returned (.bool true) ∧ Below w.heap.size w w' :=
  lawOf_TurnBoard n m a len cap zs w hrow _ _ (valTurnB_len n m (zs.take len)) (fun a' b' cap' w' _ hr hb => specTurnBoard n m _ a' b' len cap' w' (isRow_rd hrow).1 hr hb) (fun a' b' cap' w' hsm hr hb => implTurnBoard n m _ a' b' len cap' w' (isRow_rd hrow).1 hsm hr hb)
end Go.Proofs.Ythkohenobbhhmaa
