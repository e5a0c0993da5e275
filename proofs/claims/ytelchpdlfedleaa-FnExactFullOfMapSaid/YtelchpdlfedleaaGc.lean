import Derived.Test.YtelchpdlfedleaaGb
import Derived.Test.YtelchpdlfedleaaZc
namespace Go.Proofs.Ytelchpdlfedleaa
open Go.RowKit
set_option maxRecDepth 4000
theorem range_at (m k : Nat) (h : k < m) : (List.range m).getD k 0 = k := by simp [List.getD, h]
theorem ret_bey {o : Option Nat} {x : Int} (h : beyI o = x) : Ending.returned (.int .i64 x) = .returned (.int .i64 (beyI o)) := by rw [h]
set_option maxHeartbeats 1600000 in
theorem beyond_any (F : FuncId) (first caps : Array Value) (d : Int × Int → Bool) (cs : List (List Int)) (ps0 : List (Int × Int)) (m base : Nat) (r : Array Value) (x y fr : Int) (w : World) (G : Fgr F d cs ps0 m) (hrw : RmW F first caps d cs ps0 base r w) :
    Calls Try.prog 142 #[.agg r, .agg #[.int .i64 x, .int .i64 y], .int .i64 fr] w fun e w' => e = .returned (.int .i64 (beyI ((List.range cs.length).find? (beyB cs fr x y)))) ∧ Below w.heap.size w w' := by
  have hbd := G.clen
  have HA : Hid (∀ k, k < cs.length → cs.getD k [] = [cs.flatten.getD (k * 3) 0, cs.flatten.getD (k * 3 + 1) 0, cs.flatten.getD (k * 3 + 2) 0]) := Lib.hid (fun k hk => by
    obtain ⟨a, b, c, e, -, -, -, e0, e1, e2⟩ := tri_flat G.tri hk
    rw [e, e0, e1, e2])
  have HSZ := Lib.hid (rm_size hrw).1
  obtain ⟨⟨ca, cc, ba, bc, rfl, hc3, -⟩, -, -⟩ := hrw
  have hb0 := balloc (balloc (Below.refl w.heap.size w) (.cells #[.slice ca cs.length cc, .slice ba ps0.length bc, .func (.func F) first caps] 115)) (.cells #[.int .i64 x, .int .i64 y] 121)
  have hg1 : ((w.alloc (.cells #[.slice ca cs.length cc, .slice ba ps0.length bc, .func (.func F) first caps] 115)).alloc (.cells #[.int .i64 x, .int .i64 y] 121)).heap[w.heap.size]? = some (.cells #[.slice ca cs.length cc, .slice ba ps0.length bc, .func (.func F) first caps] 115 (0, 0)) := by
    rw [Below.heap_alloc _ _ _ (by simp)]
    exact heap_alloc_new w _
  have p0 : ((w.alloc (.cells #[.slice ca cs.length cc, .slice ba ps0.length bc, .func (.func F) first caps] 115)).alloc (.cells #[.int .i64 x, .int .i64 y] 121)).cell? ⟨w.heap.size + 1, 0, none⟩ = some (.int .i64 x) := by go_cell
  have p1 : ((w.alloc (.cells #[.slice ca cs.length cc, .slice ba ps0.length bc, .func (.func F) first caps] 115)).alloc (.cells #[.int .i64 x, .int .i64 y] 121)).cell? ⟨w.heap.size + 1, 1, none⟩ = some (.int .i64 y) := by go_cell
  have hsz3 : ((w.alloc (.cells #[.slice ca cs.length cc, .slice ba ps0.length bc, .func (.func F) first caps] 115)).alloc (.cells #[.int .i64 x, .int .i64 y] 121)).heap.size = w.heap.size + 2 := by simp
  have q46 := blk_cell hg1 0 (.slice ca cs.length cc) rfl
  have hc3 := trio_now hc3 hb0
  obtain ⟨hfl, a, cap, b, hv, hrd⟩ := trio_shape hc3
  obtain ⟨rfl, rfl⟩ : ca = a ∧ cc = cap := by simpa using hv
  have HF := Lib.hid hfl
  have HC := Lib.hid hc3
  have HRD := Lib.hid hrd
  have HFS := Lib.hid (fun k hk h => find_step 0 (List.range cs.length) (beyB cs fr x y) k hk h)
  have HRL : Hid ((List.range cs.length).length = cs.length) := Lib.hid (by simp)
  have HRA := Lib.hid (range_at cs.length)
  clear G hfl hc3 hrd hv hg1 HSZ
  go_enter Try.func142, Try.ntmps142
  go_wp2_with fail
  generalize ((w.alloc (.cells #[.slice ca cs.length cc, .slice ba ps0.length bc, .func (.func F) first caps] 115)).alloc (.cells #[.int .i64 x, .int .i64 y] 121)) = w3 at hb0 p0 p1 q46 HC HRD hsz3 ⊢
  go_loopw [12] (fun v12 wr => ∃ k : Nat, k ≤ cs.length ∧ v12 = .int .i64 k ∧ Hid (((List.range cs.length).take k).find? (beyB cs fr x y) = none) ∧ Below w3.heap.size w3 wr) (fun v12 _ => cs.length - (intOf v12).toNat)
  case atStart => exact ⟨0, Nat.zero_le _, rfl, Lib.hid (by simp), Below.refl _ _⟩
  case round =>
    obtain ⟨k, hk, rfl, hf, hb⟩ := hrel
    obtain ⟨wi, rfl⟩ : ∃ wi : World, wi = wr := ⟨_, rfl⟩
    by_cases hlt : k < cs.length
    · obtain ⟨rfl, c0⟩ := HRD.out (k * 3) (by have := HF.out; omega)
      have c1 := (HRD.out (k * 3 + 1) (by have := HF.out; omega)).2
      have c2 := (HRD.out (k * 3 + 2) (by have := HF.out; omega)).2
      have hbl : b < w3.heap.size := own_lt HC.out b rfl
      have d0 := (hb.cell (p := ⟨b, k * 3, none⟩) hbl).trans c0
      have d1 := (hb.cell (p := ⟨b, k * 3 + 1, none⟩) hbl).trans c1
      have d2 := (hb.cell (p := ⟨b, k * 3 + 2, none⟩) hbl).trans c2
      have q0 := (hb.cell (p := ⟨w.heap.size + 1, 0, none⟩) (by show w.heap.size + 1 < _; omega)).trans p0
      have q1 := (hb.cell (p := ⟨w.heap.size + 1, 1, none⟩) (by show w.heap.size + 1 < _; omega)).trans p1
      clear c0 c1 c2
      have hE := HA.out k hlt
      have HW : Hid (beyB cs fr x y k = (((k : Int) != fr) && (hasB (cs.getD k []) x && hasB (cs.getD k []) y))) := Lib.hid rfl
      rw [hE] at HW
      clear hE
      have HS := HFS.out k (by rw [HRL.out]; exact hlt) hf.out
      rw [HRA.out k hlt] at HS
      have HS := Lib.hid HS
      have hwb := hb.size
      have hki : (k : Int) < (cs.length : Int) := by omega
      generalize cs.flatten.getD (k * 3) 0 = x0 at d0 HW
      generalize cs.flatten.getD (k * 3 + 1) 0 = y0 at d1 HW
      generalize cs.flatten.getD (k * 3 + 2) 0 = z0 at d2 HW
      have r0 : (wi.alloc (.cells #[.int .i64 x0, .int .i64 y0, .int .i64 z0] 61)).cell? ⟨w.heap.size + 1, 0, none⟩ = some (.int .i64 x) := (World.cell?_alloc_past _ _ _ (by show w.heap.size + 1 < _; omega)).trans q0
      have HB := Lib.hid (hb.alloc hwb (.cells #[.int .i64 x0, .int .i64 y0, .int .i64 z0] 61))
      cases hkf : ((k : Int) != fr)
      · have e := Lib.hid (HS.out.2 (by rw [HW.out, hkf]; rfl))
        go_wp2_with fail
        go_roundw
        case rel => exact ⟨k + 1, by omega, by go_num, e, HB.out⟩
        case measure => simp [intOf]; omega
      · have HKF := Lib.hid hkf
        go_wp2_with fail
        refine (trioHas_any x0 y0 z0 x _).mono ?_
        rintro e w4 ⟨rfl, hb4⟩
        have t0 : w4.cell? ⟨wi.heap.size, 0, none⟩ = some (.int .i64 x0) := by rw [hb4.cell (by simp)]; go_cell
        have t1 : w4.cell? ⟨wi.heap.size, 1, none⟩ = some (.int .i64 y0) := by rw [hb4.cell (by simp)]; go_cell
        have t2 : w4.cell? ⟨wi.heap.size, 2, none⟩ = some (.int .i64 z0) := by rw [hb4.cell (by simp)]; go_cell
        have hB4 := HB.out.trans (hb4.mono (by simp; omega))
        have s1 := (hB4.cell (p := ⟨w.heap.size + 1, 1, none⟩) (by show w.heap.size + 1 < _; omega)).trans p1
        clear hb hb4 d0 d1 d2 r0 q0 q1 hkf
        cases h1 : hasB [x0, y0, z0] x
        · have e := Lib.hid (HS.out.2 (by rw [HW.out, h1]; simp))
          clear h1
          go_wp2_with fail
          go_roundw
          case rel => exact ⟨k + 1, by omega, by go_num, e, hB4⟩
          case measure => simp [intOf]; omega
        · have H1 := Lib.hid h1
          clear h1
          go_wp2_with fail
          refine (trioHas_any x0 y0 z0 y _).mono ?_
          rintro e w5 ⟨rfl, hb5⟩
          have hB5 := bnext hB4 hb5
          clear hB4 hb5 t0 t1 t2 s1
          cases h2 : hasB [x0, y0, z0] y
          · have e := Lib.hid (HS.out.2 (by rw [HW.out, H1.out, h2]; simp))
            clear h2
            go_wp2_with fail
            go_roundw
            case rel => exact ⟨k + 1, by omega, by go_num, e, hB5⟩
            case measure => simp [intOf]; omega
          · have e := Lib.hid (HS.out.1 (by rw [HW.out, H1.out, h2, HKF.out]; rfl))
            clear h2
            go_wp2_with fail
            go_ret
            exact ⟨ret_bey (by rw [e.out]; rfl), bnext hb0 hB5⟩
    · have e : Hid ((List.range cs.length).find? (beyB cs fr x y) = none) := by
        have := hf.out
        rwa [show k = (List.range cs.length).length by rw [HRL.out]; omega, List.take_length] at this
      go_wp2_with fail
      go_ret
      exact ⟨ret_bey (by rw [e.out]; rfl), bnext hb0 hb⟩
set_option maxHeartbeats 1600000 in
theorem otherDoor_any (F : FuncId) (first caps : Array Value) (d : Int × Int → Bool) (cs : List (List Int)) (ps0 : List (Int × Int)) (m base : Nat) (r : Array Value) (k0 : Nat) (x y : Int) (w : World) (G : Fgr F d cs ps0 m) (hrw : RmW F first caps d cs ps0 base r w) (hk0 : k0 < cs.length) :
    Calls Try.prog 143 #[.agg r, .int .i64 k0, .agg #[.int .i64 x, .int .i64 y]] w fun e w' => e = .returned (fp ((gd (cpr cs) d k0).find? (fun q => !sameB q (x, y)))) ∧ Below w.heap.size w w' := by
  obtain ⟨hsz, hone⟩ := rm_size hrw
  have hb0 := balloc (balloc (balloc (Below.refl w.heap.size w) (.cells r 115)) (.cells #[.int .i64 x, .int .i64 y] 121)) (.cells #[.int .i64 0, .int .i64 0] 121)
  have hg1 : ((((w.alloc (.cells r 115)).alloc (.cells #[.int .i64 x, .int .i64 y] 121)).alloc (.cells #[.int .i64 0, .int .i64 0] 121))).heap[w.heap.size]? = some (.cells r 115 (0, 0)) := by
    rw [Below.heap_alloc _ _ _ (by simp; omega), Below.heap_alloc _ _ _ (by simp)]
    exact heap_alloc_new w _
  have p0 : ((((w.alloc (.cells r 115)).alloc (.cells #[.int .i64 x, .int .i64 y] 121)).alloc (.cells #[.int .i64 0, .int .i64 0] 121))).cell? ⟨w.heap.size + 1, 0, none⟩ = some (.int .i64 x) := by go_cell
  have p1 : ((((w.alloc (.cells r 115)).alloc (.cells #[.int .i64 x, .int .i64 y] 121)).alloc (.cells #[.int .i64 0, .int .i64 0] 121))).cell? ⟨w.heap.size + 1, 1, none⟩ = some (.int .i64 y) := by go_cell
  have hz1 : ((((w.alloc (.cells r 115)).alloc (.cells #[.int .i64 x, .int .i64 y] 121)).alloc (.cells #[.int .i64 0, .int .i64 0] 121))).heap[w.heap.size + 1 + 1]? = some (.cells #[.int .i64 0, .int .i64 0] 121 (0, 0)) := by
    have e := heap_alloc_new ((w.alloc (.cells r 115)).alloc (.cells #[.int .i64 x, .int .i64 y] 121)) (.cells #[.int .i64 0, .int .i64 0] 121)
    rwa [World.size_alloc, World.size_alloc] at e
  have hsz3 : ((((w.alloc (.cells r 115)).alloc (.cells #[.int .i64 x, .int .i64 y] 121)).alloc (.cells #[.int .i64 0, .int .i64 0] 121))).heap.size = w.heap.size + 3 := by simp
  have HD := Lib.hid (fun w' hb => doorsOf_any F first caps d cs ps0 m base r k0 w' G (hrw.later (bnext hb0 hb)) hk0)
  have HF := Lib.hid (fun k hk h => find_step (0, 0) (gd (cpr cs) d k0) (fun q => !sameB q (x, y)) k hk h)
  have hbl : (gd (cpr cs) d k0).length ≤ 3 := Nat.le_trans (List.length_filter_le _ _) (by rw [cpr_len]; omega)
  clear G hrw hk0
  generalize gd (cpr cs) d k0 = ps at HF hbl HD ⊢
  go_enter Try.func143, Try.ntmps143
  go_wp2_with ((with_reducible refine load_blk blkRms ?_ _ rfl w.heap.size ?_ r hg1 hsz ?_); exact rfl; exact rfl; simp only [Act.put, List.setIfInBounds_toArray, List.set_cons_zero, List.set_cons_succ])
  generalize ((((w.alloc (.cells r 115)).alloc (.cells #[.int .i64 x, .int .i64 y] 121)).alloc (.cells #[.int .i64 0, .int .i64 0] 121))) = w1 at hb0 hg1 p0 p1 hz1 HD hsz3 ⊢
  refine (HD.out w1 (Below.refl _ _)).mono ?_
  rintro e w2 ⟨v, rfl, hp, hb2⟩
  obtain ⟨a, cap, b, rfl, hrd⟩ := pair_shape hp
  have HR := Lib.hid hrd
  have p0' := (hb2.cell (p := ⟨w.heap.size + 1, 0, none⟩) (by show w.heap.size + 1 < _; omega)).trans p0
  have p1' := (hb2.cell (p := ⟨w.heap.size + 1, 1, none⟩) (by show w.heap.size + 1 < _; omega)).trans p1
  have hz2' := (hb2.block (w.heap.size + 1 + 1) (by omega)).trans hz1
  have hz2 := hb2.size
  have hB2 := bnext hb0 hb2
  clear p0 p1 hz1 hp hrd hg1 hb2 hb0 HD
  go_wp2_with fail
  go_loopw [14] (fun v14 wr => ∃ k : Nat, k ≤ ps.length ∧ v14 = .int .i64 k ∧ Hid ((ps.take k).find? (fun q => !sameB q (x, y)) = none) ∧ Below w2.heap.size w2 wr) (fun v14 _ => ps.length - (intOf v14).toNat)
  case atStart => exact ⟨0, Nat.zero_le _, rfl, Lib.hid (by simp), Below.refl _ _⟩
  case round =>
    obtain ⟨k, hk, rfl, hf, hb⟩ := hrel
    have q0 := (hb.cell (p := ⟨w.heap.size + 1, 0, none⟩) (by show w.heap.size + 1 < _; omega)).trans p0'
    have q1 := (hb.cell (p := ⟨w.heap.size + 1, 1, none⟩) (by show w.heap.size + 1 < _; omega)).trans p1'
    have hz := hb.size
    by_cases hlt : k < ps.length
    · obtain ⟨rfl, hbl', c0, c1⟩ := (HR.out.later hb) k hlt
      have HS := Lib.hid (HF.out k hlt hf.out)
      have hki : (k : Int) < (ps.length : Int) := by omega
      generalize ps.getD k (0, 0) = p at c0 c1 HS
      obtain ⟨p, q⟩ := p
      simp only at c0 c1
      obtain ⟨wi, hwi⟩ : ∃ wi : World, wi = wr := ⟨_, rfl⟩
      subst hwi
      have r0 : (wi.alloc (.cells #[.int .i64 p, .int .i64 q] 121)).cell? ⟨w.heap.size + 1, 0, none⟩ = some (.int .i64 x) := (World.cell?_alloc_past _ _ _ (by show w.heap.size + 1 < _; omega)).trans q0
      have r1 : (wi.alloc (.cells #[.int .i64 p, .int .i64 q] 121)).cell? ⟨w.heap.size + 1, 1, none⟩ = some (.int .i64 y) := (World.cell?_alloc_past _ _ _ (by show w.heap.size + 1 < _; omega)).trans q1
      have hb' := hb.alloc hz (.cells #[.int .i64 p, .int .i64 q] 121)
      clear q0 q1 hb
      go_wp2_with fail
      refine (isSame_any p q x y _).mono ?_
      rintro e w3 ⟨rfl, hb3⟩
      have hb4 := hb'.trans (hb3.mono (by simp; omega))
      have t0 : w3.cell? ⟨wi.heap.size, 0, none⟩ = some (.int .i64 p) := by rw [hb3.cell (by simp)]; go_cell
      have t1 : w3.cell? ⟨wi.heap.size, 1, none⟩ = some (.int .i64 q) := by rw [hb3.cell (by simp)]; go_cell
      have hz4 := (hb4.block (w.heap.size + 1 + 1) (by omega)).trans hz2'
      have hB4 := bnext hB2 hb4
      clear hb' hb3 r0 r1 c0 c1
      cases hs : sameB (p, q) (x, y)
      · have e := Lib.hid (HS.out.1 (by simp only [hs]; rfl))
        clear hs
        go_wp2_with ((with_reducible refine store_blk blkPair rfl _ _ rfl (w.heap.size + 1 + 1) #[.int .i64 p, .int .i64 q] #[.int .i64 0, .int .i64 0] ?_ ?_ hz4 (pair_size _ _) (pair_size _ _) (pair_one _ _) w.heap.size (by omega) ?_); exact rfl; exact rfl; intro w5 hg5 hb5 _ _)
        exact bodyPost_ret (results_blk blkPair rfl _ _ (w.heap.size + 1 + 1) _ (.bool true) rfl rfl hg5 rfl) rfl ⟨ret_fp e.out, hB4.trans hb5⟩
      · have e := Lib.hid (HS.out.2 (by simp only [hs]; rfl))
        clear hs
        go_wp2_with fail
        go_roundw
        case rel => exact ⟨k + 1, by omega, by go_num, e, hb4⟩
        case measure => simp [intOf]; omega
    · have e : Hid (ps.find? (fun q => !sameB q (x, y)) = none) := by
        have := hf.out
        rwa [show k = ps.length by omega, List.take_length] at this
      have hz4 := (hb.block (w.heap.size + 1 + 1) (by omega)).trans hz2'
      have hB4 := bnext hB2 hb
      go_wp2_with ((with_reducible refine store_blk blkPair rfl _ _ rfl (w.heap.size + 1 + 1) #[.int .i64 0, .int .i64 0] #[.int .i64 0, .int .i64 0] ?_ ?_ hz4 (pair_size _ _) (pair_size _ _) (pair_one _ _) w.heap.size (by omega) ?_); exact rfl; exact rfl; intro w5 hg5 hb5 _ _)
      exact bodyPost_ret (results_blk blkPair rfl _ _ (w.heap.size + 1 + 1) _ (.bool false) rfl rfl hg5 rfl) rfl ⟨ret_fn e.out, hB4.trans hb5⟩
theorem beyond_go (F : FuncId) (first caps : Array Value) (d : Int × Int → Bool) (cs : List (List Int)) (ps0 : List (Int × Int)) (m base : Nat) (r : Array Value) (x y fr : Int) (w : World) (G : Fgr F d cs ps0 m) (hrw : RmW F first caps d cs ps0 base r w) (h : x ≠ y) :
    Calls Try.prog 142 #[.agg r, .agg #[.int .i64 x, .int .i64 y], .int .i64 fr] w fun e w' => e = .returned (.int .i64 (beyI (gAcr cs.length (cpr cs) fr (inner (x, y))))) ∧ Below w.heap.size w w' := by
  have e := beyond_any F first caps d cs ps0 m base r x y fr w G hrw
  rwa [bey_eq G.tri fr x y h] at e
theorem otherDoor_go (F : FuncId) (first caps : Array Value) (d : Int × Int → Bool) (cs : List (List Int)) (ps0 : List (Int × Int)) (m base : Nat) (r : Array Value) (k x y : Int) (k0 : Nat) (w : World) (G : Fgr F d cs ps0 m) (hrw : RmW F first caps d cs ps0 base r w) (hk : k = k0) (hk0 : k0 < cs.length) :
    Calls Try.prog 143 #[.agg r, .int .i64 k, .agg #[.int .i64 x, .int .i64 y]] w fun e w' => e = .returned (fp (gOth (cpr cs) d k0 (inner (x, y)))) ∧ Below w.heap.size w w' := by
  subst hk
  have e := otherDoor_any F first caps d cs ps0 m base r k0 x y w G hrw hk0
  rwa [oth_eq G.tri d hk0] at e
end Go.Proofs.Ytelchpdlfedleaa
