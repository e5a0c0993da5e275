import Derived.Test.YtianmmjjcegkjaaDoorH2b
import Derived.Test.YtianmmjjcegkjaaDoorHi
namespace Go.Proofs.YtianmmjjcegkjaaDoor
open Go.RowKit
set_option maxRecDepth 4000
set_option maxHeartbeats 6400000 in
theorem hxNeed2_any (n m s : Nat) (xs : List Int) (a : Option Addr) (b len cap : Nat) (w : World) (hn : xs.length = len) (h : Rd w a b 0 xs) (hb0 : len = 0 ∨ b < w.heap.size) (h1 : 1 ≤ n) (h2 : 1 ≤ m) (hnm : n * m = s) (h30 : s ≤ 30) (hl : len = s) (hA : allB 0 2 xs = true) :
    Calls Tryd.prog 8 #[.int .i64 n, .int .i64 m, .slice a len cap, .int .i64 2] w fun e w' => e = .returned (.int .i64 ((hNet n m s xs 2).bst ((hNet n m s xs 2).itr s) s : Nat)) ∧ Below w.heap.size w w' := by
  obtain ⟨i0, hi0, hq0, hq1, hq2⟩ := info_parts intInfo
  subst hl
  have hms : m ≤ len := by rw [← hnm]; exact Nat.le_mul_of_pos_left m h1
  have hml : len ≤ len * 1 := by omega
  have hp1 : (n : Int) * (m : Int) = (len : Int) := by rw [← hnm]; exact (Int.natCast_mul n m).symm
  have hp2 : wrap64 ((n : Int) * (m : Int)) = (len : Int) := by rw [hp1, IntWalk.wrap64_in _ ⟨by omega, by omega⟩]
  have hp3 : IntKind.i64.wrap ((n : Int) * (m : Int)) = (len : Int) := by rw [hp1, IntWalk.i64_in _ ⟨by omega, by omega⟩]
  have hm0 : (m : Int) ≠ 0 := by omega
  have HRD := Lib.hid (fun w' (hb : Below w.heap.size w w') => h.later hn hb0 hb)
  have HN := Lib.hid hn
  have HA := Lib.hid hA
  have HNM := Lib.hid hnm
  have HFL := Lib.hid (fun F => frow_len F len)
  have HAR := Lib.hid (fun i (hi : i < len) w => hxAround_any n m len i h2 hnm (by omega) hi w)
  have HNB := Lib.hid (fun i => hNet_nb xs 2 h2 hnm i)
  clear h hb0 hn hA hnm hp1
  go_enter Tryd.func8, Tryd.ntmps8
  go_wp2_with (at_make; refine wpList_make_full _ rfl _ _ 27 rfl w.heap.size 3 i0 (.int .i64 0) 1 Tryd.underlying27 hi0 hq0 hq1 _ _ _ _ len rfl rfl ?hC ?hL ?hb2 ?hb3 ?hb4 ?_)
  case hC => rfl
  case hL => rfl
  case hb2 => rw [hq2]; omega
  case hb3 => unfold maxLen; omega
  case hb4 => exact Nat.le_refl _
  intro w1 ho1 hg1
  have ho1' : w1.ownsRow w.heap.size 3 1 (.slice (some ⟨w.heap.size, 0, none⟩) len len) len ((frow (fi2 n m len xs 0) len).map (Value.int .i64)) := by
    rw [fi2_zero, List.map_replicate]
    first | exact made_ints len ▸ ho1 | exact made_ints' len ▸ ho1
  have hB1 : Below w.heap.size w w1 := (Below.refl _ _).grown hg1 (Nat.le_refl _) (fun k hk => by cases hk)
  obtain ⟨hgot, hlo⟩ := full_obj ho1'
  have hK1 : HK w w.heap.size _ w1 := ⟨hgot, hlo, hB1⟩
  clear ho1 hg1 ho1' hB1 hgot hlo
  go_wp2_with fail
  go_loopw [27] (fun v27 wr => ∃ k : Nat, k ≤ len ∧ v27 = .int .i64 k ∧ HK w w.heap.size (frow (fi2 n m len xs k) len) wr) (fun v27 _ => len - (intOf v27).toNat)
  case atStart => exact ⟨0, Nat.zero_le _, rfl, hK1⟩
  case round =>
    clear hK1
    obtain ⟨k, hk, rfl, hK⟩ := hrel
    by_cases hlt : k < len
    · have hki : (k : Int) < (len : Int) := by omega
      have hfl := HFL.out (fi2 n m len xs k)
      have hkl : k < (frow (fi2 n m len xs k) len).length := by rw [hfl]; exact hlt
      have hgot := hK.got
      obtain ⟨l0, l2⟩ := allB_at HA.out k (by rw [HN.out]; exact hlt)
      have HS0 := Lib.hid (frow_set (fi2 n m len xs k) len k (len + 1))
      have HNO := Lib.hid (fun h => fi2_step n m len xs k (len + 1) (ini2_no n m len xs k h))
      have HYE := Lib.hid (fun v h1 h2 (h3 : (if xs.getD k 0 = 0 then 1 else 0) = v) => fi2_step n m len xs k v ((ini2_yes n m len xs k hlt h1 h2).trans h3))
      obtain ⟨z, hz⟩ : ∃ z, z = len + 1 := ⟨_, rfl⟩
      have hs2 : IntKind.i64.wrap ((len : Int) + 1) = (z : Int) := by rw [IntWalk.i64_in _ ⟨by omega, by omega⟩]; omega
      have hs3 : wrap64 ((len : Int) + 1) = (z : Int) := by rw [IntWalk.wrap64_in _ ⟨by omega, by omega⟩]; omega
      rw [← hz] at HS0 HNO
      clear hz
      obtain ⟨r, hr⟩ : ∃ r : Nat, r = k % m := ⟨_, rfl⟩
      have e1 : Int.tmod (k : Int) (m : Int) = (r : Int) := by rw [hr]; exact (Int.ofNat_tmod k m).symm
      have hrk : r ≤ k := by rw [hr]; exact Nat.mod_le _ _
      have e7 : IntKind.i64.wrap (r : Int) = (r : Int) := IntWalk.i64_in _ ⟨by omega, by omega⟩
      have e8 : wrap64 (r : Int) = (r : Int) := IntWalk.wrap64_in _ ⟨by omega, by omega⟩
      rw [← hr] at HNO HYE
      have hm0n : ¬ m = 0 := by omega
      clear hr
      obtain ⟨rfl, -⟩ := (HRD.out wr hK.old).2 k (by rw [HN.out]; exact hlt)
      have HX := Lib.hid (fun w' (hb : Below w.heap.size w w') => (by have e := ((HRD.out w' hb).2 k (by rw [HN.out]; exact hlt)).2; rwa [Nat.zero_add] at e : w'.cell? ⟨b, k, none⟩ = some (.int .i64 (xs.getD k 0))))
      have HS1 : Hid (∀ u v : Nat, (frow (fun x => if x = k then u else fi2 n m len xs k x) len).set k (v : Int) = frow (fun x => if x = k then v else fi2 n m len xs k x) len) := Lib.hid (fun u v => by
        rw [frow_set]
        refine frow_congr fun x _ => ?_
        by_cases e : x = k <;> simp [e])
      have HS2 := Lib.hid (HS1.out z 0)
      have HS3 := Lib.hid (HS1.out 0 1)
      generalize xs.getD k 0 = x at HX l0 l2 HNO HYE
      have HKL : Hid (∀ F, k < (frow F len).length) := Lib.hid (fun F => by rw [HFL.out]; exact hlt)
      cases hop : (x != 1)
      · have e := Lib.hid (HNO.out (by rw [hop, Bool.and_false]))
        go_wp2_with ((with_reducible refine store_int rfl _ _ rfl (w.heap.size) k ((z : Int)) ?_ ?_ (frow (fi2 n m len xs k) len) hgot (HKL.out _) ?_); exact rfl; exact rfl; intro w2 hg2 hk2 hz2 hb2; have hK2 := hK.set (HS0.out ▸ hg2) hb2; have hgot2 := hK2.got; have cx2 := HX.out w2 hK2.old)
        rw [e.out] at hK2
        go_roundw
        case rel => exact ⟨k + 1, by omega, by go_num, hK2⟩
        case measure => simp [intOf]; omega
      · cases hst : decide (r = 0)
        · have e := Lib.hid (HNO.out (by rw [hst]; rfl))
          have hsi : ((r : Int) == 0) = false := by simp at hst ⊢; omega
          have hsn : ¬ r = 0 := by simpa using hst
          clear hst
          go_wp2_with ((with_reducible refine store_int rfl _ _ rfl (w.heap.size) k ((z : Int)) ?_ ?_ (frow (fi2 n m len xs k) len) hgot (HKL.out _) ?_); exact rfl; exact rfl; intro w2 hg2 hk2 hz2 hb2; have hK2 := hK.set (HS0.out ▸ hg2) hb2; have hgot2 := hK2.got; have cx2 := HX.out w2 hK2.old)
          rw [e.out] at hK2
          go_roundw
          case rel => exact ⟨k + 1, by omega, by go_num, hK2⟩
          case measure => simp [intOf]; omega
        · have hsi : ((r : Int) == 0) = true := by simp at hst ⊢; omega
          have hsn : r = 0 := by simpa using hst
          by_cases hx : x = 0
          · have e := Lib.hid (HYE.out 1 hst hop (if_pos hx))
            have hx0 : (x == 0) = true := by simpa using hx
            clear hst hx
            go_wp2_with (first | ((with_reducible refine store_int rfl _ _ rfl (w.heap.size) k ((z : Int)) ?_ ?_ (frow (fi2 n m len xs k) len) hgot (HKL.out _) ?_); exact rfl; exact rfl; intro w2 hg2 hk2 hz2 hb2; have hK2 := hK.set (HS0.out ▸ hg2) hb2; have hgot2 := hK2.got; have cx2 := HX.out w2 hK2.old) | ((with_reducible refine store_int rfl _ _ rfl (w.heap.size) k (0) ?_ ?_ (frow (fun x => if x = k then z else fi2 n m len xs k x) len) hgot2 (HKL.out _) ?_); exact rfl; exact rfl; intro w3 hg3 hk3 hz3 hb3; have hK3 := hK2.set (HS2.out ▸ hg3) hb3; have hgot3 := hK3.got; have cx3 := HX.out w3 hK3.old) | ((with_reducible refine store_int rfl _ _ rfl (w.heap.size) k (1) ?_ ?_ (frow (fun x => if x = k then 0 else fi2 n m len xs k x) len) hgot3 (HKL.out _) ?_); exact rfl; exact rfl; intro w4 hg4 hk4 hz4 hb4; have hK4 := hK3.set (HS3.out ▸ hg4) hb4; have hgot4 := hK4.got; have cx4 := HX.out w4 hK4.old))
            rw [e.out] at hK4
            go_roundw
            case rel => exact ⟨k + 1, by omega, by go_num, hK4⟩
            case measure => simp [intOf]; omega
          · have e := Lib.hid (HYE.out 0 hst hop (if_neg hx))
            have hx0 : (x == 0) = false := by simpa using hx
            clear hst
            go_wp2_with (first | ((with_reducible refine store_int rfl _ _ rfl (w.heap.size) k ((z : Int)) ?_ ?_ (frow (fi2 n m len xs k) len) hgot (HKL.out _) ?_); exact rfl; exact rfl; intro w2 hg2 hk2 hz2 hb2; have hK2 := hK.set (HS0.out ▸ hg2) hb2; have hgot2 := hK2.got; have cx2 := HX.out w2 hK2.old) | ((with_reducible refine store_int rfl _ _ rfl (w.heap.size) k (0) ?_ ?_ (frow (fun x => if x = k then z else fi2 n m len xs k x) len) hgot2 (HKL.out _) ?_); exact rfl; exact rfl; intro w3 hg3 hk3 hz3 hb3; have hK3 := hK2.set (HS2.out ▸ hg3) hb3; have hgot3 := hK3.got; have cx3 := HX.out w3 hK3.old))
            rw [e.out] at hK3
            go_roundw
            case rel => exact ⟨k + 1, by omega, by go_num, hK3⟩
            case measure => simp [intOf]; omega
    · obtain rfl : k = len := by omega
      have HIT : Hid (frow (fi2 n m k xs k) k = frow ((hNet n m k xs 2).itr 0) k) := Lib.hid (frow_congr fun x hx => if_pos hx)
      rw [HIT.out] at hK
      clear HIT hlt
      go_wp2_with fail
      go_loopw [12] (fun v12 wr => ∃ r : Nat, r ≤ k ∧ v12 = .int .i64 r ∧ HK w w.heap.size (frow ((hNet n m k xs 2).itr r) k) wr) (fun v12 _ => k - (intOf v12).toNat)
      case atStart => exact ⟨0, Nat.zero_le _, rfl, hK⟩
      case round =>
        clear hK
        obtain ⟨r, hr, rfl, hK⟩ := hrel
        by_cases hrk : r < k
        · have hri : (r : Int) < (k : Int) := by omega
          go_wp2_with fail
          go_loopw [80] (fun v80 wr => ∃ i : Nat, i ≤ k ∧ v80 = .int .i64 i ∧ HK w w.heap.size (frow ((hNet n m k xs 2).pas ((hNet n m k xs 2).itr r) i) k) wr) (fun v80 _ => k - (intOf v80).toNat)
          case atStart => exact ⟨0, Nat.zero_le _, rfl, hK⟩
          case round =>
            clear hK
            obtain ⟨i, hi, rfl, hK⟩ := hrel
            by_cases hik : i < k
            · have hii : (i : Int) < (k : Int) := by omega
              have HPB : Hid (∀ x, (hNet n m k xs 2).pas ((hNet n m k xs 2).itr r) i x ≤ k + 1) := Lib.hid (fun x => (Net.pas_sound (Net.itr_sound r) i x).1)
              have HPS := Lib.hid (stp_all (hNet n m k xs 2) i ((hNet n m k xs 2).itr r) k)
              go_wp2_with fail
              refine (HAR.out i hik _).mono ?_
              rintro e w3 ⟨v, rfl, ho, hb3⟩
              have hK3 := hK.below hb3
              rw [← HNB.out i] at ho
              obtain ⟨hln, sa, sc, sb, rfl, hsb, hrd⟩ := own_far ho hK.lt
              rw [hln, List.length_map]
              have hjs : ∀ j ∈ (hNet n m k xs 2).nb i, j < k := fun j hj => (hNet n m k xs 2).hnb i j hj
              clear ho hb3 hK hln
              generalize (hNet n m k xs 2).nb i = js at HPS hrd hjs ⊢
              generalize (hNet n m k xs 2).pas ((hNet n m k xs 2).itr r) i = F at HPB HPS hK3
              have hjm : js.length ≤ maxLen := by have := hrd.1; rwa [List.length_map] at this
              unfold maxLen at hjm
              have HJS := Lib.hid hjs
              clear hjs
              go_wp2_with fail
              go_loopw [88] (fun v88 wr => ∃ t : Nat, t ≤ js.length ∧ v88 = .int .i64 t ∧ HK w w.heap.size (frow (stp (hNet n m k xs 2) i F (js.take t)) k) wr ∧ Rd wr sa sb 0 (js.map (fun (j : Nat) => (j : Int)))) (fun v88 _ => js.length - (intOf v88).toNat)
              case atStart => exact ⟨0, Nat.zero_le _, rfl, hK3, hrd⟩
              case round =>
                clear hK3 hrd
                obtain ⟨t, ht, rfl, hK, hrd⟩ := hrel
                by_cases htl : t < js.length
                · have hti : (t : Int) < (js.length : Int) := by omega
                  obtain ⟨rfl, cj⟩ := hrd.2 t (by rw [List.length_map]; exact htl)
                  rw [ints_at js t htl, Nat.zero_add] at cj
                  have hjl := HJS.out _ (getD_mem js t htl)
                  have HST := Lib.hid (stp_take (hNet n m k xs 2) i F js t htl)
                  have HFB : Hid (∀ x, stp (hNet n m k xs 2) i F (js.take t) x ≤ k + 1) := Lib.hid (fun x => Nat.le_trans (stp_le (hNet n m k xs 2) i F (js.take t) x) (HPB.out x))
                  generalize stp (hNet n m k xs 2) i F (js.take t) = F' at HST HFB hK
                  generalize js.getD t 0 = j at HST cj hjl
                  have hji : (j : Int) < (k : Int) := by omega
                  obtain ⟨rfl, cx⟩ := (HRD.out wr hK.old).2 j (by rw [HN.out]; exact hjl)
                  rw [Nat.zero_add] at cx
                  have HOP := Lib.hid (op2_at n m k xs j)
                  have HCS := Lib.hid (cst2_at n m k xs j)
                  obtain ⟨l0, l2⟩ := allB_at HA.out j (by rw [HN.out]; exact hjl)
                  generalize xs.getD j 0 = x at cx HOP HCS l0 l2
                  have cfi := hK.cell (k := i) (by rw [frow_len]; exact hik)
                  have cfj := hK.cell (k := j) (by rw [frow_len]; exact hjl)
                  rw [frow_at _ hik] at cfi
                  rw [frow_at _ hjl] at cfj
                  have hgot := hK.got
                  have hFi := HFB.out i
                  have hFj := HFB.out j
                  have HRL := Lib.hid (fun v => rl_row (hNet n m k xs 2) F' i j k v)
                  have HNOR := Lib.hid (rl_no (hNet n m k xs 2) F' i j)
                  have HJL : Hid (j < (frow F' k).length) := Lib.hid (by rw [frow_len]; exact hjl)
                  by_cases hxq : x = 1
                  · have hxb : (x == 1) = true := by simpa using hxq
                    have e := Lib.hid (HNOR.out (by rw [HOP.out]; simpa using hxq))
                    rw [← e.out, ← HST.out] at hK
                    clear HOP HCS hxq
                    go_wp2_with fail
                    go_roundw
                    case rel => exact ⟨t + 1, by omega, by go_num, hK, hrd⟩
                    case measure => simp [intOf]; omega
                  · have hxb : (x == 1) = false := by simpa using hxq
                    have hop : (hNet n m k xs 2).op j = true := by rw [HOP.out]; simpa using hxq
                    by_cases hx : x = 0
                    · have hx0 : (x == 0) = true := by simpa using hx
                      obtain ⟨fi, hfi⟩ : ∃ fi, F' i = fi := ⟨_, rfl⟩
                      obtain ⟨fj, hfj⟩ : ∃ fj, F' j = fj := ⟨_, rfl⟩
                      obtain ⟨z, hz⟩ : ∃ z, z = fi + 1 := ⟨_, rfl⟩
                      have e := Lib.hid (HRL.out z hop (by rw [HCS.out, if_pos hx, hfi, hz]))
                      rw [hfi] at cfi hFi
                      rw [hfj] at cfj hFj e
                      rw [← HST.out] at e
                      have hs2 : IntKind.i64.wrap ((fi : Int) + 1) = (z : Int) := by rw [IntWalk.i64_in _ ⟨by omega, by omega⟩]; omega
                      have hs3 : wrap64 ((fi : Int) + 1) = (z : Int) := by rw [IntWalk.wrap64_in _ ⟨by omega, by omega⟩]; omega
                      clear HOP HCS hxq hx hfi hfj hz HRL HNOR hop
                      go_wp2_with fail
                      refine (l1LeastJ_any _ _ _).mono ?_
                      rintro e2 w4 ⟨rfl, rfl⟩
                      go_wp2_with (((with_reducible refine store_int rfl _ _ rfl (w.heap.size) j (lsJ (fj : Int) (z : Int)) ?_ ?_ (frow F' k) hgot HJL.out ?_); exact rfl; exact rfl; intro w2 hg2 hk2 hz2 hb2; have hK2 := hK.set hg2 hb2))
                      rw [e.out] at hK2
                      go_roundw
                      case rel => exact ⟨t + 1, by omega, by go_num, hK2, rd_oth hrd (hk2 _ hsb)⟩
                      case measure => simp [intOf]; omega
                    · have hx0 : (x == 0) = false := by simpa using hx
                      obtain ⟨fi, hfi⟩ : ∃ fi, F' i = fi := ⟨_, rfl⟩
                      obtain ⟨fj, hfj⟩ : ∃ fj, F' j = fj := ⟨_, rfl⟩
                      have e := Lib.hid (HRL.out fi hop (by rw [HCS.out, if_neg hx, hfi, Nat.add_zero]))
                      rw [hfi] at cfi hFi
                      rw [hfj] at cfj hFj e
                      rw [← HST.out] at e
                      clear HOP HCS hfi hfj HRL HNOR hop
                      go_wp2_with fail
                      refine (l1LeastJ_any _ _ _).mono ?_
                      rintro e2 w4 ⟨rfl, rfl⟩
                      go_wp2_with (((with_reducible refine store_int rfl _ _ rfl (w.heap.size) j (lsJ (fj : Int) (fi : Int)) ?_ ?_ (frow F' k) hgot HJL.out ?_); exact rfl; exact rfl; intro w2 hg2 hk2 hz2 hb2; have hK2 := hK.set hg2 hb2))
                      rw [e.out] at hK2
                      go_roundw
                      case rel => exact ⟨t + 1, by omega, by go_num, hK2, rd_oth hrd (hk2 _ hsb)⟩
                      case measure => simp [intOf]; omega
                · obtain rfl : t = js.length := by omega
                  rw [List.take_length, HPS.out] at hK
                  clear htl
                  go_wp2_with fail
                  go_roundw
                  case rel => exact ⟨i + 1, by omega, by go_num, hK⟩
                  case measure => simp [intOf]; omega
            · obtain rfl : i = k := by omega
              have HIS : Hid (frow ((hNet n m i xs 2).pas ((hNet n m i xs 2).itr r) i) i = frow ((hNet n m i xs 2).itr (r + 1)) i) := Lib.hid rfl
              rw [HIS.out] at hK
              clear hik
              go_wp2_with fail
              go_roundw
              case rel => exact ⟨r + 1, by omega, by go_num, hK⟩
              case measure => simp [intOf]; omega
        · obtain rfl : r = k := by omega
          clear hrk
          have HFB : Hid (∀ x, (hNet n m r xs 2).itr r x ≤ r + 1) := Lib.hid (fun x => (Net.itr_sound r x).1)
          have HBY := Lib.hid (bst_yes (hNet n m r xs 2) ((hNet n m r xs 2).itr r))
          have HBN := Lib.hid (bst_no (hNet n m r xs 2) ((hNet n m r xs 2).itr r))
          have HBB : Hid (∀ k, (hNet n m r xs 2).bst ((hNet n m r xs 2).itr r) k ≤ r + 1) := Lib.hid (bst_bd (hNet n m r xs 2) ((hNet n m r xs 2).itr r))
          have hs2 : IntKind.i64.wrap ((r : Int) + 1) = ((r + 1 : Nat) : Int) := by rw [IntWalk.i64_in _ ⟨by omega, by omega⟩]; omega
          have HFIN : Hid (∀ k, (hNet n m r xs 2).fin k = decide (k % m + 1 = m)) := Lib.hid (fun k => by simp [hNet])
          go_wp2_with fail
          go_loopw [17, 125] (fun v17 v125 wr => ∃ k : Nat, k ≤ r ∧ v125 = .int .i64 k ∧ v17 = .int .i64 (((hNet n m r xs 2).bst ((hNet n m r xs 2).itr r) k : Nat) : Int) ∧ HK w w.heap.size (frow ((hNet n m r xs 2).itr r) r) wr) (fun _ v125 _ => r - (intOf v125).toNat)
          case atStart => exact ⟨0, Nat.zero_le _, rfl, rfl, hK⟩
          case round =>
            clear hK
            obtain ⟨k, hk, rfl, rfl, hK⟩ := hrel
            by_cases hkr : k < r
            · have hki : (k : Int) < (r : Int) := by omega
              have cfk := hK.cell (k := k) (by rw [frow_len]; exact hkr)
              rw [frow_at _ hkr] at cfk
              have hgot := hK.got
              have hB := HBB.out k
              have hF := HFB.out k
              have HB1 := Lib.hid (HBY.out k)
              have HB2 := Lib.hid (HBN.out k)
              rw [HFIN.out k] at HB1 HB2
              obtain ⟨d1, hd1⟩ : ∃ d1, (hNet n m r xs 2).bst ((hNet n m r xs 2).itr r) (k + 1) = d1 := ⟨_, rfl⟩
              have HD := Lib.hid hd1
              rw [hd1] at HB1 HB2
              clear hd1
              generalize (hNet n m r xs 2).bst ((hNet n m r xs 2).itr r) k = d at HB1 HB2 hB ⊢
              obtain ⟨f, hf⟩ : ∃ f, (hNet n m r xs 2).itr r k = f := ⟨_, rfl⟩
              rw [hf] at cfk hF HB1
              obtain ⟨y, hy⟩ : ∃ y : Nat, y = k % m := ⟨_, rfl⟩
              have e1 : Int.tmod (k : Int) (m : Int) = (y : Int) := by rw [hy]; exact (Int.ofNat_tmod k m).symm
              have hyk : y ≤ k := by rw [hy]; exact Nat.mod_le _ _
              have e7 : IntKind.i64.wrap (y : Int) = (y : Int) := IntWalk.i64_in _ ⟨by omega, by omega⟩
              have e8 : wrap64 (y : Int) = (y : Int) := IntWalk.wrap64_in _ ⟨by omega, by omega⟩
              rw [← hy] at HB1 HB2
              have hm0n : ¬ m = 0 := by omega
              clear hy
              obtain ⟨u, hu⟩ : ∃ u : Nat, u = m - 1 := ⟨_, rfl⟩
              have hu2 : IntKind.i64.wrap ((m : Int) - 1) = (u : Int) := by rw [IntWalk.i64_in _ ⟨by omega, by omega⟩]; omega
              have hu3 : wrap64 ((m : Int) - 1) = (u : Int) := by rw [IntWalk.wrap64_in _ ⟨by omega, by omega⟩]; omega
              by_cases hfin : y + 1 = m
              · have HE := Lib.hid (HB1.out f (by simpa using hfin) rfl)
                have hf1 : y = u := by rw [hu, ← hfin]; exact (Nat.add_sub_cancel ..).symm
                have hf2 : ((y : Int) == (u : Int)) = true := by rw [hf1]; exact beq_self_eq_true _
                clear hfin hu
                clear HB1 HB2 hf
                go_wp2_with fail
                refine (l1LeastJ_any _ _ _).mono ?_
                rintro e2 w4 ⟨rfl, rfl⟩
                rw [HE.out]
                go_wp2_with fail
                go_roundw
                case rel => exact ⟨k + 1, by omega, by go_num, by rw [HD.out], hK⟩
                case measure => simp [intOf]; omega
              · have HE := Lib.hid (HB2.out (by simpa using hfin))
                have hf1 : ¬ y = u := fun e => hfin (by rw [e, hu]; exact Nat.sub_add_cancel h2)
                have hf2 : ((y : Int) == (u : Int)) = false := beq_eq_false_iff_ne.2 (fun e => hf1 (Int.ofNat_inj.1 e))
                clear hfin hu
                clear HB1 HB2 hf
                go_wp2_with fail
                go_roundw
                case rel => exact ⟨k + 1, by omega, by go_num, by rw [HD.out, HE.out], hK⟩
                case measure => simp [intOf]; omega
            · obtain rfl : k = r := by omega
              clear hkr
              go_wp2_with fail
              go_ret
              exact ⟨rfl, hK.old⟩
end Go.Proofs.YtianmmjjcegkjaaDoor
