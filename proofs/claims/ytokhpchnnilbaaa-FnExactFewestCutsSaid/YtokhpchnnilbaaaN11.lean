import Derived.Test.YtokhpchnnilbaaaN10
namespace Go.Proofs.Ytokhpchnnilbaaa
open Go.RowKit
set_option maxRecDepth 4000
theorem sh_set (s : ByteArray) (cuts : List Int) (m : Nat) (hk : kd s m < 4) (hs : sg cuts (m + 1) = 1) : (cL (shC s cuts m)).set (kd s m) ((shC s cuts m (kd s m) : Int) + 1) = cL (shC s cuts (m + 1)) := by
  rw [cL_set _ _ hk]
  congr 1
  funext j
  simp [shC, hs]
theorem sh_same (s : ByteArray) (cuts : List Int) (m : Nat) (hs : sg cuts (m + 1) = -1) : cL (shC s cuts (m + 1)) = cL (shC s cuts m) := by
  congr 1
  funext j
  simp [shC, hs]
set_option maxHeartbeats 3200000 in
theorem nlShares_any (s : ByteArray) (hg : goodS s = true) (cuts : List Int) (a : Option Addr) (cap : Nat) (w : World) (h : RdS w w.heap.size a cuts) :
    Calls Try.prog 50 #[.string s, .slice a cuts.length cap] w fun e w' => ∃ v, e = .returned v ∧ OI w' w.heap.size w'.heap.size v (cL (shC s cuts s.size)) ∧ Below w.heap.size w w' := by
  obtain ⟨h16, hb⟩ := goodS_at hg
  have HB := Lib.hid hb
  have HGET := Lib.hid (byt_get s)
  have HLE : Hid (∀ i k, shC s cuts i k ≤ i) := Lib.hid (fun i k => Nat.le_trans (sh_le s cuts i k) (cnt_le s i k))
  have HAT := Lib.hid (fun m => cL_at (shC s cuts m))
  have HSET := Lib.hid (sh_set s cuts)
  have HST := Lib.hid (sh_same s cuts)
  have HSB := Lib.hid (sg_bd cuts)
  have HSG : Hid (∀ w', Below w.heap.size w w' → Calls Try.prog 55 #[.string s, .slice a cuts.length cap] w' fun e w'' => ∃ v, e = .returned v ∧ OI w'' w'.heap.size w''.heap.size v (sgL cuts s.size) ∧ Below w'.heap.size w' w'') := Lib.hid (fun w' hb => nlSigns_any s h16 cuts a cap w' (rds_mono (rds_later h hb) hb.size))
  have HLN := Lib.hid (sgL_len cuts s.size)
  have HSA := Lib.hid (sgL_at cuts s.size)
  clear hg hb h
  obtain ⟨i0, hi, hz0, hz1, hz2⟩ := info_parts intInfo9
  go_enter Try.func50, Try.ntmps50
  go_wp2_with (at_make; refine wpList_make_full _ rfl _ _ 25 rfl w.heap.size 3 i0 (.int .i64 0) 1 Try.underlying25 hi hz0 hz1 _ _ _ _ 4 rfl rfl ?hC ?hL ?hb2 ?hb3 ?hb4 ?_)
  case hC => rfl
  case hL => rfl
  case hb2 => rw [hz2]; omega
  case hb3 => unfold maxLen; omega
  case hb4 => exact Nat.le_refl _
  intro w1 ho1 hg1
  have ho1' : w1.ownsRow w.heap.size 3 1 (.slice (some ⟨w.heap.size, 0, none⟩) 4 4) 4 ((cL (shC s cuts 0)).map (Value.int .i64)) := by
    have e : (madeCells #[Value.int .i64 0] 4).toList = [.int .i64 0, .int .i64 0, .int .i64 0, .int .i64 0] := made_ints' 4
    rw [e] at ho1
    exact ho1
  have hB1 : Below w.heap.size w w1 := (Below.refl _ _).grown hg1 (Nat.le_refl _) (fun k hk => by cases hk)
  have hlt1 : w.heap.size < w1.heap.size := own_lt ho1' _ rfl
  have HS1 := Lib.hid (HSG.out w1 hB1)
  clear ho1 hg1
  go_wp2_with fail
  refine HS1.out.mono ?_
  rintro e w2 ⟨v, rfl, ho, hb1⟩
  have hib := own_now ho1' hb1
  have hbw := bnext hB1 hb1
  have hz1 := hb1.size
  obtain ⟨a2, cap2, b2, rfl, -, hc⟩ := oi_list ho
  rw [HLN.out] at hc ⊢
  have HC : Hid (∀ j, j < s.size → a2 = some ⟨b2, 0, none⟩ ∧ w2.cell? ⟨b2, j, none⟩ = some (.int .i64 (sg cuts (j + 1))) ∧ w1.heap.size ≤ b2 ∧ b2 < w2.heap.size) := Lib.hid (fun j hj => by
    have := hc j hj
    rw [HSA.out j hj] at this
    exact this)
  clear hc ho hb1 ho1' hB1
  go_wp2_with fail
  go_loopw [13] (fun v13 wr => ∃ i : Nat, i ≤ s.size ∧ v13 = .int .i64 i ∧ wr.ownsRow w.heap.size 3 1 (.slice (some ⟨w.heap.size, 0, none⟩) 4 4) 4 ((cL (shC s cuts i)).map (Value.int .i64)) ∧ w2.grownBy wr (some w.heap.size) ∧ Below w.heap.size w wr) (fun v13 _ => s.size - (intOf v13).toNat)
  case atStart => exact ⟨0, Nat.zero_le _, rfl, hib, World.grownBy.refl _ _, hbw⟩
  case round =>
    clear hib hbw
    obtain ⟨i, hi, rfl, ho, hgr, hb⟩ := hrel
    obtain ⟨wq, hwq⟩ : ∃ wq : World, wq = wr := ⟨_, rfl⟩
    subst hwq
    by_cases hlt : i < s.size
    · obtain ⟨b0, b1⟩ := HB.out i hlt
      obtain ⟨rfl, c1, hlo, hhi⟩ := HC.out i hlt
      replace c1 := hgr.cell c1 (by simp; omega)
      have hgt := HGET.out i hlt
      have hsb := HSB.out (i + 1)
      have hii : (i : Int) < (s.size : Int) := by omega
      by_cases hone : sg cuts (i + 1) = 1
      · obtain ⟨k, hk⟩ : ∃ k, k = kd s i := ⟨_, rfl⟩
        have hk4 : k < 4 := by rw [hk]; unfold kd; omega
        have hkb : byt s i = k + 97 := by rw [hk]; unfold kd; omega
        have hset := HSET.out i (by rw [← hk]; exact hk4) hone
        rw [← hk] at hset
        have hle := HLE.out i k
        have hat := HAT.out i k hk4
        rw [hkb] at hgt
        have ew : IntKind.u8.wrap (((k + 97 : Nat) : Int) - 97) = ((k + 97 : Nat) : Int) - 97 := wrap_u8 _ (by omega) (by omega)
        have o1 := n4_at ho k hk4 (cL_len _)
        rw [hat] at o1
        have f1 := ho.frozenAt k
        have hput := Lib.hid (n4_put ho k ((shC s cuts i k : Int) + 1))
        rw [hset] at hput
        have hbs := hb.setCell (p := ⟨w.heap.size, k, none⟩) (Nat.le_refl _) (.int .i64 ((shC s cuts i k : Int) + 1))
        have hgs := hgr.trans (grown_set wq ⟨w.heap.size, k, none⟩ (.int .i64 ((shC s cuts i k : Int) + 1)))
        have hk4i : (k : Int) < 4 := by omega
        rw [hone] at c1
        clear ho hb hset hat hk hkb hgr hone hsb
        generalize shC s cuts i k = q at *
        have e2 : wrap64 ((q : Int) + 1) = (q : Int) + 1 := IntWalk.wrap64_in _ ⟨by omega, by omega⟩
        have ek : ((k + 97 : Nat) : Int) - 97 = (k : Int) := by omega
        go_wp2_with fail
        go_roundw
        case rel => exact ⟨i + 1, by omega, by go_num, hput.out, hgs, hbs⟩
        case measure => simp [intOf]; omega
      · have hm : sg cuts (i + 1) = -1 := by omega
        have HSi := Lib.hid (HST.out i hm)
        rw [hm] at c1
        clear hone hm hsb
        go_wp2_with fail
        go_roundw
        case rel => exact ⟨i + 1, by omega, by go_num, by rw [HSi.out]; exact ho, hgr, hb⟩
        case measure => simp [intOf]; omega
    · have hi3 : i = s.size := by omega
      have hii : ¬ (i : Int) < (s.size : Int) := by omega
      have HO : Hid (OI wq w.heap.size wq.heap.size (.slice (some ⟨w.heap.size, 0, none⟩) 4 4) (cL (shC s cuts s.size))) := Lib.hid (by rw [← hi3]; exact ⟨_, ho, own_lt ho⟩)
      clear ho
      go_wp2_with fail
      go_ret
      exact ⟨_, rfl, HO.out, hb⟩
def fkB (s : ByteArray) (cuts : List Int) (k : Nat) : Bool := decide (2 * shC s cuts s.size k = cnt s s.size k)
theorem fairB_no (s : ByteArray) (cuts : List Int) (k : Nat) (hk : k < 4) (h : fkB s cuts k = false) : fairB s cuts = false := by
  simp only [fairB, List.all_eq_false, List.mem_range]
  exact ⟨k, hk, by simpa [fkB] using h⟩
theorem fairB_yes (s : ByteArray) (cuts : List Int) (h : ∀ k, k < 4 → fkB s cuts k = true) : fairB s cuts = true := by
  simp only [fairB, List.all_eq_true, List.mem_range]
  exact fun k hk => h k hk
set_option maxHeartbeats 3200000 in
theorem nlFair_any (s : ByteArray) (hg : goodS s = true) (cuts : List Int) (a : Option Addr) (cap : Nat) (w : World) (h : RdS w w.heap.size a cuts) :
    Calls Try.prog 53 #[.string s, .slice a cuts.length cap] w fun e w' => e = .returned (.bool (fairB s cuts)) ∧ Below w.heap.size w w' := by
  have h16 := (goodS_at hg).1
  have HG := Lib.hid (nlCounts_any s hg w)
  have HSG : Hid (∀ w', Below w.heap.size w w' → Calls Try.prog 50 #[.string s, .slice a cuts.length cap] w' fun e w'' => ∃ v, e = .returned v ∧ OI w'' w'.heap.size w''.heap.size v (cL (shC s cuts s.size)) ∧ Below w'.heap.size w' w'') := Lib.hid (fun w' hb => nlShares_any s hg cuts a cap w' (rds_mono (rds_later h hb) hb.size))
  have HNO := Lib.hid (fairB_no s cuts)
  have HYES := Lib.hid (fairB_yes s cuts)
  have HK : Hid (∀ k, fkB s cuts k = decide (2 * shC s cuts s.size k = cnt s s.size k)) := Lib.hid (fun k => rfl)
  have HL1 : Hid (∀ k, shC s cuts s.size k ≤ 16 ∧ cnt s s.size k ≤ 16) := Lib.hid (fun k => by have h1 := sh_le s cuts s.size k; have h2 := cnt_le s s.size k; omega)
  clear hg h
  generalize shC s cuts s.size = X at *
  generalize cnt s s.size = Y at *
  go_enter Try.func53, Try.ntmps53
  go_wp2_with fail
  refine HG.out.mono ?_
  rintro e w1 ⟨v, rfl, ho1, hb1⟩
  obtain ⟨cap1, b1, rfl, hc1, hlo1, hhi1⟩ := oi_four (f := fun j => (Y j : Int)) ho1
  have HS1 := Lib.hid (HSG.out w1 hb1)
  have HC1 := Lib.hid hc1
  clear hc1 ho1
  go_wp2_with fail
  refine HS1.out.mono ?_
  rintro e w2 ⟨v, rfl, ho2, hb2⟩
  obtain ⟨cap2, b2, rfl, hc2, -, -⟩ := oi_four (f := fun j => (X j : Int)) ho2
  have HC2 := Lib.hid hc2
  have hbw := bnext hb1 hb2
  clear hc2 ho2
  go_wp2_with fail
  go_loop [14] (fun v14 => ∃ i : Nat, i ≤ 4 ∧ v14 = .int .i64 i ∧ ∀ j, j < i → fkB s cuts j = true) (fun v14 => 4 - (intOf v14).toNat)
  case atStart => exact ⟨0, by omega, rfl, by omega⟩
  case round =>
    obtain ⟨i, hi, rfl, hall⟩ := hrel
    have HA := Lib.hid hall
    clear hall
    by_cases hlt : i < 4
    · have hii : (i : Int) < 4 := by omega
      have c2 := HC2.out i hlt
      have c1 := (hb2.cell (p := ⟨b1, i, none⟩) hhi1).trans (HC1.out i hlt)
      have hbd := HL1.out i
      have hK := HK.out i
      have HN := Lib.hid (HNO.out i hlt)
      have HT : Hid (fkB s cuts i = true → ∀ j, j < i + 1 → fkB s cuts j = true) := Lib.hid (fun hx j hj => by
        by_cases e : j = i
        · rw [e]; exact hx
        · exact HA.out j (by omega))
      have HKi := Lib.hid hK
      clear hK
      generalize X i = x at *
      generalize Y i = y at *
      have ew : wrap64 (2 * (x : Int)) = 2 * (x : Int) := IntWalk.wrap64_in _ ⟨by omega, by omega⟩
      by_cases he : 2 * x = y
      · have he1 : (2 * (x : Int) != (y : Int)) = false := by simp; omega
        have HX := Lib.hid (HT.out (by rw [HKi.out]; simpa using he))
        clear he
        go_wp2_with fail
        go_round
        case rel => exact ⟨i + 1, by omega, by go_num, HX.out⟩
        case measure => simp [intOf]; omega
      · have he1 : (2 * (x : Int) != (y : Int)) = true := by simp; omega
        have HX := Lib.hid (HN.out (by rw [HKi.out]; simpa using he))
        clear he
        go_wp2_with fail
        go_ret
        exact ⟨ret_bool HX.out.symm, hbw⟩
    · have HX := Lib.hid (HYES.out (fun j hj => HA.out j (by omega)))
      have hii : ¬ (i : Int) < 4 := by omega
      go_wp2_with fail
      go_ret
      exact ⟨ret_bool HX.out.symm, hbw⟩
end Go.Proofs.Ytokhpchnnilbaaa
