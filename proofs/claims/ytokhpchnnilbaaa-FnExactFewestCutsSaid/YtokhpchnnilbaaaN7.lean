import Derived.Test.YtokhpchnnilbaaaN6
import Derived.Test.YtokhpchnnilbaaaQy
namespace Go.Proofs.Ytokhpchnnilbaaa
open Go.RowKit
set_option maxRecDepth 4000
def gF (n : Nat) (g : Nat → Int) : List Int := (List.range n).map g
theorem gF_len (n : Nat) (g : Nat → Int) : (gF n g).length = n := by simp [gF]
theorem gF_at (n : Nat) (g : Nat → Int) (j : Nat) (hj : j < n) : (gF n g).getD j 0 = g j := by simp [gF, List.getD, hj]
theorem gF_congr (n : Nat) (f g : Nat → Int) (h : ∀ j, j < n → f j = g j) : gF n f = gF n g := List.map_congr_left (fun j hj => h j (List.mem_range.1 hj))
theorem gF_set (n : Nat) (g : Nat → Int) (j : Nat) (v : Int) : (gF n g).set j v = gF n (fun c => if c = j then v else g c) := by
  apply List.ext_getElem?
  intro c
  simp only [gF, List.getElem?_set, List.getElem?_map, List.length_map, List.length_range]
  by_cases e : j = c
  · subst e
    by_cases h : j < n <;> simp [h]
  · rw [if_neg e]
    by_cases h : c < n
    · have : ¬ c = j := fun h => e h.symm
      simp [h, this]
    · simp [h]
theorem gF_zero (n : Nat) : List.replicate n (0 : Int) = gF n (fun _ => 0) := by
  apply List.ext_getElem?
  intro c
  simp only [gF, List.getElem?_map, List.getElem?_replicate]
  by_cases h : c < n <;> simp [h]
/-- The sign in front of bead i. -/
def sg (cuts : List Int) : Nat → Int
  | 0 => 1
  | i + 1 => if haB cuts (i : Int) = true then - sg cuts i else sg cuts i
theorem sg_bd (cuts : List Int) (i : Nat) : sg cuts i = 1 ∨ sg cuts i = -1 := by
  induction i with
  | zero => exact .inl rfl
  | succ i ih => simp only [sg]; split <;> omega
def sgF (cuts : List Int) (i j : Nat) : Int := if j < i then sg cuts (j + 1) else 0
def sgL (cuts : List Int) (n : Nat) : List Int := gF n (fun j => sg cuts (j + 1))
theorem sgF_zero (cuts : List Int) (n : Nat) : List.replicate n (0 : Int) = gF n (sgF cuts 0) := by rw [gF_zero]; exact gF_congr _ _ _ (fun j hj => by simp [sgF])
theorem sgF_step (cuts : List Int) (n i : Nat) : (gF n (sgF cuts i)).set i (sg cuts (i + 1)) = gF n (sgF cuts (i + 1)) := by
  rw [gF_set]
  refine gF_congr _ _ _ (fun j hj => ?_)
  simp only [sgF]
  by_cases e : j = i
  · subst e; simp
  · by_cases h : j < i
    · simp [e, h]; omega
    · simp [e, h]; omega
theorem sgF_end (cuts : List Int) (n : Nat) : gF n (sgF cuts n) = sgL cuts n := gF_congr _ _ _ (fun j hj => by simp [sgF, hj])
set_option maxHeartbeats 3200000 in
theorem signs_any (s : ByteArray) (hs : s.size ≤ 16) (cuts : List Int) (a : Option Addr) (cap : Nat) (w : World) (h : RdS w w.heap.size a cuts) :
    Calls Try.prog 56 #[.string s, .slice a cuts.length cap] w fun e w' => ∃ v, e = .returned v ∧ OI w' w.heap.size w'.heap.size v (sgL cuts s.size) ∧ Below w.heap.size w w' := by
  have HC : Hid (∀ (i : Int) (w' : World), Below w.heap.size w w' → Calls Try.prog 75 #[.slice a cuts.length cap, .int .i64 i] w' fun e w'' => e = .returned (.bool (haB cuts i)) ∧ w' = w'') := Lib.hid (fun i w' hb => by
    obtain ⟨b, off, hr, -⟩ := rds_later h hb
    exact sCo_any cuts i a b off cuts.length cap w' rfl hr)
  have HSB := Lib.hid (sg_bd cuts)
  have HS : Hid (∀ i : Nat, sg cuts (i + 1) = if haB cuts (i : Int) = true then - sg cuts i else sg cuts i) := Lib.hid (fun i => rfl)
  have HST := Lib.hid (sgF_step cuts s.size)
  have HE := Lib.hid (sgF_end cuts s.size)
  have HL := Lib.hid (fun i => gF_len s.size (sgF cuts i))
  have HZ := Lib.hid (sgF_zero cuts s.size)
  have HS0 : Hid (sg cuts 0 = 1) := Lib.hid rfl
  have HLS : Hid ((sgL cuts s.size).length = s.size) := Lib.hid (gF_len _ _)
  clear h
  obtain ⟨i0, hi, hz0, hz1, hz2⟩ := info_parts intInfo9
  generalize sg cuts = S at *
  generalize sgF cuts = F at *
  generalize haB cuts = H at *
  go_enter Try.func56, Try.ntmps56
  go_wp2_with (at_make; refine wpList_make_full _ rfl _ _ 25 rfl w.heap.size 3 i0 (.int .i64 0) 1 Try.underlying25 hi hz0 hz1 _ _ _ _ s.size rfl rfl ?hC ?hL ?hb2 ?hb3 ?hb4 ?_)
  case hC => rfl
  case hL => rfl
  case hb2 => rw [hz2]; omega
  case hb3 => unfold maxLen; omega
  case hb4 => exact Nat.le_refl _
  intro w1 ho1 hg1
  have ho1' : w1.ownsRow w.heap.size 3 1 (.slice (some ⟨w.heap.size, 0, none⟩) s.size s.size) s.size ((gF s.size (F 0)).map (Value.int .i64)) := by
    rw [← HZ.out, List.map_replicate]
    first | exact made_ints s.size ▸ ho1 | exact made_ints' s.size ▸ ho1
  have hB1 : Below w.heap.size w w1 := (Below.refl _ _).grown hg1 (Nat.le_refl _) (fun k hk => by cases hk)
  clear ho1 hg1
  go_wp2_with fail
  go_loopw [6, 13] (fun v6 v13 wr => ∃ i : Nat, i ≤ s.size ∧ v13 = .int .i64 i ∧ v6 = .int .i64 (S i) ∧ wr.ownsRow w.heap.size 3 1 (.slice (some ⟨w.heap.size, 0, none⟩) s.size s.size) s.size ((gF s.size (F i)).map (Value.int .i64)) ∧ Below w.heap.size w wr) (fun _ v13 _ => s.size - (intOf v13).toNat)
  case atStart => exact ⟨0, Nat.zero_le _, rfl, by rw [HS0.out], ho1', hB1⟩
  case round =>
    clear ho1' hB1
    obtain ⟨i, hi, rfl, rfl, ho, hb⟩ := hrel
    obtain ⟨wq, rfl⟩ : ∃ wq : World, wq = wr := ⟨_, rfl⟩
    by_cases hlt : i < s.size
    · have hii : (i : Int) < (s.size : Int) := by omega
      have HK := Lib.hid (HC.out (i : Int) wq hb)
      have hst := HST.out i
      have hss := HS.out i
      have hsb := HSB.out i
      have f1 := ho.frozenAt i
      have hput := Lib.hid ((ho.stored i (.int .i64 (S (i + 1)))).1)
      rw [← List.map_set, hst] at hput
      have hcc := ho.cellAt i (by omega)
      have hl : i < ((gF s.size (F i)).map (Value.int .i64)).length := by simpa [gF] using hlt
      rw [List.getElem?_eq_getElem hl] at hcc
      generalize ((gF s.size (F i)).map (Value.int .i64))[i] = old at hcc
      have hbs := hb.setCell (p := ⟨w.heap.size, i, none⟩) (Nat.le_refl _) (.int .i64 (S (i + 1)))
      clear ho hb hst hl
      cases hh : H (i : Int)
      · rw [hh] at HK hss
        have e1 : S (i + 1) = S i := by simpa using hss
        rw [e1] at hput hbs
        have HE1 := Lib.hid e1
        clear hss e1 hh
        go_wp2_with fail
        refine HK.out.mono ?_
        rintro e w2 ⟨rfl, rfl⟩
        go_wp2_with fail
        go_roundw
        case rel => exact ⟨i + 1, by omega, by go_num, by rw [HE1.out], hput.out, hbs⟩
        case measure => simp [intOf]; omega
      · rw [hh] at HK hss
        have e1 : S (i + 1) = - S i := by simpa using hss
        rw [e1] at hput hbs
        have ew : wrap64 (- S i) = - S i := IntWalk.wrap64_in _ ⟨by omega, by omega⟩
        have HE1 := Lib.hid e1
        clear hss e1 hh
        go_wp2_with fail
        refine HK.out.mono ?_
        rintro e w2 ⟨rfl, rfl⟩
        go_wp2_with fail
        go_roundw
        case rel => exact ⟨i + 1, by omega, by go_num, by rw [HE1.out], hput.out, hbs⟩
        case measure => simp [intOf]; omega
    · have hi3 : i = s.size := by omega
      have hii : ¬ (i : Int) < (s.size : Int) := by omega
      have hl := HL.out i
      subst hi3
      have ho2 := ho
      rw [HE.out] at ho2
      have HO : Hid (OI wq w.heap.size wq.heap.size (.slice (some ⟨w.heap.size, 0, none⟩) s.size s.size) (sgL cuts s.size)) := Lib.hid ⟨_, by rw [HLS.out]; exact ho2, own_lt ho2⟩
      clear ho2 hl ho
      go_wp2_with fail
      go_ret
      exact ⟨_, rfl, HO.out, hb⟩
/-- The signs that nlSigns has laid till now. -/
theorem sgL_snoc (cuts : List Int) (i : Nat) : sgL cuts (i + 1) = sgL cuts i ++ [sg cuts (i + 1)] := by simp [sgL, gF, List.range_succ]
theorem sgL_len (cuts : List Int) (i : Nat) : (sgL cuts i).length = i := gF_len _ _
set_option maxHeartbeats 3200000 in
theorem nlSigns_any (s : ByteArray) (hs : s.size ≤ 16) (cuts : List Int) (a : Option Addr) (cap : Nat) (w : World) (h : RdS w w.heap.size a cuts) :
    Calls Try.prog 55 #[.string s, .slice a cuts.length cap] w fun e w' => ∃ v, e = .returned v ∧ OI w' w.heap.size w'.heap.size v (sgL cuts s.size) ∧ Below w.heap.size w w' := by
  have HC : Hid (∀ (i : Int) (w' : World), Below w.heap.size w w' → Calls Try.prog 74 #[.slice a cuts.length cap, .int .i64 i] w' fun e w'' => e = .returned (.bool (haB cuts i)) ∧ w' = w'') := Lib.hid (fun i w' hb => by
    obtain ⟨b, off, hr, -⟩ := rds_later h hb
    exact l1H_any cuts i a b off cuts.length cap w' rfl hr)
  have HSB := Lib.hid (sg_bd cuts)
  have HS : Hid (∀ i : Nat, sg cuts (i + 1) = if haB cuts (i : Int) = true then - sg cuts i else sg cuts i) := Lib.hid (fun i => rfl)
  have HST := Lib.hid (sgL_snoc cuts)
  have HL := Lib.hid (sgL_len cuts)
  have HS0 : Hid (sg cuts 0 = 1) := Lib.hid rfl
  have HZ : Hid (sgL cuts 0 = []) := Lib.hid rfl
  clear h
  generalize sg cuts = S at *
  generalize sgL cuts = F at *
  generalize haB cuts = H at *
  go_enter Try.func55, Try.ntmps55
  go_wp2_with fail
  go_loopw [5, 6, 7] (fun v5 v6 v7 wr => ∃ i : Nat, i ≤ s.size ∧ v7 = .int .i64 i ∧ v6 = .int .i64 (S i) ∧ wr.ownsRow w.heap.size 3 1 v5 (F i).length ((F i).map (Value.int .i64)) ∧ Below w.heap.size w wr) (fun _ _ v7 _ => s.size - (intOf v7).toNat)
  case atStart => exact ⟨0, Nat.zero_le _, rfl, by rw [HS0.out], by rw [HZ.out]; exact World.ownsRow_nil _ _ _ _, Below.refl _ _⟩
  case round =>
    obtain ⟨i, hi, rfl, rfl, ho, hb⟩ := hrel
    obtain ⟨wq, hwq⟩ : ∃ wq : World, wq = wr := ⟨_, rfl⟩
    subst hwq
    by_cases hlt : i < s.size
    · have hii : (i : Int) < (s.size : Int) := by omega
      have HK := Lib.hid (HC.out (i : Int) wq hb)
      have HST1 := Lib.hid (HST.out i)
      have hss := HS.out i
      have hsb := HSB.out i
      have hz := hb.size
      have HLi : Hid ((F i).length ≤ 1000) := Lib.hid (by rw [HL.out]; omega)
      cases hh : H (i : Int)
      · rw [hh] at HK hss
        have e1 : S (i + 1) = S i := by simpa using hss
        rw [e1] at HST1
        have HE1 := Lib.hid e1
        clear hss e1 hh
        go_wp2_with fail
        refine HK.out.mono ?_
        rintro e w2 ⟨rfl, rfl⟩
        go_wp2_with (at_builtin; go_loud (refine append_intg w.heap.size _ wq _ (F i) (S i) rfl _ _ rfl rfl rfl rfl ho hz (by have := HLi.out; omega) ?_; intro v' w3 ho3 hb3))
        rw [← HST1.out] at ho3
        go_roundw
        case rel => exact ⟨i + 1, by omega, by go_num, by rw [HE1.out], ho3, hb.trans hb3⟩
        case measure => simp [intOf]; omega
      · rw [hh] at HK hss
        have e1 : S (i + 1) = - S i := by simpa using hss
        rw [e1] at HST1
        have ew : wrap64 (- S i) = - S i := IntWalk.wrap64_in _ ⟨by omega, by omega⟩
        have HE1 := Lib.hid e1
        clear hss e1 hh
        go_wp2_with fail
        refine HK.out.mono ?_
        rintro e w2 ⟨rfl, rfl⟩
        go_wp2_with (at_builtin; go_loud (refine append_intg w.heap.size _ wq _ (F i) (- S i) rfl _ _ rfl rfl rfl rfl ho hz (by have := HLi.out; omega) ?_; intro v' w3 ho3 hb3))
        rw [← HST1.out] at ho3
        go_roundw
        case rel => exact ⟨i + 1, by omega, by go_num, by rw [HE1.out], ho3, hb.trans hb3⟩
        case measure => simp [intOf]; omega
    · have hi3 : i = s.size := by omega
      have hii : ¬ (i : Int) < (s.size : Int) := by omega
      subst hi3
      have HO := Lib.hid (oi_new ho)
      clear ho
      go_wp2_with fail
      go_ret
      exact ⟨_, rfl, HO.out, hb⟩
end Go.Proofs.Ytokhpchnnilbaaa
