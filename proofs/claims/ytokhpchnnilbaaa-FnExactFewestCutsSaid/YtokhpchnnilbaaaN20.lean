import Derived.Test.YtokhpchnnilbaaaN19
namespace Go.Proofs.Ytokhpchnnilbaaa
open Go.RowKit
set_option maxRecDepth 4000
theorem filt_snoc (P : List Int → Bool) (ls : List (List Int)) (j : Nat) (h : j < ls.length) : (ls.take (j + 1)).filter P = (ls.take j).filter P ++ (if P (ls.getD j []) = true then [ls.getD j []] else []) := by
  rw [List.take_add_one, List.getElem?_eq_getElem h, List.getD_eq_getElem?_getD, List.getElem?_eq_getElem h, List.filter_append]
  congr 1
  simp only [Option.toList_some, Option.getD_some, List.filter_cons, List.filter_nil]
theorem filt_len (P : List Int → Bool) (ls : List (List Int)) (j : Nat) : ((ls.take j).filter P).length ≤ ls.length := by
  refine Nat.le_trans (List.length_filter_le P _) ?_
  rw [List.length_take]
  exact Nat.min_le_right _ _
set_option maxHeartbeats 6400000 in
theorem where_any (s : ByteArray) (hg : goodS s = true) (base : Nat) (v : Value) (ls : List (List Int)) (hll : ls.length ≤ 100000) (w : World) (h : LS w base v ls) (_ : base ≤ w.heap.size) :
    Calls Try.prog 80 #[v, .func (.func 54) #[.string s] #[]] w fun e w' => ∃ v', e = .returned v' ∧ LS w' base v' (ls.filter (fairB s)) ∧ Below w.heap.size w w' := by
  obtain ⟨aO, capO, bO, vs, rfl, hrd⟩ := ls_read h
  have HRD := Lib.hid hrd
  have HF : Hid (∀ j (cuts : List Int) (ra : Option Addr) (rc : Nat) (w' : World), j < ls.length → RdS w' w'.heap.size ra cuts → Calls Try.prog 54 #[.string s, .slice ra cuts.length rc] w' fun e w'' => e = .returned (.bool (fairB s cuts)) ∧ Below w'.heap.size w' w'') := Lib.hid (fun j cuts ra rc w' _ hr => isFair_any s hg cuts ra rc w' hr)
  have HS := Lib.hid (filt_snoc (fairB s) ls)
  have HE : Hid (∀ j, j = ls.length → (ls.take j).filter (fairB s) = ls.filter (fairB s)) := Lib.hid (fun j e => by rw [e, List.take_length])
  have HZ : Hid ((ls.take 0).filter (fairB s) = []) := Lib.hid rfl
  have HL : Hid (∀ j, ((ls.take j).filter (fairB s)).length < 1000000000) := Lib.hid (fun j => Nat.lt_of_le_of_lt (filt_len (fairB s) ls j) (by omega))
  have hcf : ∀ (args : Array Value) (w : World), (callFunc 54 args).run Try.prog w = .ok (.enter 54 args) w := fun _ _ => rfl
  clear hrd h
  generalize hF : (fun j => (ls.take j).filter (fairB s)) = Fl at *
  have HFl : Hid (∀ j, (ls.take j).filter (fairB s) = Fl j) := Lib.hid (fun j => by rw [← hF])
  clear hF
  go_enter Try.func80, Try.ntmps80
  go_wp2_with fail
  go_loopw [5, 10] (fun v5 v10 wr => ∃ j : Nat, j ≤ ls.length ∧ v10 = .int .i64 (j : Nat) ∧ LS wr base v5 (Fl j) ∧ (∀ b, v5.ownBlock = some b → w.heap.size ≤ b) ∧ Below w.heap.size w wr) (fun _ v10 _ => ls.length - (intOf v10).toNat)
  case atStart => exact ⟨0, Nat.zero_le _, rfl, by rw [← HFl.out, HZ.out]; exact ls_nil _ _, fun b hb => by simp [Value.ownBlock] at hb, Below.refl _ _⟩
  case round =>
    obtain ⟨j, hj, rfl, hl, hob, hb⟩ := hrel
    obtain ⟨wz, hwz⟩ : ∃ wz : World, wz = wr := ⟨_, rfl⟩
    subst hwz
    have hz := hb.size
    by_cases hjl : j < ls.length
    · have hji : (j : Int) < (ls.length : Int) := by omega
      obtain ⟨rfl, hlo1, hhi1, c1, hrow, hone, hnil⟩ := HRD.out j hjl
      obtain ⟨ra, rc, rb, hv, -, hrs⟩ := oi_shape (lo := base) (hi := w.heap.size) ⟨_, hrow, own_lt hrow⟩
      replace c1 := (hb.cell (p := ⟨bO, j, none⟩) hhi1).trans c1
      rw [hv] at c1 hrow hnil
      have hrow2 := own_now hrow hb
      have HFj := Lib.hid (HF.out j (ls.getD j []) ra rc wz hjl (rds_mono (rds_later hrs hb) hz))
      have HSj := HS.out j hjl
      rw [HFl.out, HFl.out] at HSj
      have HLj : Hid ((Fl j).length < 1000000000) := Lib.hid (by rw [← HFl.out]; exact HL.out j)
      have HNIL := Lib.hid hnil
      have HLV := Lib.hid hl
      have HOB := Lib.hid hob
      clear hv hrow hrs hone hnil hl hob
      generalize ls.getD j [] = ys at *
      cases hp : fairB s ys
      · rw [hp] at HFj HSj
        have HX : Hid (Fl (j + 1) = Fl j) := Lib.hid (by rw [HSj]; simp)
        clear hp HSj
        go_wp2_with fail
        first | rw [hcf] | simp only [hcf] | skip
        go_wp2_with fail
        refine HFj.out.mono ?_
        rintro e w2 ⟨rfl, hb2⟩
        have hl2 := ls_now HLV.out hb2
        go_wp2_with fail
        go_roundw
        case rel => exact ⟨j + 1, by omega, by go_num, by rw [HX.out]; exact hl2, HOB.out, hb.trans (hb2.mono hz)⟩
        case measure => simp [intOf]; omega
      · rw [hp] at HFj HSj
        have HX : Hid (Fl (j + 1) = Fl j ++ [ys]) := Lib.hid (by rw [HSj]; simp)
        clear hp HSj
        go_wp2_with fail
        first | rw [hcf] | simp only [hcf] | skip
        go_wp2_with fail
        refine HFj.out.mono ?_
        rintro e w2 ⟨rfl, hb2⟩
        have HL2 := Lib.hid (ls_now HLV.out hb2)
        have HR2 := Lib.hid (own_now hrow2 hb2)
        have hz2 : base ≤ w2.heap.size := by have := hb2.size; omega
        go_wp2_with (at_builtin; refine append_ls base _ w2 _ _ (Fl j) ys rfl _ _ rfl rfl rfl rfl HL2.out HR2.out rfl HNIL.out hz2 HLj.out ?_; intro v' w6 hl6 hg6 hloc6)
        rw [← HX.out] at hl6
        have hb6 : Below w.heap.size w w6 := (hb.trans (hb2.mono hz)).grown hg6 (by have := hb2.size; omega) (fun k hk => HOB.out k hk)
        have hob6 : ∀ b, v'.ownBlock = some b → w.heap.size ≤ b := fun b hbb => by
          rcases hloc6 with e | ⟨b', e, hb'⟩
          · exact HOB.out b (e.symm.trans hbb)
          · rw [e] at hbb; cases hbb; have := hb2.size; omega
        go_roundw
        case rel => exact ⟨j + 1, by omega, by go_num, hl6, hob6, hb6⟩
        case measure => simp [intOf]; omega
    · have hje : j = ls.length := by omega
      have hji : ¬ (j : Int) < (ls.length : Int) := by omega
      have HX : Hid (Fl j = ls.filter (fairB s)) := Lib.hid (by rw [← HFl.out]; exact HE.out j hje)
      rw [HX.out] at hl
      clear hje
      go_wp2_with fail
      go_ret
      exact ⟨_, rfl, hl, hb⟩
def fcL (s : ByteArray) (k : Nat) : List (List Int) := (cl s.size k 1).filter (fairB s)
set_option maxHeartbeats 1600000 in
theorem fairCuts_any (s : ByteArray) (hg : goodS s = true) (k : Nat) (hk : k ≤ 4) (w : World) :
    Calls Try.prog 64 #[.string s, .int .i64 (k : Nat)] w fun e w' => ∃ v, e = .returned v ∧ LS w' w.heap.size v (fcL s k) ∧ Below w.heap.size w w' := by
  have h16 := (goodS_at hg).1
  have HC := Lib.hid (cutLists_any s h16 k hk 1 (by omega) w)
  have hll : (cl s.size k 1).length ≤ 100000 := Nat.le_trans (cl_len s.size h16 k 1) (by rcases (by omega : k = 0 ∨ k = 1 ∨ k = 2 ∨ k = 3 ∨ k = 4) with rfl | rfl | rfl | rfl | rfl <;> decide)
  have HW := Lib.hid (fun v w' (h : LS w' w.heap.size v (cl s.size k 1)) (hb : w.heap.size ≤ w'.heap.size) => where_any s hg w.heap.size v _ hll w' h hb)
  go_enter Try.func64, Try.ntmps64
  go_wp2_with fail
  refine HC.out.mono ?_
  rintro e w1 ⟨v, rfl, hl, hb⟩
  have HW1 := Lib.hid (HW.out v w1 hl hb.size)
  go_wp2_with fail
  refine HW1.out.mono ?_
  rintro e w2 ⟨v2, rfl, hl2, hb2⟩
  go_wp2_with fail
  go_ret
  exact ⟨_, rfl, hl2, bnext hb hb2⟩
end Go.Proofs.Ytokhpchnnilbaaa
