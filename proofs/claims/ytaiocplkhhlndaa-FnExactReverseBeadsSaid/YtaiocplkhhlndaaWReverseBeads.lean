import Derived.Test.YtaiocplkhhlndaaP1
namespace Go.Proofs.Ytaiocplkhhlndaa
open Go.RowKit
set_option maxRecDepth 4000
def OutReverseBeads (w : World) (r0 : ByteArray) (r1 : Bool) (e : Ending) (w' : World) : Prop := e = .returned (.tuple #[.string r0, .bool r1]) ∧ Below w.heap.size w w'
set_option maxHeartbeats 3200000 in
theorem lawOf_ReverseBeads (s : ByteArray) (w : World) (r0 : ByteArray) (r1 : Bool)
    (hs : ∀  (w' : World), s.size ≤ 1048576 → Calls Try.prog 9 #[.string s] w' (OutReverseBeads w' r0 r1))
    (hi : ∀  (w' : World), s.size ≤ 1048576 → Calls Try.prog 10 #[.string s] w' (OutReverseBeads w' r0 r1)) :
    Calls Try.prog 3 #[.string s] w fun e w' => e = .returned (.bool true) ∧ Below w.heap.size w w' := by
  have HS := Lib.hid hs
  have HI := Lib.hid hi
  clear hs hi
  have hne0 : (r0.toList != r0.toList) = false := by simp
  have hne1 : (r1 != r1) = false := by simp
  have hB0 : Below w.heap.size w w := Below.refl _ _
  by_cases hbig_s : (1048576 : Int) < (s.size : Int)
  · go_enter Try.func3, Try.ntmps3
    go_wp2_with fail
    go_ret
    exact ⟨rfl, Below.refl _ _⟩
  have hsz_s : s.size ≤ 1048576 := by omega
  go_enter Try.func3, Try.ntmps3
  go_wp2_with fail
  refine (HS.out  _ hsz_s ).mono ?_
  rintro e w1 ⟨rfl, hb⟩
  have hc := chg_below hb
  clear hb
  have z1 := hc.size
  replace hB0 := below_chg hB0 hc (by omega) (by omega)
  clear hc
  go_wp2_with fail
  refine (HI.out  _ hsz_s ).mono ?_
  rintro e w2 ⟨rfl, hb⟩
  have hc := chg_below hb
  clear hb
  have z2 := hc.size
  replace hB0 := below_chg hB0 hc (by omega) (by omega)
  clear hc
  go_wp2_with fail
  go_ret
  exact ⟨rfl, hB0⟩
def rvB (s : ByteArray) (m : Nat) : ByteArray := ⟨(s.data.toList.reverse.take m).toArray⟩
theorem rvB_zero (s : ByteArray) : rvB s 0 = ⟨#[]⟩ := rfl
theorem rvB_end (s : ByteArray) : rvB s s.size = revB s := by
  apply ba_ext
  simp only [rvB, revB]
  rw [List.take_of_length_le (by rw [List.length_reverse, ← size_lst]; exact Nat.le_refl _)]
theorem rvB_size (s : ByteArray) (m : Nat) : (rvB s m).size ≤ s.size := by
  rw [size_lst, size_lst s]
  simp only [rvB, List.length_take, List.length_reverse]
  omega
theorem rvB_step (s : ByteArray) (m : Nat) (h : m < s.size) : rvB s m ++ s.extract (s.size - 1 - m) (s.size - 1 - m + 1) = rvB s (m + 1) := by
  apply ba_ext
  rw [ByteArray.data_append, Array.toList_append, ByteArray.data_extract, Array.toList_extract, List.extract_eq_take_drop]
  have hs := size_lst s
  simp only [rvB]
  rw [hs] at h ⊢
  generalize s.data.toList = l at *
  have h2 : l.length - 1 - m < l.length := by omega
  rw [Nat.add_sub_cancel_left, List.drop_eq_getElem_cons h2, List.take_succ_cons, List.take_zero]
  rw [List.take_add_one, List.getElem?_reverse h, List.getElem?_eq_getElem h2]
  rfl
set_option maxHeartbeats 1600000 in
theorem specRev_yes (s : ByteArray) (hg : goodS s = true) (w : World) : Calls Try.prog 9 #[.string s] w (OutReverseBeads w (revB s) true) := by
  have HG := Lib.hid (nlGood_any s w)
  rw [hg] at HG
  have h16 := (goodS_at hg).1
  have HZ := Lib.hid (rvB_zero s)
  have HE := Lib.hid (rvB_end s)
  have HS := Lib.hid (rvB_step s)
  have HRS : Hid (∀ m, (rvB s m).size ≤ 16) := Lib.hid (fun m => Nat.le_trans (rvB_size s m) h16)
  clear hg
  generalize rvB s = R at *
  go_enter Try.func9, Try.ntmps9
  go_wp2_with fail
  refine HG.out.mono ?_
  rintro e w' ⟨rfl, rfl⟩
  go_wp2_with fail
  go_loop [4, 5] (fun v4 v5 => ∃ m : Nat, m ≤ s.size ∧ v4 = .string (R m) ∧ v5 = .int .i64 ((s.size : Int) - 1 - m)) (fun _ v5 => (intOf v5 + 1).toNat)
  case atStart => exact ⟨0, Nat.zero_le _, by rw [HZ.out], by simp⟩
  case round =>
    obtain ⟨m, hm, rfl, rfl⟩ := hrel
    by_cases hlt : m < s.size
    · obtain ⟨q, hq⟩ : ∃ q, q = s.size - 1 - m := ⟨_, rfl⟩
      have hqi : (s.size : Int) - 1 - (m : Int) = (q : Int) := by omega
      have hst := HS.out m hlt
      rw [← hq] at hst
      have HST := Lib.hid hst
      have hqs : q < s.size := by omega
      have HQ : Hid ((q : Int) - 1 = (s.size : Int) - 1 - ((m + 1 : Nat) : Int)) := Lib.hid (by omega)
      have hqn : (0 : Int) ≤ (q : Int) := by omega
      have hq1 : (q : Int) + 1 ≤ (s.size : Int) := by omega
      have hq2 : (q : Int) ≤ (q : Int) + 1 := by omega
      rw [hqi]
      clear hst hq hqi
      have hrs := HRS.out m
      go_wp2_with fail
      go_round
      case rel => exact ⟨m + 1, by omega, by first | rw [HST.out] | rw [← HST.out], by rw [HQ.out]⟩
      case measure => simp [intOf]
    · have hms : m = s.size := by omega
      have HX : Hid (R m = revB s) := Lib.hid (by rw [hms]; exact HE.out)
      have hqi : ¬ (0 : Int) ≤ (s.size : Int) - 1 - (m : Int) := by omega
      clear hms
      go_wp2_with fail
      go_returns
      exact ⟨by rw [HX.out]; rfl, Below.refl _ _⟩
set_option maxHeartbeats 1600000 in
theorem specRev_no (s : ByteArray) (hg : goodS s = false) (w : World) : Calls Try.prog 9 #[.string s] w (OutReverseBeads w ⟨#[]⟩ false) := by
  have HG := Lib.hid (nlGood_any s w)
  rw [hg] at HG
  clear hg
  go_enter Try.func9, Try.ntmps9
  go_wp2_with fail
  refine HG.out.mono ?_
  rintro e w' ⟨rfl, rfl⟩
  go_wp2_with fail
  go_returns
  exact ⟨rfl, Below.refl _ _⟩
theorem law_ReverseBeads (w : World) (s : ByteArray) (_ : s.size ≤ maxLen) :
    Calls Try.prog 3 #[.string s] w fun e w' => e = .returned (.bool true) ∧ Below w.heap.size w w' := by
  cases hg : goodS s
  · exact lawOf_ReverseBeads s w ⟨#[]⟩ false (fun w' _ => specRev_no s hg w') (fun w' _ => implRev_no s hg w')
  · exact lawOf_ReverseBeads s w (revB s) true (fun w' _ => specRev_yes s hg w') (fun w' _ => implRev_yes s hg w')
end Go.Proofs.Ytaiocplkhhlndaa
