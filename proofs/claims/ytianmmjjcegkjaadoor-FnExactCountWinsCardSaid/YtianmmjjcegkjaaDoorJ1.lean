import Derived.Test.YtianmmjjcegkjaaDoorHt
import Derived.Test.YtianmmjjcegkjaaDoorHp
import Derived.Test.YtianmmjjcegkjaaDoorJt
import Derived.Test.YtianmmjjcegkjaaDoorH3a
import Derived.Test.YtianmmjjcegkjaaDoorH3b
import Derived.Test.YtianmmjjcegkjaaDoorJd
import Derived.Test.YtianmmjjcegkjaaDoorLv
namespace Go.Proofs.YtianmmjjcegkjaaDoor
open Go.RowKit
set_option maxRecDepth 4000
open Net
/-- What a player needs, as the model reckons it; more than the places where he cannot win any more. -/
def needK (n m s : Nat) (xs : List Int) (p : Int) : Nat := (hNet n m s xs p).bst ((hNet n m s xs p).itr s) s
theorem need_of {n m s : Nat} {xs : List Int} {p : Int} {o : Option Nat} (h : (hNet n m s xs p).IsNeed o) :
    o.getD 0 = (if needK n m s xs p ≤ s then needK n m s xs p else 0) ∧ o.isSome = decide (needK n m s xs p ≤ s) := by
  have hb : needK n m s xs p = o.getD (s + 1) ∧ ∀ k, o = some k → k ≤ s := bst_need h
  rw [hb.1]
  cases o with
  | none => exact ⟨by simp, by simp⟩
  | some k => have := hb.2 k rfl; exact ⟨by simp [this], by simp [this]⟩
/-- A search answers as the model's numbers say, in any later world. -/
def SchOk (w : World) (v : Value) (n m s : Nat) (xs : List Int) (p : Int) : Prop := ∀ w', Below w.heap.size w w' → HxV w' →
  Calls Tryd.prog 19 #[v] w' fun e w'' => e = .returned (.tuple #[.int .i64 ((if needK n m s xs p ≤ s then needK n m s xs p else 0 : Nat) : Int), .bool (decide (needK n m s xs p ≤ s))]) ∧ Below w'.heap.size w' w''
set_option maxHeartbeats 800000 in
theorem searchFor_any (n m s : Nat) (xs : List Int) (p : Int) (hp : p = 1 ∨ p = 2) (h1 : 1 ≤ n) (h2 : 1 ≤ m) (hnm : n * m = s) (h30 : s ≤ 30) (hl : xs.length = s) (hA : allB 0 2 xs = true) (w : World) :
    Calls Tryd.prog 18 #[.agg (hbL n m xs).toArray, .int .i64 p] w fun e w' => ∃ v, e = .returned v ∧ SchOk w' v n m s xs p ∧ Below w.heap.size w w' := by
  have hn30 : n ≤ s := by rw [← hnm]; exact Nat.le_mul_of_pos_right n (by omega)
  have hm30 : m ≤ s := by rw [← hnm]; exact Nat.le_mul_of_pos_left m (by omega)
  rcases hp with rfl | rfl
  · refine (searchFor1_any n m xs w (by omega) (by omega) (by omega)).mono ?_
    rintro e w1 ⟨bb, pb, rfl, hM, hbb, hpb, hB⟩
    refine ⟨_, rfl, fun w' hw' hv => ?_, hB⟩
    have hz := hw'.size
    refine (least_any n m s bb pb 20 (n - 1) xs 1 (fun j => j / m) w' h2 hnm h30 hl hA (by omega) (hexM_now hM hbb hpb hw') (by omega) (by omega) hv (fun j hj w => gridRow_any n m j _ h2 rfl (by omega) w) (fun _ _ => rfl) (fun j hj => ?_) (fun j hj => ?_)).mono ?_
    · have hd : (j / m = 0) ↔ j < m := by rw [Nat.div_eq_zero_iff]; omega
      rw [Bool.eq_iff_iff]; simpa [hNet] using hd
    · have hd : (j / m = n - 1) ↔ s ≤ j + m := by
        have hjm := Nat.div_add_mod j m
        have hml := Nat.mod_lt j (show 0 < m by omega)
        have hsn : m * (n - 1) + m = s := by
          rw [← hnm, Nat.mul_comm n m]
          obtain ⟨k, rfl⟩ : ∃ k, n = k + 1 := ⟨n - 1, by omega⟩
          rw [Nat.add_sub_cancel, Nat.mul_add, Nat.mul_one]
        constructor
        · intro h; rw [h] at hjm; omega
        · intro h
          have h3 : j / m < n := by rw [Nat.div_lt_iff_lt_mul (by omega), hnm]; exact hj
          have h4 : n - 1 ≤ j / m := by rw [Nat.le_div_iff_mul_le (by omega), Nat.mul_comm]; omega
          omega
      have e : (hNet n m s xs 1).fin j = decide (s ≤ j + m) := by simp [hNet]
      rw [e, Bool.eq_iff_iff]; simpa using hd
    · rintro e w2 ⟨⟨o, ho, rfl⟩, hB2⟩
      have hq := need_of ho
      rw [hq.1, hq.2]
      exact ⟨rfl, hB2⟩
  · refine (searchFor2_any n m xs w (by omega) (by omega) (by omega)).mono ?_
    rintro e w1 ⟨bb, pb, rfl, hM, hbb, hpb, hB⟩
    refine ⟨_, rfl, fun w' hw' hv => ?_, hB⟩
    have hz := hw'.size
    refine (least_any n m s bb pb 24 (m - 1) xs 2 (fun j => j % m) w' h2 hnm h30 hl hA (by omega) (hexM_now hM hbb hpb hw') (by omega) (by omega) hv (fun j hj w => gridColumn_any n m j _ h2 rfl w) (fun _ _ => rfl) (fun j hj => ?_) (fun j hj => ?_)).mono ?_
    · rw [Bool.eq_iff_iff]; simp [hNet]
    · rw [Bool.eq_iff_iff]; simp [hNet]; omega
    · rintro e w2 ⟨⟨o, ho, rfl⟩, hB2⟩
      have hq := need_of ho
      rw [hq.1, hq.2]
      exact ⟨rfl, hB2⟩
set_option maxHeartbeats 400000 in
theorem isPlayer_any (p : Int) (w : World) : Calls Tryd.prog 10 #[.int .i64 p] w fun e w' => e = .returned (.bool (p == 1 || p == 2)) ∧ w = w' := by
  cases h1 : p == 1 <;> cases h2 : p == 2 <;>
  · go_enter Tryd.func10, Tryd.ntmps10
    go_wp2_with fail
    go_ret
    exact ⟨rfl, rfl⟩
theorem hxPlayer_any (p : Int) (w : World) : Calls Tryd.prog 7 #[.int .i64 p] w fun e w' => e = .returned (.bool (p == 1 || p == 2)) ∧ w = w' := by
  have H : Hid (∀ w : World, Calls Tryd.prog 14 #[.int .i64 p, .int .i64 1, .int .i64 2] w fun e w' => e = .returned (.bool (p == 1 || p == 2)) ∧ w = w') := Lib.hid (fun w => by
    by_cases h : 1 ≤ p ∧ p ≤ 2
    · have e : (p == 1 || p == 2) = true := by simp; omega
      rw [e]; exact l1In_yes p 1 2 h w
    · have e : (p == 1 || p == 2) = false := by simp; omega
      rw [e]; exact l1In_no p 1 2 h w)
  go_enter Tryd.func7, Tryd.ntmps7
  go_wp2_with fail
  refine (H.out _).mono ?_
  rintro e w1 ⟨rfl, rfl⟩
  go_wp2_with fail
  go_ret
  exact ⟨rfl, rfl⟩
theorem hxNeed_any (n m s : Nat) (xs : List Int) (p : Int) (hp : p = 1 ∨ p = 2) (h1 : 1 ≤ n) (h2 : 1 ≤ m) (hnm : n * m = s) (h30 : s ≤ 30) (hl : xs.length = s) (hA : allB 0 2 xs = true) (a : Option Addr) (b len cap : Nat) (w : World) (hn : xs.length = len) (h : Rd w a b 0 xs) (hb0 : len = 0 ∨ b < w.heap.size) :
    Calls Tryd.prog 8 #[.int .i64 n, .int .i64 m, .slice a len cap, .int .i64 p] w fun e w' => e = .returned (.int .i64 (needK n m s xs p : Nat)) ∧ Below w.heap.size w w' := by
  rcases hp with rfl | rfl
  · exact hxNeed1_any n m s xs a b len cap w hn h hb0 h1 h2 hnm h30 (by omega) hA
  · exact hxNeed2_any n m s xs a b len cap w hn h hb0 h1 h2 hnm h30 (by omega) hA
set_option maxHeartbeats 800000 in
theorem hasWon_any (n m s : Nat) (xs : List Int) (p : Int) (hp : p = 1 ∨ p = 2) (h1 : 1 ≤ n) (h2 : 1 ≤ m) (hnm : n * m = s) (h30 : s ≤ 30) (hl : xs.length = s) (hA : allB 0 2 xs = true) (w : World) (hv : HxV w) :
    Calls Tryd.prog 17 #[.agg (hbL n m xs).toArray, .int .i64 p] w fun e w' => e = .returned (.bool (needK n m s xs p == 0)) ∧ Below w.heap.size w w' := by
  have HS := Lib.hid (fun w => searchFor_any n m s xs p hp h1 h2 hnm h30 hl hA w)
  have hsz := hbL_size n m xs (by omega)
  have HSK : Hid (∀ w v, SchOk w v n m s xs p → ∀ w', Below w.heap.size w w' → HxV w' → Calls Tryd.prog 19 #[v] w' fun e w'' => e = .returned (.tuple #[.int .i64 ((if needK n m s xs p ≤ s then needK n m s xs p else 0 : Nat) : Int), .bool (decide (needK n m s xs p ≤ s))]) ∧ Below w'.heap.size w' w'') := Lib.hid (fun w v h => h)
  have HV := Lib.hid hv
  have hB0 := balloc (Below.refl w.heap.size w) (.cells (hbL n m xs).toArray 36)
  have hg0 := heap_alloc_new w (.cells (hbL n m xs).toArray 36)
  generalize needK n m s xs p = k at *
  clear hv hp h1 h2 hnm hl hA
  generalize (hbL n m xs).toArray = bd at *
  have hr : (((k == 0) : Bool)) = (decide (k ≤ s) && (((if k ≤ s then k else 0 : Nat) : Int) == 0)) := by
    by_cases h : k ≤ s
    · rw [Bool.eq_iff_iff]; simp [h]
    · rw [Bool.eq_iff_iff]; simp [h]; omega
  have HR := Lib.hid hr
  clear hr
  generalize (if k ≤ s then k else 0 : Nat) = j at *
  go_enter Tryd.func17, Tryd.ntmps17
  go_wp2_with (((with_reducible refine load_blk blkHex ?_ _ rfl (w.heap.size) ?_ (bd) hg0 (hsz) ?_); exact rfl; exact rfl; simp only [Act.put, List.setIfInBounds_toArray, List.set_cons_zero, List.set_cons_succ]))
  refine (HS.out _).mono ?_
  rintro e w1 ⟨v, rfl, hS, hb1⟩
  have hB1 := bnext hB0 hb1
  go_wp2_with fail
  refine (HSK.out _ _ hS _ (Below.refl _ _) (hxv_later HV.out hB1)).mono ?_
  rintro e w2 ⟨rfl, hb2⟩
  have hB2 := bnext hB1 hb2
  cases hd : decide (k ≤ s)
  · have HR2 : Hid ((k == 0) = false) := Lib.hid (by rw [HR.out, hd]; rfl)
    clear hd
    go_wp2_with fail
    go_ret
    exact ⟨ret_bool HR2.out.symm, hB2⟩
  · have HR2 : Hid ((k == 0) = ((j : Int) == 0)) := Lib.hid (by rw [HR.out, hd]; rfl)
    clear hd
    go_wp2_with fail
    go_ret
    exact ⟨ret_bool HR2.out.symm, hB2⟩
set_option maxHeartbeats 800000 in
theorem winner_any (n m s : Nat) (xs : List Int) (h1 : 1 ≤ n) (h2 : 1 ≤ m) (hnm : n * m = s) (h30 : s ≤ 30) (hl : xs.length = s) (hA : allB 0 2 xs = true) (w : World) (hv : HxV w) :
    Calls Tryd.prog 13 #[.agg (hbL n m xs).toArray] w fun e w' => e = .returned (.int .i64 (if needK n m s xs 1 == 0 then 1 else 2)) ∧ Below w.heap.size w w' := by
  have HS := Lib.hid (fun w hv => hasWon_any n m s xs 1 (.inl rfl) h1 h2 hnm h30 hl hA w hv)
  have hsz := hbL_size n m xs (by omega)
  have HV := Lib.hid hv
  have hB0 := balloc (Below.refl w.heap.size w) (.cells (hbL n m xs).toArray 36)
  have hg0 := heap_alloc_new w (.cells (hbL n m xs).toArray 36)
  generalize (needK n m s xs 1 == 0) = k at *
  clear hv h1 h2 hnm hl hA
  generalize (hbL n m xs).toArray = bd at *
  go_enter Tryd.func13, Tryd.ntmps13
  go_wp2_with (((with_reducible refine load_blk blkHex ?_ _ rfl (w.heap.size) ?_ (bd) hg0 (hsz) ?_); exact rfl; exact rfl; simp only [Act.put, List.setIfInBounds_toArray, List.set_cons_zero, List.set_cons_succ]))
  refine (HS.out _ (hxv_later HV.out hB0)).mono ?_
  rintro e w1 ⟨rfl, hb1⟩
  have hB1 := bnext hB0 hb1
  cases k
  · go_wp2_with fail
    go_ret
    exact ⟨rfl, hB1⟩
  · go_wp2_with fail
    go_ret
    exact ⟨rfl, hB1⟩
end Go.Proofs.YtianmmjjcegkjaaDoor
