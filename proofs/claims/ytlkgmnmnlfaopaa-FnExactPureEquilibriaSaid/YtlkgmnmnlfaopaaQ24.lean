import Derived.LoopN
import Derived.BigRegion
import Derived.BigQuiet
import Derived.Test.YtlkgmnmnlfaopaaQ20
namespace Go.Proofs.Ytlkgmnmnlfaopaa
open Go.RowKit
set_option maxRecDepth 4000
/-- One choice for sure. -/
def unitL (n i : Nat) : List Int := (List.replicate n (0 : Int)).set i 1
theorem unitL_len (n i : Nat) : (unitL n i).length = n := by simp [unitL]
theorem unitL_all (n i : Nat) : allB 0 1000000 (unitL n i) = true := allB_yes _ _ _ (fun k hk => by
  rw [unitL_len] at hk
  simp only [unitL, List.getD_eq_getElem?_getD, List.getElem?_set, List.getElem?_replicate, List.length_replicate]
  by_cases e : i = k
  · subst e; simp [hk]
  · simp [e, hk])
set_option maxHeartbeats 800000 in
theorem unit_any (n i : Nat) (hi : i < n) (hn : n ≤ 1000) (w : World) :
    Calls Try.prog 77 #[.int .i64 n, .int .i64 i] w fun e w' => ∃ v, e = .returned v ∧ OI w' w.heap.size w'.heap.size v (unitL n i) ∧ Below w.heap.size w w' := by
  obtain ⟨i0, hin, hz0, hz1, hz2⟩ := info_parts intInfo
  go_enter Try.func77, Try.ntmps77
  go_wp2_with (at_make; refine wpList_make_full _ rfl _ _ 31 rfl w.heap.size 3 i0 (.int .i64 0) 1 Try.underlying31 hin hz0 hz1 _ _ _ _ n rfl rfl ?hC ?hL ?hb2 ?hb3 ?hb4 ?_)
  case hC => rfl
  case hL => rfl
  case hb2 => rw [hz2]; omega
  case hb3 => unfold maxLen; omega
  case hb4 => exact Nat.le_refl _
  intro w1 ho1 hg1
  have ho3 : w1.ownsRow w.heap.size 3 1 (.slice (some ⟨w.heap.size, 0, none⟩) n n) n ((List.replicate n (0 : Int)).map (Value.int .i64)) := by
    rw [List.map_replicate]
    first | exact made_ints n ▸ ho1 | exact made_ints' n ▸ ho1
  have hb1 : Below w.heap.size w w1 := (Below.refl _ _).grown hg1 (Nat.le_refl _) (fun k hk => by cases hk)
  have hst := (ho3.stored i (.int .i64 1)).1
  rw [← List.map_set] at hst
  have hf := ho3.frozenAt i
  have hcc := ho3.cellAt i (by omega)
  have hl : i < ((List.replicate n (0 : Int)).map (Value.int .i64)).length := by simpa using hi
  rw [List.getElem?_eq_getElem hl] at hcc
  generalize ((List.replicate n (0 : Int)).map (Value.int .i64))[i] = old at hcc
  have HO : Hid (OI (w1.setCell ⟨w.heap.size, i, none⟩ (.int .i64 1)) w.heap.size (w1.setCell ⟨w.heap.size, i, none⟩ (.int .i64 1)).heap.size (.slice (some ⟨w.heap.size, 0, none⟩) n n) (unitL n i)) := Lib.hid ⟨_, by rw [unitL_len]; exact hst, own_lt hst⟩
  have hii : (i : Int) < (n : Int) := by omega
  clear ho1 hg1 hst ho3 hl
  go_wp2_with fail
  go_ret
  exact ⟨_, rfl, HO.out, hb1.setCell (p := ⟨w.heap.size, i, none⟩) (Nat.le_refl _) _⟩
set_option maxHeartbeats 800000 in
theorem gmPure_any (n i : Nat) (hi : i < n) (hn : n ≤ 1000) (w : World) :
    Calls Try.prog 74 #[.int .i64 n, .int .i64 i] w fun e w' => ∃ v, e = .returned v ∧ OI w' w.heap.size w'.heap.size v (unitL n i) ∧ Below w.heap.size w w' := by
  obtain ⟨i0, hin, hz0, hz1, hz2⟩ := info_parts intInfo
  go_enter Try.func74, Try.ntmps74
  go_wp2_with (at_make; refine wpList_make_full _ rfl _ _ 31 rfl w.heap.size 3 i0 (.int .i64 0) 1 Try.underlying31 hin hz0 hz1 _ _ _ _ n rfl rfl ?hC ?hL ?hb2 ?hb3 ?hb4 ?_)
  case hC => rfl
  case hL => rfl
  case hb2 => rw [hz2]; omega
  case hb3 => unfold maxLen; omega
  case hb4 => exact Nat.le_refl _
  intro w1 ho1 hg1
  have ho3 : w1.ownsRow w.heap.size 3 1 (.slice (some ⟨w.heap.size, 0, none⟩) n n) n ((List.replicate n (0 : Int)).map (Value.int .i64)) := by
    rw [List.map_replicate]
    first | exact made_ints n ▸ ho1 | exact made_ints' n ▸ ho1
  have hb1 : Below w.heap.size w w1 := (Below.refl _ _).grown hg1 (Nat.le_refl _) (fun k hk => by cases hk)
  have hst := (ho3.stored i (.int .i64 1)).1
  rw [← List.map_set] at hst
  have hf := ho3.frozenAt i
  have hcc := ho3.cellAt i (by omega)
  have hl : i < ((List.replicate n (0 : Int)).map (Value.int .i64)).length := by simpa using hi
  rw [List.getElem?_eq_getElem hl] at hcc
  generalize ((List.replicate n (0 : Int)).map (Value.int .i64))[i] = old at hcc
  have HO : Hid (OI (w1.setCell ⟨w.heap.size, i, none⟩ (.int .i64 1)) w.heap.size (w1.setCell ⟨w.heap.size, i, none⟩ (.int .i64 1)).heap.size (.slice (some ⟨w.heap.size, 0, none⟩) n n) (unitL n i)) := Lib.hid ⟨_, by rw [unitL_len]; exact hst, own_lt hst⟩
  have hii : (i : Int) < (n : Int) := by omega
  clear ho1 hg1 hst ho3 hl
  go_wp2_with fail
  go_ret
  exact ⟨_, rfl, HO.out, hb1.setCell (p := ⟨w.heap.size, i, none⟩) (Nat.le_refl _) _⟩
/-- The pure equilibria of one row up to a column, and of the rows. -/
def peJ (P : Nat → Nat → Bool) (i : Nat) : Nat → List (List Int)
  | 0 => []
  | j + 1 => if P i j then peJ P i j ++ [[(i : Int), (j : Int)]] else peJ P i j
def peI (P : Nat → Nat → Bool) (n : Nat) : Nat → List (List Int)
  | 0 => []
  | i + 1 => peI P n i ++ peJ P i n
theorem peJ_len (P : Nat → Nat → Bool) (i : Nat) : ∀ j, (peJ P i j).length ≤ j
  | 0 => by simp [peJ]
  | j + 1 => by
    have := peJ_len P i j
    simp only [peJ]
    split
    · rw [List.length_append]; simp; omega
    · omega
theorem peI_len (P : Nat → Nat → Bool) (n : Nat) : ∀ i, (peI P n i).length ≤ i * n
  | 0 => by simp [peI]
  | i + 1 => by
    have h1 := peI_len P n i
    have h2 := peJ_len P i n
    simp only [peI, List.length_append]
    rw [Nat.succ_mul]
    omega
theorem peJ_row (P : Nat → Nat → Bool) (i : Nat) : ∀ j x, x ∈ peJ P i j → x.length = 2
  | 0, x, h => by simp [peJ] at h
  | j + 1, x, h => by
    simp only [peJ] at h
    split at h
    · rw [List.mem_append] at h
      rcases h with h | h
      · exact peJ_row P i j x h
      · simp at h; rw [h]; rfl
    · exact peJ_row P i j x h
theorem peI_row (P : Nat → Nat → Bool) (n : Nat) : ∀ i x, x ∈ peI P n i → x.length = 2
  | 0, x, h => by simp [peI] at h
  | i + 1, x, h => by
    simp only [peI, List.mem_append] at h
    rcases h with h | h
    · exact peI_row P n i x h
    · exact peJ_row P i n x h
def peP (gr gc : List (List Int)) (m n i j : Nat) : Bool := eqB gr gc m n (unitL m i) (unitL n j)
end Go.Proofs.Ytlkgmnmnlfaopaa
