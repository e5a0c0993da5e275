import Derived.LoopN
import Derived.BigRegion
import Derived.BigQuiet
import Derived.RegionTactic
import Derived.Test.YtlkgmnmnlfaopaaQ26
import Derived.Test.YtlkgmnmnlfaopaaQ15
namespace Go.Proofs.Ytlkgmnmnlfaopaa
open Go.RowKit
set_option maxRecDepth 4000
section
variable {ops : Array Oper} {rest : List Oper} {o : Oper} {a : Act} {Q : Exit → Act → World → Prop}
theorem append_many (base off b cap : Nat) (w0 : World) (v : Value) (xs ys : List Int)
    (hgd : o.guard = none) (s t : Operand) (ho : o.op = .call { callee := .builtin .append, args := #[s, t], argTypes := #[31, 31] })
    (hs : a.eval s = v) (hx : a.eval t = .slice (some ⟨b, off, none⟩) ys.length cap)
    (hc : ∀ j, j < ys.length → w0.cell? ⟨b, off + j, none⟩ = some (.int .i64 (ys.getD j 0)))
    (hown : w0.ownsRow base 3 1 v xs.length (xs.map (Value.int .i64))) (hbase : base ≤ w0.heap.size) (hlen : xs.length < 1000000000000) (hly : ys.length ≤ 1000000)
    (h : ∀ v' w', w'.ownsRow base 3 1 v' (xs ++ ys).length ((xs ++ ys).map (Value.int .i64)) → Below base w0 w' → wpList Try.prog ops Q rest (a.put o.dst v') w') :
    wpList Try.prog ops Q (o :: rest) a w0 := by
  obtain ⟨i0, hi, hz0, hz1, hz2⟩ := info_parts intInfo
  refine wpList_append_own _ hgd s t 31 ho base 3 i0 (.int .i64 0) 1 8 Try.underlying31 hi hz0 hz1 hz2 rfl (by decide) v xs.length _ hs hown ⟨b, off, none⟩ ys.length cap (ys.map (Value.int .i64)) hx (by simp) ?_ ?_ ?_ ?_ ?_ ?_
  · intro j u hj
    rw [Addr.add_lit]
    have hjl : j < ys.length := by
      have := (List.getElem?_eq_some_iff.1 hj).1
      simpa using this
    rw [hc j hjl]
    rw [List.getElem?_map, List.getElem?_eq_getElem hjl] at hj
    simp only [Option.map_some, Option.some.injEq] at hj
    rw [← hj, List.getD_eq_getElem?_getD, List.getElem?_eq_getElem hjl]
    rfl
  · intro u hu
    simp only [List.mem_map] at hu
    obtain ⟨z, -, rfl⟩ := hu
    rfl
  · unfold maxLen; omega
  · omega
  · exact hbase
  · intro v' w1 hown' hgrow _
    refine h v' w1 (by simpa using hown') ?_
    exact (Below.refl base w0).grown hgrow hbase (fun k hk => (hown.lt k hk).1)
end
set_option maxHeartbeats 800000 in
theorem l1Own_pos (xs : List Int) (h0 : 0 < xs.length) (hl : xs.length ≤ 1000000) (a : Option Addr) (cap B : Nat) (w : World) (h : RdS w B a xs) (hB : B ≤ w.heap.size) :
    Calls Try.prog 88 #[.slice a xs.length cap] w fun e w' => ∃ v, e = .returned v ∧ w'.ownsRow w.heap.size 3 1 v xs.length (xs.map (Value.int .i64)) ∧ Below w.heap.size w w' := by
  have hba := balloc (Below.refl w.heap.size w) (.cells #[] 3)
  obtain ⟨b, off, hr, hb⟩ := rds_chg h (chg_below hba) hB (.inr rfl)
  obtain ⟨rfl, -⟩ := hr.2 0 h0
  have hO : (w.alloc (.cells #[] 3)).ownsRow w.heap.size 3 1 (.slice (some ⟨w.heap.size, 0, none⟩) 0 0) ([] : List Int).length (([] : List Int).map (Value.int .i64)) :=
    own_block (cap := 0) (xs := []) (Nat.le_refl _) (heap_alloc_new w _) rfl rfl (by simp [maxLen])
  have hz := hba.size
  have HC := Lib.hid (fun j hj => (hr.2 j hj).2)
  clear h hr
  go_enter Try.func88, Try.ntmps88
  go_wp2_with (at_builtin; refine append_many w.heap.size off b cap _ _ ([] : List Int) xs rfl _ _ rfl rfl rfl HC.out hO hz (by simp) hl ?_; intro v' w6 ho6 hb6)
  go_ret
  exact ⟨_, rfl, ho6, hba.trans hb6⟩
theorem upd_row (n : Nat) (f : Nat → Int) (j : Nat) (v : Int) (hj : j < n) : (rowL n f).set j v = rowL n (fun c => if c = j then v else f c) := by
  apply List.ext_getElem?
  intro c
  simp only [rowL, List.getElem?_set, List.getElem?_map, List.length_map, List.length_range]
  by_cases h : j = c
  · subst h
    rw [if_pos rfl, if_pos hj, List.getElem?_range hj]
    simp
  · rw [if_neg h]
    by_cases hc : c < n
    · rw [List.getElem?_range hc]
      simp [Ne.symm h]
    · rw [List.getElem?_eq_none (by simp; omega)]; rfl
def updF (f : Nat → Nat → Int) (k j : Nat) (v : Int) : Nat → Nat → Int := fun i c => if i = k ∧ c = j then v else f i c
theorem grid_put (m n : Nat) (f : Nat → Nat → Int) (k j : Nat) (v : Int) (hk : k < m) (hj : j < n) : (gridL m n f).set k (((gridL m n f).getD k []).set j v) = gridL m n (updF f k j v) := by
  rw [gridL_at _ _ _ _ hk, upd_row n (f k) j v hj]
  apply List.ext_getElem?
  intro i
  simp only [gridL, List.getElem?_set, List.getElem?_map, List.length_map, List.length_range]
  by_cases h : k = i
  · subst h
    rw [if_pos rfl, if_pos hk, List.getElem?_range hk]
    simp only [Option.map_some, Option.some.injEq]
    congr 1
    funext c
    simp [updF]
  · rw [if_neg h]
    by_cases hi : i < m
    · rw [List.getElem?_range hi]
      simp only [Option.map_some, Option.some.injEq]
      congr 1
      funext c
      simp [updF, Ne.symm h]
    · rw [List.getElem?_eq_none (by simp; omega)]; rfl
theorem grid_self {rs : List (List Int)} {m n : Nat} (ok : GOk rs m n) : gridL m n (fun i j => (rs.getD i []).getD j 0) = rs := by
  apply List.ext_getElem?
  intro i
  by_cases hi : i < m
  · have hi2 : i < rs.length := by rw [ok.rows]; exact hi
    simp only [gridL, List.getElem?_map, List.getElem?_range hi, List.getElem?_eq_getElem hi2, Option.map_some, Option.some.injEq]
    have hl := ok.len i hi
    rw [getD_at rs i hi2] at hl ⊢
    apply List.ext_getElem?
    intro j
    by_cases hj : j < n
    · simp only [rowL, List.getElem?_map, List.getElem?_range hj, Option.map_some]
      rw [getD_at _ j (by omega), List.getElem?_eq_getElem (by omega)]
    · rw [List.getElem?_eq_none (by rw [rowL_len]; omega), List.getElem?_eq_none (by omega)]
  · rw [List.getElem?_eq_none (by rw [gridL_len]; omega), List.getElem?_eq_none (by rw [ok.rows]; omega)]
theorem grid_congr (m n : Nat) (f g : Nat → Nat → Int) (h : ∀ i j, i < m → j < n → f i j = g i j) : gridL m n f = gridL m n g := by
  unfold gridL
  refine List.map_congr_left (fun i hi => ?_)
  unfold rowL
  exact List.map_congr_left (fun j hj => h i j (List.mem_range.1 hi) (List.mem_range.1 hj))
theorem keep1_any (j : Nat) (x : Int) (w : World) : Calls Try.prog 109 #[.int .i64 j, .int .i64 x] w fun e w' => e = .returned (.int .i64 x) ∧ Below w.heap.size w w' := by
  go_enter Try.func109, Try.ntmps109
  go_wp2_with fail
  go_ret
  exact ⟨rfl, Below.refl _ _⟩
set_option maxHeartbeats 800000 in
theorem copied_any (rs : List (List Int)) (m n : Nat) (ok : GOk rs m n) (ar : Option Addr) (cr B : Nat) (w : World) (h : RdSS w B ar rs) (hB : B ≤ w.heap.size) :
    Calls Try.prog 81 #[.slice ar rs.length cr] w fun e w' => ∃ v, e = .returned v ∧ CellsV w' w.heap.size v rs ∧ Below w.heap.size w w' := by
  have HC := Lib.hid (changed0_any rs m n ok (fun _ x => x) 109 (fun _ _ => rfl) ar cr B w h hB (fun i j _ _ w' _ => keep1_any j _ w'))
  rw [grid_self ok] at HC
  clear h ok
  go_enter Try.func81, Try.ntmps81
  go_wp2_with fail
  refine HC.out.mono ?_
  rintro e w1 ⟨v, rfl, hc, hb⟩
  obtain ⟨va, vm, vc, rfl⟩ := cells_shape hc
  go_wp2_with fail
  go_ret
  exact ⟨_, rfl, hc, hb⟩
theorem take_succ' (rs : List (List Int)) (k : Nat) (hk : k < rs.length) : rs.take (k + 1) = rs.take k ++ [rs.getD k []] := by
  rw [List.take_add_one, getD_at rs k hk, List.getElem?_eq_getElem hk]; rfl
set_option maxHeartbeats 1600000 in
theorem gmOwn_any (rs : List (List Int)) (m n : Nat) (ok : GOk rs m n) (ar : Option Addr) (cr B : Nat) (w : World) (h : RdSS w B ar rs) (hB : B ≤ w.heap.size) :
    Calls Try.prog 78 #[.slice ar rs.length cr] w fun e w' => ∃ v, e = .returned v ∧ CellsV w' w.heap.size v rs ∧ Below w.heap.size w w' := by
  have hmr := ok.rows
  subst hmr
  have hm1 := ok.m1
  have hm3 := ok.m3
  have hn3 := ok.n3
  have hn1 := ok.n1
  have HLN := Lib.hid (fun k (hk : k < rs.length) => ok.len k hk)
  have HTK := Lib.hid (fun k hk => take_succ' rs k hk)
  have HR := Lib.hid h
  have hlen : ∀ k, (rs.take k).length ≤ 3 := fun k => by rw [List.length_take]; omega
  have HLT := Lib.hid hlen
  clear h ok hlen
  go_enter Try.func78, Try.ntmps78
  go_wp2_with fail
  go_loopw [3, 8] (fun v3 v8 wr => ∃ k : Nat, k ≤ rs.length ∧ v8 = .int .i64 k ∧ CellsV wr w.heap.size v3 (rs.take k) ∧ Below w.heap.size w wr) (fun _ v8 _ => rs.length - (intOf v8).toNat)
  case atStart => exact ⟨0, Nat.zero_le _, rfl, cells_nil _ _, Below.refl _ _⟩
  case round =>
    obtain ⟨k, hk, rfl, hc, hb⟩ := hrel
    obtain ⟨wq, rfl⟩ : ∃ wq : World, wq = wr := ⟨_, rfl⟩
    have hzq := hb.size
    by_cases hlt : k < rs.length
    · have hki : (k : Int) < (rs.length : Int) := by omega
      obtain ⟨-, b, off, hx⟩ := rdss_chg HR.out (chg_below hb) hB (.inr rfl)
      obtain ⟨rfl, -, ra, rc, k0, hrk⟩ := hx k hlt
      have HO := Lib.hid (l1Own_pos (rs.getD k []) (by rw [HLN.out k hlt]; omega) (by rw [HLN.out k hlt]; omega) ra rc B wq hrk (by omega))
      have HT := Lib.hid (HTK.out k hlt)
      have hll := HLT.out k
      clear hx hrk
      generalize rs.getD k [] = r at *
      go_wp2_with fail
      refine HO.out.mono ?_
      rintro e w3 ⟨u, rfl, hu, hb3⟩
      obtain ⟨-, ua, uc, ub, rfl, -, -⟩ := own_shape hu
      go_wp2_with (at_builtin; refine append_row w.heap.size _ wq w3 _ _ (rs.take k) r rfl _ _ rfl rfl rfl rfl hc hb3 hu rfl hzq (by omega) ?_; intro v' w5 hc5 hb5)
      go_roundw
      case rel => exact ⟨k + 1, by omega, by go_num, by rw [HT.out]; exact hc5, (hb.trans (hb3.mono hzq)).trans hb5⟩
      case measure => simp [intOf]; omega
    · have hk2 : k = rs.length := by omega
      rw [hk2, List.take_length] at hc
      have hkn : ¬ (k : Int) < (rs.length : Int) := by omega
      obtain ⟨va, vm, vc, rfl⟩ := cells_shape hc
      clear hk2 hk hlt
      go_wp2_with fail
      go_ret
      exact ⟨_, rfl, hc, hb⟩
end Go.Proofs.Ytlkgmnmnlfaopaa
