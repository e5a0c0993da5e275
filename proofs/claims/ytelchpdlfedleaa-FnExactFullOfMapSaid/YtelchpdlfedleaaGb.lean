import Derived.Test.YtelchpdlfedleaaZh
import Derived.Test.YtelchpdlfedleaaY9
namespace Go.Proofs.Ytelchpdlfedleaa
open Go.RowKit
set_option maxRecDepth 4000
theorem eqPair (a b c d : Int) (w : World) : (Op.equalIn 10000 121 (.agg #[.int .i64 a, .int .i64 b]) (.agg #[.int .i64 c, .int .i64 d])).run Try.prog w = .ok (a == c && b == d) w := by
  have u3 := Try.underlying3
  have a3 := Try.isAgg3
  have z3 := Try.sizeOf3
  rw [show (10000 : Nat) = 9999 + 1 from rfl, Op.equalIn]
  simp only [Sem.run_bind, run_underlying Try.underlying121, Result.andThen_ok]
  simp only [Std.Legacy.Range.forIn_eq_forIn_range', Std.Legacy.Range.size, Nat.sub_zero, Nat.add_sub_cancel, Nat.div_one, List.range'_succ, List.range'_zero, List.forIn_cons, List.forIn_nil]
  go_simp
  by_cases h1 : a = c <;> by_cases h2 : b = d <;> simp [h1, h2]
set_option maxHeartbeats 400000 in
theorem isSame_any (a b c d : Int) (w : World) :
    Calls Try.prog 148 #[.agg #[.int .i64 a, .int .i64 b], .agg #[.int .i64 c, .int .i64 d]] w fun e w' => e = .returned (.bool (sameB (a, b) (c, d))) ∧ Below w.heap.size w w' := by
  have q1 := fun w => eqPair a b c d w
  have q2 := fun w => eqPair a b d c w
  have HS : Hid (sameB (a, b) (c, d) = ((a == c && b == d) || (a == d && b == c))) := Lib.hid rfl
  have hB := balloc (balloc (Below.refl w.heap.size w) (.cells #[.int .i64 a, .int .i64 b] 121)) (.cells #[.int .i64 c, .int .i64 d] 121)
  generalize (a == c && b == d) = B1 at q1 HS
  generalize (a == d && b == c) = B2 at q2 HS
  cases B1
  · go_enter Try.func148, Try.ntmps148
    go_wp2_with fail
    go_ret
    exact ⟨by rw [HS.out]; rfl, hB⟩
  · go_enter Try.func148, Try.ntmps148
    go_wp2_with fail
    go_ret
    exact ⟨by rw [HS.out]; rfl, hB⟩
/-- What a search for a pair answers. -/
def fp (o : Option (Int × Int)) : Value := .tuple #[.agg #[.int .i64 (o.getD (0, 0)).1, .int .i64 (o.getD (0, 0)).2], .bool o.isSome]
theorem ret_fp {o : Option (Int × Int)} {p : Int × Int} (h : o = some p) : Ending.returned (.tuple #[.agg #[.int .i64 p.1, .int .i64 p.2], .bool true]) = .returned (fp o) := by rw [h]; rfl
theorem ret_fn {o : Option (Int × Int)} (h : o = none) : Ending.returned (.tuple #[.agg #[.int .i64 0, .int .i64 0], .bool false]) = .returned (fp o) := by rw [h]; rfl
set_option maxHeartbeats 400000 in
theorem pairs_any (x y z : Int) (w : World) :
    Calls Try.prog 150 #[.agg #[.int .i64 x, .int .i64 y, .int .i64 z]] w fun e w' => ∃ v, e = .returned v ∧ PairV w' w.heap.size v [(x, y), (x, z), (y, z)] ∧ Below w.heap.size w w' := by
  go_enter Try.func150, Try.ntmps150
  go_wp2_with fail
  go_ret
  refine ⟨_, rfl, ?_, by go_grown⟩
  refine ⟨rfl, .inr ⟨w.heap.size + 1, 3, #[.int .i64 x, .int .i64 y, .int .i64 x, .int .i64 z, .int .i64 y, .int .i64 z], rfl, by omega, ?_, by simp, by simp [maxLen], by simp, rfl⟩⟩
  have e := heap_alloc_new (w.alloc (.cells #[.int .i64 x, .int .i64 y, .int .i64 z] 61)) (.cells #[.int .i64 x, .int .i64 y, .int .i64 x, .int .i64 z, .int .i64 y, .int .i64 z] 121)
  rwa [World.size_alloc] at e
theorem flat3 : ∀ (cs : List (List Int)), (∀ k, k < cs.length → (cs.getD k []).length = 3) → ∀ k, k < cs.length → ∀ j, j < 3 → cs.flatten.getD (k * 3 + j) 0 = (cs.getD k []).getD j 0
  | [], _, k, hk, _, _ => absurd hk (Nat.not_lt_zero _)
  | c :: cs, h, k, hk, j, hj => by
    have hc : c.length = 3 := h 0 (by simp)
    match k with
    | 0 =>
      rw [List.flatten_cons, List.getD_eq_getElem?_getD, List.getElem?_append_left (by omega), Nat.zero_mul, Nat.zero_add]
      simp
    | k + 1 =>
      have e := flat3 cs (fun q hq => h (q + 1) (by simpa using hq)) k (by simpa using hk) j hj
      rw [List.flatten_cons, List.getD_eq_getElem?_getD, List.getElem?_append_right (by omega), hc, show (k + 1) * 3 + j - 3 = k * 3 + j by omega, ← List.getD_eq_getElem?_getD, e]
      simp
/-- The points of a cell, as the flat row has them. -/
theorem tri_flat {cs : List (List Int)} {m : Nat} (T : Tri cs m) {k : Nat} (hk : k < cs.length) : ∃ a b c : Nat, cs.getD k [] = [(a : Int), (b : Int), (c : Int)] ∧ a < b ∧ b < c ∧ c < m ∧ cs.flatten.getD (k * 3) 0 = a ∧ cs.flatten.getD (k * 3 + 1) 0 = b ∧ cs.flatten.getD (k * 3 + 2) 0 = c := by
  have hl : ∀ k, k < cs.length → (cs.getD k []).length = 3 := fun k hk => by
    obtain ⟨a, b, c, e, -⟩ := T k hk
    rw [e]; rfl
  obtain ⟨a, b, c, e, h1, h2, h3⟩ := T k hk
  have e0 := flat3 cs hl k hk 0 (by omega)
  have e1 := flat3 cs hl k hk 1 (by omega)
  have e2 := flat3 cs hl k hk 2 (by omega)
  rw [e] at e0 e1 e2
  exact ⟨a, b, c, e, h1, h2, h3, e0, e1, e2⟩
theorem cpr_len (cs : List (List Int)) (k : Nat) : (cpr cs k).length = 3 := rfl
/-- A figure as the program keeps its rooms: cells, pairs along the border, and a function that is asked for doors. -/
structure Fgr (F : FuncId) (d : Int × Int → Bool) (cs : List (List Int)) (ps : List (Int × Int)) (m : Nat) : Prop where
  cf : ∀ (args : Array Value) (w : World), (callFunc F args).run Try.prog w = .ok (.enter F args) w
  tri : Tri cs m
  fig : Fg cs.length (cpr cs) d
  clen : cs.length ≤ 1000
  plen : ps.length ≤ 1000
/-- .. in a world. -/
structure RmW (F : FuncId) (first caps : Array Value) (d : Int × Int → Bool) (cs : List (List Int)) (ps : List (Int × Int)) (base : Nat) (r : Array Value) (w : World) : Prop where
  v : RmsV w base cs ps (.func (.func F) first caps) r
  cells : ∀ k, k < cs.length → Asks F first caps d w (cpr cs k)
  border : Asks F first caps d w ps
theorem RmW.later {F : FuncId} {first caps : Array Value} {d : Int × Int → Bool} {cs : List (List Int)} {ps : List (Int × Int)} {base : Nat} {r : Array Value} {w w' : World} (h : RmW F first caps d cs ps base r w) (hb : Below w.heap.size w w') : RmW F first caps d cs ps base r w' :=
  ⟨rms_now h.v hb, fun k hk => asks_later (h.cells k hk) hb, asks_later h.border hb⟩
theorem rm_size {F : FuncId} {first caps : Array Value} {d : Int × Int → Bool} {cs : List (List Int)} {ps : List (Int × Int)} {base : Nat} {r : Array Value} {w : World} (h : RmW F first caps d cs ps base r w) : r.size = 3 ∧ r.all (·.oneCell') = true := by
  obtain ⟨⟨ca, cc, ba, bc, rfl, -⟩, -⟩ := h
  exact ⟨rfl, by simp [Value.oneCell']⟩
theorem below_doors {F : FuncId} {first caps : Array Value} {d : Int × Int → Bool} {cs : List (List Int)} {ps : List (Int × Int)} {m : Nat} {base : Nat} {r : Array Value} {w : World} (G : Fgr F d cs ps m) (h : RmW F first caps d cs ps base r w) :
    Calls Try.prog 129 #[.agg r] w fun e w' => ∃ v, e = .returned v ∧ PairV w' w.heap.size v (ps.filter d) ∧ Below w.heap.size w w' :=
  borderDoors_any F first caps d base cs ps r w G.cf h.border h.v (Nat.le_trans G.plen (by omega))
set_option maxHeartbeats 1600000 in
theorem doorsOf_any (F : FuncId) (first caps : Array Value) (d : Int × Int → Bool) (cs : List (List Int)) (ps : List (Int × Int)) (m base : Nat) (r : Array Value) (k : Nat) (w : World) (G : Fgr F d cs ps m) (hrw : RmW F first caps d cs ps base r w) (hk : k < cs.length) :
    Calls Try.prog 147 #[.agg r, .int .i64 k] w fun e w' => ∃ v, e = .returned v ∧ PairV w' w.heap.size v (gd (cpr cs) d k) ∧ Below w.heap.size w w' := by
  have HAS := Lib.hid (fun W (hB : Below w.heap.size w W) => asks_later (hrw.cells k hk) hB)
  have HCF := Lib.hid G.cf
  obtain ⟨⟨ca, cc, ba, bc, rfl, htr, -⟩, -, -⟩ := hrw
  obtain ⟨hfl, a', cap', b, hv, hrd⟩ := trio_shape htr
  simp only [Value.slice.injEq] at hv
  obtain ⟨rfl, -, rfl⟩ := hv
  obtain ⟨x, y, z, hrow, -, -, -, hx, hy, hz⟩ := tri_flat G.tri hk
  obtain ⟨rfl, c0⟩ := hrd (k * 3) (by omega)
  have c1 := (hrd (k * 3 + 1) (by omega)).2
  have c2 := (hrd (k * 3 + 2) (by omega)).2
  rw [hx] at c0
  rw [hy] at c1
  rw [hz] at c2
  have hbl : b < w.heap.size := own_lt htr b rfl
  have hclen := G.clen
  have HCP : Hid (cpr cs k = [((x : Int), (y : Int)), ((x : Int), (z : Int)), ((y : Int), (z : Int))]) := Lib.hid (cpr_of hrow)
  have hki : (k : Int) < (cs.length : Int) := by omega
  have hb0 := balloc (Below.refl w.heap.size w) (.cells #[.slice (some ⟨b, 0, none⟩) cs.length cc, .slice ba ps.length bc, .func (.func F) first caps] 115)
  have hg1 := heap_alloc_new w (.cells #[.slice (some ⟨b, 0, none⟩) cs.length cc, .slice ba ps.length bc, .func (.func F) first caps] 115)
  have hz1 : (w.alloc (.cells #[.slice (some ⟨b, 0, none⟩) cs.length cc, .slice ba ps.length bc, .func (.func F) first caps] 115)).heap.size = w.heap.size + 1 := by simp
  have d0 := (hb0.cell (p := ⟨b, k * 3, none⟩) hbl).trans c0
  have d1 := (hb0.cell (p := ⟨b, k * 3 + 1, none⟩) hbl).trans c1
  have d2 := (hb0.cell (p := ⟨b, k * 3 + 2, none⟩) hbl).trans c2
  have HGD : Hid ((cpr cs k).filter d = gd (cpr cs) d k) := Lib.hid rfl
  clear htr hfl hrd hx hy hz c0 c1 c2 hrow G
  go_enter Try.func147, Try.ntmps147
  go_wp2_with fail
  generalize w.alloc (.cells #[.slice (some ⟨b, 0, none⟩) cs.length cc, .slice ba ps.length bc, .func (.func F) first caps] 115) = w1 at hb0 hg1 hz1 d0 d1 d2 ⊢
  refine wp_region_mix (fun w' => Below w1.heap.size w1 w') [5, 8] [0, 1, 2, 3, 4, 6, 7, 5, 8, 9] (by kernel_rfl) (by kernel_rfl) (fun _ _ d _ _ h => by cases d <;> exact h) (by kernel_rfl) rfl (Below.refl _ _).drew ?_
  refine mix_take 0 _ ?_ rfl rfl rfl (some 5) rfl (fun w' hw' => ?hv0) ?_
  case hv0 => (go_simp; with_reducible rfl)
  simp only [Act.put, List.setIfInBounds_toArray, List.set_cons_zero, List.set_cons_succ]
  refine mix_take 1 _ ?_ rfl rfl rfl (some 6) rfl (fun w' hw' => ?hv1) ?_
  case hv1 =>
    have q : w'.cell? ⟨w.heap.size, 0, none⟩ = some (.slice (some ⟨b, 0, none⟩) cs.length cc) := cell_of_row _ _ _ _ _ (0, 0) ((Below.block hw' _ (by omega)).trans hg1)
    go_simp
    with_reducible rfl
  simp only [Act.put, List.setIfInBounds_toArray, List.set_cons_zero, List.set_cons_succ]
  refine mix_take 2 _ ?_ rfl rfl rfl (some 7) rfl (fun w' hw' => ?hv2) ?_
  case hv2 => (go_simp; with_reducible rfl)
  simp only [Act.put, List.setIfInBounds_toArray, List.set_cons_zero, List.set_cons_succ]
  refine mix_take 3 _ ?_ rfl rfl rfl (some 8) rfl (fun w' hw' => ?hv3) ?_
  case hv3 => (go_simp; with_reducible rfl)
  simp only [Act.put, List.setIfInBounds_toArray, List.set_cons_zero, List.set_cons_succ]
  refine mix_take 4 _ ?_ rfl rfl rfl (some 9) rfl (fun w' hw' => ?hv4) ?_
  case hv4 =>
    have e0 := (Below.cell (p := ⟨b, k * 3, none⟩) hw' (by show b < w1.heap.size; omega)).trans d0
    have e1 := (Below.cell (p := ⟨b, k * 3 + 1, none⟩) hw' (by show b < w1.heap.size; omega)).trans d1
    have e2 := (Below.cell (p := ⟨b, k * 3 + 2, none⟩) hw' (by show b < w1.heap.size; omega)).trans d2
    go_simp
    with_reducible rfl
  simp only [Act.put, List.setIfInBounds_toArray, List.set_cons_zero, List.set_cons_succ]
  refine mix_take 6 _ ?_ rfl rfl rfl (some 11) rfl (fun w' hw' => ?hv6) ?_
  case hv6 => (go_simp; with_reducible rfl)
  simp only [Act.put, List.setIfInBounds_toArray, List.set_cons_zero, List.set_cons_succ]
  refine mix_take 7 _ ?_ rfl rfl rfl (some 12) rfl (fun w' hw' => ?hv7) ?_
  case hv7 =>
    have q : w'.cell? ⟨w.heap.size, 2, none⟩ = some (.func (.func F) first caps) := cell_of_row _ _ _ _ _ (0, 0) ((Below.block hw' _ (by omega)).trans hg1)
    go_simp
    with_reducible rfl
  simp only [Act.put, List.setIfInBounds_toArray, List.set_cons_zero, List.set_cons_succ]
  refine mix_call 5 _ rfl rfl rfl 150 #[.agg #[.int .i64 x, .int .i64 y, .int .i64 z]] (some 10) rfl ?hr5 ?_
  case hr5 => go_simp
  refine (pairs_any x y z _).mono ?_
  rintro e w2 ⟨v, rfl, hp2, hb2⟩
  rw [← HCP.out] at hp2
  obtain ⟨pa, pc, pb, rfl, hpr⟩ := pair_shape hp2
  have hB2 : Below w1.heap.size w1 w2 := (Below.refl _ _).drew.trans hb2
  refine ⟨_, rfl, hB2, ?_⟩
  simp only [Act.put, List.setIfInBounds_toArray, List.set_cons_zero, List.set_cons_succ]
  refine mix_call 8 _ rfl rfl rfl 141 #[.slice pa (cpr cs k).length pc, .func (.func F) first caps] (some 13) rfl ?hr8 ?_
  case hr8 => go_simp
  have hB02 := bnext hb0 hB2
  refine (among_any F first caps d (cpr cs k) _ _ _ _ HCF.out (HAS.out _ hB02) hpr (by rw [cpr_len]; omega)).mono ?_
  rintro e w3 ⟨v, rfl, hp3, hb3⟩
  rw [HGD.out] at hp3
  obtain ⟨da, dc, db, rfl, -⟩ := pair_shape hp3
  have hB3 := bnext hB2 hb3
  refine ⟨_, rfl, hB3, ?_⟩
  simp only [Act.put, List.setIfInBounds_toArray, List.set_cons_zero, List.set_cons_succ]
  refine mix_take 9 _ ?_ rfl rfl rfl (some 4) rfl (fun w' hw' => ?hv9) ?_
  case hv9 => (go_simp; with_reducible rfl)
  simp only [Act.put, List.setIfInBounds_toArray, List.set_cons_zero, List.set_cons_succ]
  refine mix_done ?_
  have hB03 := bnext hb0 hB3
  have hz03 := hB02.size
  clear hp2 hpr d0 d1 d2 hg1
  go_wp2_with fail
  go_ret
  exact ⟨_, rfl, World.ownsRow.mono hp3 hz03, hB03⟩
end Go.Proofs.Ytelchpdlfedleaa
