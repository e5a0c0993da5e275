import Derived.Test.YtgloelhpnhofgaaZf
import Derived.Test.YtgloelhpnhofgaaVa
namespace Go.Proofs.Ytgloelhpnhofgaa
open Go.RowKit
set_option maxRecDepth 4000
theorem okW_yes {n i j : Int} {xs : List Int} (h : okW n xs i j = true) : ∃ n' : Nat, n = n' ∧ labB n' xs = true ∧ i ≠ j ∧ Goes xs n' (-1) (inner (i, j)) ∧ (∃ k, acrossI n' (-1) (inner (i, j)) = some k) ∧ ∃ d, d ∈ bds n' xs ∧ (bds n' xs).find? (fun d => sameB d (i, j)) = some d ∧ inner d = inner (i, j) ∧ Goes xs n' (-1) d := by
  simp only [okW, Bool.and_eq_true] at h
  obtain ⟨hL, hf⟩ := h
  obtain ⟨n, rfl⟩ := labB_nat hL
  obtain ⟨d, hd⟩ := Option.isSome_iff_exists.1 hf
  simp only [Int.toNat_natCast] at hd
  have hm := List.mem_of_find?_eq_some hd
  have hs := List.find?_some hd
  rw [same_inner, decide_eq_true_eq] at hs
  obtain ⟨hg, k, hk⟩ := goes_border hL hm
  have hlt := inner_lt hg.1
  have hij : i ≠ j := fun e => by
    rw [hs, e] at hlt
    simp only [inner] at hlt
    split at hlt <;> omega
  refine ⟨n, rfl, hL, hij, ⟨?_, fun k' hk' => ?_⟩, ⟨k, by rw [← hs]; exact hk⟩, d, hm, hd, hs, hg⟩
  · have := inner_lt (p := (i, j)) hij
    omega
  · rw [inner_inner (i, j) hij] at hk' ⊢
    rw [← hs] at hk' ⊢
    exact hg.2 k' hk'
/-- A walk that has a room has a last one, which is full exactly if the walk says so. -/
theorem wfrom_last {xs : List Int} {n : Nat} {fr : Int} {p : Int × Int} (hL : labB n xs = true) (hgo : Goes xs n fr p) {k : Nat} (ha : acrossI n fr (inner p) = some k) :
    ∃ pre l, (wfrom xs n fr p).1 = pre ++ [l] ∧ l < (ci n).length ∧ fullB xs n l = (wfrom xs n fr p).2.2 := by
  obtain ⟨h1, h2, h3⟩ := hgo.2 k ha
  obtain ⟨f, hf⟩ : ∃ f, (ci n).length = f + 1 := ⟨(ci n).length - 1, by omega⟩
  obtain ⟨pre, l, e1, e2, e3⟩ := wlk_last hL f (k, inner p) h1 h2
  simp only [wfrom, ha]
  rw [hf] at h3 ⊢
  refine ⟨pre, l, e1, by omega, e3 h3⟩
theorem wlk_len (xs : List Int) (n : Nat) : ∀ f s, (wlk xs n f s).1.length ≤ f
  | 0, s => by simp [wlk]
  | f + 1, s => by
    have ih := fun k d => wlk_len xs n f (k, d)
    cases ho : otherD xs n s.1 s.2 with
    | none => simp [wlk, ho]
    | some d =>
      cases ha : acrossD n s.1 d with
      | none => simp [wlk, ho, ha]
      | some k => simpa [wlk, ho, ha] using ih k d
theorem wfrom_len (xs : List Int) (n : Nat) (fr : Int) (p : Int × Int) : (wfrom xs n fr p).1.length ≤ (ci n).length := by
  unfold wfrom
  cases acrossI n fr (inner p) with
  | none => simp
  | some k => exact wlk_len _ _ _ _
theorem wfrom_inner (xs : List Int) (n : Nat) (fr : Int) {p q : Int × Int} (h : inner p = inner q) : wfrom xs n fr p = wfrom xs n fr q := by simp only [wfrom, h]
section
variable {P : Program} {ops : Array Oper} {S : World → Prop} {Q : Exit → Act → World → Prop}
end
def valWalk (n : Int) (xs : List Int) (i j : Int) : List Int := if okW n xs i j then ints (wfrom xs n.toNat (-1) (inner (i, j))).1 else []
def fullWalk (n : Int) (xs : List Int) (i j : Int) : Bool := okW n xs i j && (wfrom xs n.toNat (-1) (inner (i, j))).2.2
/-- What a function does that answers a list of numbers, a mark, and whether it succeeds. -/
def Gives3 (w : World) (xs : List Int) (f ok : Bool) (e : Ending) (w' : World) : Prop :=
  ∃ v, e = .returned (.tuple #[v, .bool f, .bool ok]) ∧ w'.ownsRow w.heap.size 3 1 v xs.length (xs.map (Value.int .i64)) ∧ Below w.heap.size w w'
theorem gives3_none {w w' : World} (hb : Below w.heap.size w w') : Gives3 w [] false false (.returned (.tuple #[.slice none 0 0, .bool false, .bool false])) w' :=
  ⟨_, rfl, World.ownsRow_nil _ _ _ _, hb⟩
theorem gives3_of {w w' : World} {L : List Int} {v : Value} {f g : Bool} (hf : f = g) (ho : w'.ownsRow w.heap.size 3 1 v L.length (L.map (Value.int .i64))) (hb : Below w.heap.size w w') : Gives3 w L f true (.returned (.tuple #[v, .bool g, .bool true])) w' := by
  subst hf
  exact ⟨v, rfl, ho, hb⟩
set_option maxHeartbeats 1600000 in
theorem specWalkFrom (n : Int) (xs : List Int) (i j : Int) (a : Option Addr) (b len cap : Nat) (w : World) (hn : xs.length = len) (h : Rd w a b 0 xs) (hb0 : len = 0 ∨ b < w.heap.size) :
    Calls Try.prog 15 #[.int .i64 n, .slice a len cap, .int .i64 i, .int .i64 j] w (Gives3 w (valWalk n xs i j) (fullWalk n xs i j) (okW n xs i j)) := by
  have HO := Lib.hid (doOutside_any n xs i j a b len cap w hn h hb0)
  cases hok : okW n xs i j
  · have H1 : Hid (valWalk n xs i j = [] ∧ fullWalk n xs i j = false) := Lib.hid (by simp [valWalk, fullWalk, hok])
    rw [hok] at HO
    rw [H1.out.1, H1.out.2]
    clear hok h
    go_enter Try.func15, Try.ntmps15
    go_wp2_with fail
    refine HO.out.mono ?_
    rintro e w1 ⟨rfl, hb1⟩
    go_wp2_with fail
    go_returns
    exact gives3_none hb1
  · rw [hok] at HO
    have hok2 := hok
    obtain ⟨n, rfl, hL, hij, hgo, ⟨k, hk⟩, -⟩ := okW_yes hok
    obtain ⟨h1, h2, -⟩ := labB_yes hL
    have hii := inner_inner (i, j) hij
    obtain ⟨pre, l, e1, hl, e2⟩ := wfrom_last hL hgo (by rw [hii]; exact hk)
    have hwl := wfrom_len xs n (-1) (inner (i, j))
    have hbd := ci_bd n h2
    have H1 : Hid (valWalk n xs i j = ints (wfrom xs n (-1) (inner (i, j))).1 ∧ fullWalk n xs i j = (wfrom xs n (-1) (inner (i, j))).2.2) := Lib.hid (by simp [valWalk, fullWalk, hok2])
    have HRD := Lib.hid (fun w' (hb : Below w.heap.size w w') => h.later hn hb0 hb)
    have HRB := Lib.hid (fun w' (hb : Below w.heap.size w w') => lt_later hb0 hb)
    have HF := Lib.hid (fun w' cap (hb : Below w.heap.size w w') => doFrom_any n xs i j a b len cap w' hL hn (h.later hn hb0 hb) (lt_later hb0 hb) hgo hij)
    have HL := Lib.hid hL
    have HN := Lib.hid hn
    have HE := Lib.hid (ci_eq n (by omega) h1)
    rw [H1.out.1, H1.out.2]
    clear hok hok2 h hL hgo hk hn hb0 H1
    generalize (wfrom xs n (-1) (inner (i, j))) = W at e1 e2 hwl HF ⊢
    obtain ⟨L, D, f⟩ := W
    simp only at e1 e2 hwl HF ⊢
    subst e1
    have HIL : Hid ((ints (pre ++ [l])).length = pre.length + 1) := Lib.hid (by rw [ints_len, List.length_append]; rfl)
    have HLA : Hid ((ints (pre ++ [l])).getD pre.length 0 = (l : Int)) := Lib.hid (by simp [ints, List.getD])
    have hpl : pre.length + 1 ≤ 1000 := by rw [List.length_append] at hwl; simp only [List.length_cons, List.length_nil] at hwl; omega
    have HFU := Lib.hid e2.symm
    clear e2 hwl
    go_enter Try.func15, Try.ntmps15
    go_wp2_with fail
    refine HO.out.mono ?_
    rintro e w1 ⟨rfl, hb1⟩
    go_wp2_with fail
    refine (HF.out w1 cap hb1).mono ?_
    rintro e w2 ⟨v, pd, bd, cd, rfl, ho2, -, -, hb2⟩
    rw [← ints_len] at ho2
    obtain ⟨-, va, vc, vb, rfl, hvx, hvr⟩ := own_shape ho2
    obtain ⟨rfl, c0⟩ := hvr.2 pre.length (by rw [HIL.out]; omega)
    rw [HLA.out, Nat.zero_add] at c0
    have hvb := own_lt ho2 vb rfl
    have hB2 := bnext hb1 hb2
    have HBS : Hid (w.heap.size ≤ w1.heap.size) := Lib.hid hb1.size
    have hsub : IntKind.i64.wrap (((ints (pre ++ [l])).length : Int) - 1) = (pre.length : Int) := by
      rw [HIL.out, IntWalk.i64_in _ ⟨by omega, by omega⟩]
      omega
    have hpi : (pre.length : Int) < ((ints (pre ++ [l])).length : Int) := by rw [HIL.out]; omega
    have hli : (l : Int) < ((ci n).length : Int) := by omega
    have hil2 : ((ints (pre ++ [l])).length : Int) ≤ 1000 := by rw [HIL.out]; omega
    clear hb1 hb2 hvr hvx
    go_wp2_with fail
    refine wp_region_mix (fun w' => Below w2.heap.size w2 w') [3, 11, 12] [0, 1, 2, 4, 5, 6, 7, 8, 9, 3, 10, 11, 12, 13, 14, 15] (by kernel_rfl) (by kernel_rfl) (fun _ _ d _ _ h => by cases d <;> exact h) (by kernel_rfl) rfl (Below.refl _ _).drew ?_
    refine mix_take 0 _ ?_ rfl rfl rfl (some 27) rfl (fun w' hw' => ?hv0) ?_
    case hv0 =>
      go_simp
      with_reducible rfl
    simp only [Act.put, List.setIfInBounds_toArray, List.set_cons_zero, List.set_cons_succ]
    refine mix_take 1 _ ?_ rfl rfl rfl (some 28) rfl (fun w' hw' => ?hv1) ?_
    case hv1 =>
      go_simp
      with_reducible rfl
    simp only [Act.put, List.setIfInBounds_toArray, List.set_cons_zero, List.set_cons_succ]
    refine mix_take 2 _ ?_ rfl rfl rfl (some 29) rfl (fun w' hw' => ?hv2) ?_
    case hv2 =>
      go_simp
      with_reducible rfl
    simp only [Act.put, List.setIfInBounds_toArray, List.set_cons_zero, List.set_cons_succ]
    refine mix_take 4 _ ?_ rfl rfl rfl (some 31) rfl (fun w' hw' => ?hv4) ?_
    case hv4 =>
      go_simp
      with_reducible rfl
    simp only [Act.put, List.setIfInBounds_toArray, List.set_cons_zero, List.set_cons_succ]
    refine mix_take 5 _ ?_ rfl rfl rfl (some 32) rfl (fun w' hw' => ?hv5) ?_
    case hv5 =>
      go_simp
      with_reducible rfl
    simp only [Act.put, List.setIfInBounds_toArray, List.set_cons_zero, List.set_cons_succ]
    refine mix_take 6 _ ?_ rfl rfl rfl (some 33) rfl (fun w' hw' => ?hv6) ?_
    case hv6 =>
      go_simp
      with_reducible rfl
    simp only [Act.put, List.setIfInBounds_toArray, List.set_cons_zero, List.set_cons_succ]
    refine mix_take 7 _ ?_ rfl rfl rfl (some 34) rfl (fun w' hw' => ?hv7) ?_
    case hv7 =>
      go_simp
      with_reducible rfl
    simp only [Act.put, List.setIfInBounds_toArray, List.set_cons_zero, List.set_cons_succ]
    refine mix_take 8 _ ?_ rfl rfl rfl (some 35) rfl (fun w' hw' => ?hv8) ?_
    case hv8 =>
      go_simp
      with_reducible rfl
    simp only [Act.put, List.setIfInBounds_toArray, List.set_cons_zero, List.set_cons_succ]
    refine mix_take 9 _ ?_ rfl rfl rfl (some 36) rfl (fun w' hw' => ?hv9) ?_
    case hv9 =>
      have c0 := (Below.cell (p := ⟨vb, pre.length, none⟩) hw' hvb).trans c0
      go_simp
      with_reducible rfl
    simp only [Act.put, List.setIfInBounds_toArray, List.set_cons_zero, List.set_cons_succ]
    refine mix_call 3 _ rfl rfl rfl 51 #[.int .i64 n] (some 30) rfl ?hr3 ?_
    case hr3 => go_simp
    refine (meCells_any n h1 h2 _).mono ?_
    rintro e w3 ⟨v, rfl, hc, hb3⟩
    rw [← HE.out] at hc
    obtain ⟨sa, sm, sc, rfl⟩ := cells_shape hc
    obtain ⟨rfl, g, ra, rc, rb, rfl, c1, hr1, hrb1, -, -⟩ := spec_cell3 h2 hc hl
    have hB3 : Below w2.heap.size w2 w3 := (Below.refl _ _).drew.trans hb3
    refine ⟨_, rfl, hB3, ?_⟩
    simp only [Act.put, List.setIfInBounds_toArray, List.set_cons_zero, List.set_cons_succ]
    refine mix_take 10 _ ?_ rfl rfl rfl (some 37) rfl (fun w' hw' => ?hv10) ?_
    case hv10 =>
      go_simp
      with_reducible rfl
    simp only [Act.put, List.setIfInBounds_toArray, List.set_cons_zero, List.set_cons_succ]
    refine mix_val 11 _ ?_ rfl rfl rfl (some 38) rfl ?hv11 ⟨hB3, ?_⟩
    case hv11 =>
      go_simp
      with_reducible rfl
    simp only [Act.put, List.setIfInBounds_toArray, List.set_cons_zero, List.set_cons_succ]
    refine mix_call 12 _ rfl rfl rfl 50 #[.slice a len cap, .slice ra 3 rc] (some 39) rfl ?hr12 ?_
    case hr12 => go_simp
    refine (doFull_go n l xs a ra b rb len cap rc w3 HL.out hl HN.out (HRD.out w3 (bnext hB2 hB3)) hr1).mono ?_
    rintro e w4 ⟨rfl, rfl⟩
    refine ⟨_, rfl, hB3, ?_⟩
    simp only [Act.put, List.setIfInBounds_toArray, List.set_cons_zero, List.set_cons_succ]
    refine mix_take 13 _ ?_ rfl rfl rfl (some 8) rfl (fun w' hw' => ?hv13) ?_
    case hv13 =>
      go_simp
      with_reducible rfl
    simp only [Act.put, List.setIfInBounds_toArray, List.set_cons_zero, List.set_cons_succ]
    refine mix_take 14 _ ?_ rfl rfl rfl (some 9) rfl (fun w' hw' => ?hv14) ?_
    case hv14 =>
      go_simp
      with_reducible rfl
    simp only [Act.put, List.setIfInBounds_toArray, List.set_cons_zero, List.set_cons_succ]
    refine mix_take 15 _ ?_ rfl rfl rfl (some 10) rfl (fun w' hw' => ?hv15) ?_
    case hv15 =>
      go_simp
      with_reducible rfl
    simp only [Act.put, List.setIfInBounds_toArray, List.set_cons_zero, List.set_cons_succ]
    refine mix_done ?_
    have ho3 := own_now ho2 hB3
    have hB03 := bnext hB2 hB3
    have hs1 := hB2.size
    clear c0 c1 hr1 hrb1 hc hb3 ho2
    go_wp2_with fail
    go_returns
    exact gives3_of HFU.out (own_base ho3 HBS.out) hB03
end Go.Proofs.Ytgloelhpnhofgaa
