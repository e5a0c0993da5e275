import Derived.Test.YthkohenobbhhmaaZe
import Derived.Test.YthkohenobbhhmaaZg
namespace Go.Proofs.Ythkohenobbhhmaa
open Go.RowKit
set_option maxRecDepth 4000
theorem rd2 {w : World} {g : Nat} {x y : Int} {ty : TypeId} (h : w.heap[g]? = some (.cells #[.int .i64 x, .int .i64 y] ty (0, 0))) : Rd w (some ⟨g, 0, none⟩) g 0 [x, y] :=
  ⟨by simp [maxLen], fun j hj => by
    match j, hj with
    | 0, _ => exact ⟨rfl, blk_cell h 0 _ rfl⟩
    | 1, _ => exact ⟨rfl, blk_cell h 1 _ rfl⟩
    | j + 2, hj => exact absurd hj (by simp)⟩
theorem lg_same (a b c d : Int) : (lsI a b == lsI c d && gtI a b == gtI c d) = sameB (a, b) (c, d) := by
  rw [same_inner, inner_eq, inner_eq, Bool.eq_iff_iff]
  simp only [Bool.and_eq_true, beq_iff_eq, decide_eq_true_eq, Prod.mk.injEq]
theorem inner_inner (p : Int × Int) (h : p.1 ≠ p.2) : inner (inner p) = inner p := inner_sorted (inner_lt h)
/-- Whether two points are a door of the border. -/
def okW (n : Int) (xs : List Int) (i j : Int) : Bool := labB n xs && ((bds n.toNat xs).find? (fun d => sameB d (i, j))).isSome
theorem bds_lst (n : Nat) (xs : List Int) : outp xs (bps n (3 * n)) = (bds n xs).map lst := rfl
set_option maxHeartbeats 1600000 in
theorem doOutside_any (n : Int) (xs : List Int) (i j : Int) (a : Option Addr) (b len cap : Nat) (w : World) (hn : xs.length = len) (h : Rd w a b 0 xs) (hb0 : len = 0 ∨ b < w.heap.size) :
    Calls Try.prog 31 #[.int .i64 n, .slice a len cap, .int .i64 i, .int .i64 j] w fun e w' => e = .returned (.bool (okW n xs i j)) ∧ Below w.heap.size w w' := by
  have HM := Lib.hid (meLabels_any n xs a b 0 len cap w hn h)
  cases hL : labB n xs
  · have HP : Hid (okW n xs i j = false) := Lib.hid (by simp [okW, hL])
    rw [hL] at HM
    clear hL h
    go_enter Try.func31, Try.ntmps31
    go_wp2_with fail
    refine HM.out.mono ?_
    rintro e w1 ⟨rfl, rfl⟩
    go_wp2_with fail
    go_ret
    exact ⟨ret_f HP.out rfl, Below.refl _ _⟩
  · obtain ⟨n, rfl⟩ := labB_nat hL
    rw [hL] at HM
    have HP : Hid (okW n xs i j = ((bds n xs).find? (fun d => sameB d (i, j))).isSome) := Lib.hid (by simp [okW, hL])
    have HD := Lib.hid (doBorder_any n xs a b len cap w hn h hb0 hL)
    have HFS := Lib.hid (fun k hk h => find_step (0, 0) (bds n xs) (fun d => sameB d (i, j)) k hk h)
    have hbl := bds_len n xs
    obtain ⟨h1, h2, -⟩ := labB_yes hL
    have HBL := Lib.hid (bds_lst n xs)
    have HLA := Lib.hid (lst_at (bds n xs))
    have HML : Hid (((bds n xs).map lst).length = (bds n xs).length) := Lib.hid (by simp)
    clear hL h
    generalize bds n xs = ps at HP HFS hbl HBL HLA HML
    go_enter Try.func31, Try.ntmps31
    go_wp2_with fail
    refine HM.out.mono ?_
    rintro e w1 ⟨rfl, rfl⟩
    go_wp2_with fail
    refine HD.out.mono ?_
    rintro e w2 ⟨v, rfl, hc2, hb2⟩
    rw [HBL.out] at hc2
    obtain ⟨sa, sm, sc, rfl⟩ := cells_shape hc2
    obtain ⟨rfl, -, hrows⟩ := cells_row hc2
    have HRW := Lib.hid hrows
    clear hrows hc2 HM HD
    rw [HML.out]
    go_wp2_with fail
    go_loopw [19] (fun v19 wr => ∃ k : Nat, k ≤ ps.length ∧ v19 = .int .i64 k ∧ Hid ((ps.take k).find? (fun d => sameB d (i, j)) = none) ∧ Below w2.heap.size w2 wr) (fun v19 _ => ps.length - (intOf v19).toNat)
    case atStart => exact ⟨0, Nat.zero_le _, rfl, Lib.hid (by simp), Below.refl _ _⟩
    case round =>
      obtain ⟨k, hk, rfl, hf, hb⟩ := hrel
      by_cases hlt : k < ps.length
      · obtain ⟨g, qa, qc, qb, rfl, -, hgl, c, hqx, hqr, -, -⟩ := HRW.out k (by rw [HML.out]; exact hlt)
        rw [HLA.out k hlt] at c hqr
        have c := (hb.cell (p := ⟨g, k, none⟩) hgl).trans c
        have hqr := hqr.below hb (hqx.imp_right fun h => h.2.1)
        have HS := Lib.hid (HFS.out k hlt hf.out)
        have hki : (k : Int) < (ps.length : Int) := by omega
        have hz := hb.size
        have hqb : qb < wr.heap.size := by
          rcases hqx with h | ⟨-, h3, -⟩
          · have := (hqr.2 0 (by simp)).1
            rw [h] at this
            cases this
          · omega
        clear hqx hf
        generalize ps.getD k (0, 0) = p at c hqr HS
        obtain ⟨p1, p2⟩ := p
        simp only at c hqr
        obtain ⟨rfl, c0⟩ := hqr.2 0 (by simp)
        have c1 := (hqr.2 1 (by simp)).2
        rw [Nat.zero_add] at c0 c1
        simp only [List.getD_cons_zero, List.getD_cons_succ] at c0 c1
        have HLG := Lib.hid (lg_same p1 p2 i j)
        obtain ⟨wi, hwi⟩ : ∃ wi : World, wi = wr := ⟨_, rfl⟩
        subst hwi
        clear hqr
        go_wp2_with fail
        refine wp_region_mix (fun w' => Below wi.heap.size wi w') [6, 9, 10] [0, 1, 2, 3, 4, 5, 7, 8, 6, 9, 10] (by kernel_rfl) (by kernel_rfl) (fun _ _ d _ _ h => by cases d <;> exact h) (by kernel_rfl) rfl (Below.refl _ _).drew ?_
        refine mix_take 0 _ ?_ rfl rfl rfl (some 23) rfl (fun w' hw' => ?hv0) ?_
        case hv0 =>
          go_simp
          with_reducible rfl
        simp only [Act.put, List.setIfInBounds_toArray, List.set_cons_zero, List.set_cons_succ]
        refine mix_take 1 _ ?_ rfl rfl rfl (some 24) rfl (fun w' hw' => ?hv1) ?_
        case hv1 =>
          go_simp
          with_reducible rfl
        simp only [Act.put, List.setIfInBounds_toArray, List.set_cons_zero, List.set_cons_succ]
        refine mix_take 2 _ ?_ rfl rfl rfl (some 25) rfl (fun w' hw' => ?hv2) ?_
        case hv2 =>
          have c0 := (Below.cell (p := ⟨qb, 0, none⟩) hw' hqb).trans c0
          have c1 := (Below.cell (p := ⟨qb, 1, none⟩) hw' hqb).trans c1
          go_simp
          with_reducible rfl
        simp only [Act.put, List.setIfInBounds_toArray, List.set_cons_zero, List.set_cons_succ]
        refine mix_take 3 _ ?_ rfl rfl rfl (some 26) rfl (fun w' hw' => ?hv3) ?_
        case hv3 =>
          go_simp
          with_reducible rfl
        simp only [Act.put, List.setIfInBounds_toArray, List.set_cons_zero, List.set_cons_succ]
        refine mix_take 4 _ ?_ rfl rfl rfl (some 27) rfl (fun w' hw' => ?hv4) ?_
        case hv4 =>
          go_simp
          with_reducible rfl
        simp only [Act.put, List.setIfInBounds_toArray, List.set_cons_zero, List.set_cons_succ]
        refine mix_take 5 _ ?_ rfl rfl rfl (some 28) rfl (fun w' hw' => ?hv5) ?_
        case hv5 =>
          have c0 := (Below.cell (p := ⟨qb, 0, none⟩) hw' hqb).trans c0
          have c1 := (Below.cell (p := ⟨qb, 1, none⟩) hw' hqb).trans c1
          go_simp
          with_reducible rfl
        simp only [Act.put, List.setIfInBounds_toArray, List.set_cons_zero, List.set_cons_succ]
        refine mix_take 7 _ ?_ rfl rfl rfl (some 30) rfl (fun w' hw' => ?hv7) ?_
        case hv7 =>
          go_simp
          with_reducible rfl
        simp only [Act.put, List.setIfInBounds_toArray, List.set_cons_zero, List.set_cons_succ]
        refine mix_take 8 _ ?_ rfl rfl rfl (some 31) rfl (fun w' hw' => ?hv8) ?_
        case hv8 =>
          go_simp
          with_reducible rfl
        simp only [Act.put, List.setIfInBounds_toArray, List.set_cons_zero, List.set_cons_succ]
        refine mix_call 6 _ rfl rfl rfl 38 #[.int .i64 p1, .int .i64 p2] (some 29) rfl ?hr6 ?_
        case hr6 => go_simp
        refine (doInner_any p1 p2 _).mono ?_
        rintro e w3 ⟨rfl, rfl⟩
        have hB3 : Below wi.heap.size wi (wi.drew.alloc (.cells #[.int .i64 (lsI p1 p2), .int .i64 (gtI p1 p2)] 3)) := (Below.refl _ _).drew.alloc (Nat.le_refl _) _
        have hg3 := heap_alloc_new wi.drew (.cells #[.int .i64 (lsI p1 p2), .int .i64 (gtI p1 p2)] 3)
        have hs3 : wi.drew.heap.size < (wi.drew.alloc (.cells #[.int .i64 (lsI p1 p2), .int .i64 (gtI p1 p2)] 3)).heap.size := by simp
        generalize wi.drew.alloc (.cells #[.int .i64 (lsI p1 p2), .int .i64 (gtI p1 p2)] 3) = w4 at hB3 hg3 hs3 ⊢
        refine ⟨_, rfl, hB3, ?_⟩
        simp only [Act.put, List.setIfInBounds_toArray, List.set_cons_zero, List.set_cons_succ]
        refine mix_call 9 _ rfl rfl rfl 38 #[.int .i64 i, .int .i64 j] (some 32) rfl ?hr9 ?_
        case hr9 => go_simp
        refine (doInner_any i j _).mono ?_
        rintro e w5 ⟨rfl, rfl⟩
        have hB5 := hB3.alloc (hB3.size) (.cells #[.int .i64 (lsI i j), .int .i64 (gtI i j)] 3)
        have hg5 := heap_alloc_new w4 (.cells #[.int .i64 (lsI i j), .int .i64 (gtI i j)] 3)
        have hg4 := (Below.heap_alloc w4 (.cells #[.int .i64 (lsI i j), .int .i64 (gtI i j)] 3) _ hs3).trans hg3
        generalize w4.alloc (.cells #[.int .i64 (lsI i j), .int .i64 (gtI i j)] 3) = w6 at hB5 hg5 hg4 ⊢
        refine ⟨_, rfl, hB5, ?_⟩
        simp only [Act.put, List.setIfInBounds_toArray, List.set_cons_zero, List.set_cons_succ]
        refine mix_call 10 _ rfl rfl rfl 37 #[.slice (some ⟨wi.drew.heap.size, 0, none⟩) 2 2, .slice (some ⟨w4.heap.size, 0, none⟩) 2 2] (some 33) rfl ?hr10 ?_
        case hr10 => go_simp
        refine (l1Same2_any _ _ _ _ _ _ _ _ 2 2 w6 (rd2 hg4) (rd2 hg5)).mono ?_
        rintro e w7 ⟨rfl, m, rfl⟩
        rw [HLG.out]
        have hB7 := below_drewN hB5 m
        refine ⟨_, rfl, hB7, ?_⟩
        simp only [Act.put, List.setIfInBounds_toArray, List.set_cons_zero, List.set_cons_succ]
        refine mix_done ?_
        have hB8 := hb.trans (hB7.mono hz)
        clear hB3 hg3 hs3 hB5 hg5 hg4 hB7 hb c c0 c1
        generalize w6.drewN m = w8 at hB8 ⊢
        cases hsm : sameB (p1, p2) (i, j)
        · have e := Lib.hid (HS.out.2 (by simp only [hsm]))
          clear hsm
          go_wp2_with fail
          go_roundw
          case rel => exact ⟨k + 1, by omega, by go_num, e, hB8⟩
          case measure => simp [intOf]; omega
        · have e := Lib.hid (HS.out.1 (by simp only [hsm]))
          clear hsm
          go_wp2_with fail
          go_ret
          exact ⟨ret_b (by rw [HP.out, e.out]; rfl) rfl, bnext hb2 hB8⟩
      · have e : Hid (ps.find? (fun d => sameB d (i, j)) = none) := by
          have := hf.out
          rwa [show k = ps.length by omega, List.take_length] at this
        go_wp2_with fail
        go_ret
        exact ⟨ret_f (by rw [HP.out, e.out]; rfl) rfl, bnext hb2 hb⟩
set_option maxHeartbeats 800000 in
theorem doFrom_any (n : Nat) (xs : List Int) (i j : Int) (a : Option Addr) (b len cap : Nat) (w : World) (hL : labB n xs = true) (hn : xs.length = len) (h : Rd w a b 0 xs) (hb0 : len = 0 ∨ b < w.heap.size) (hgo : Goes xs n (-1) (inner (i, j))) (hij : i ≠ j) :
    Calls Try.prog 32 #[.int .i64 n, .slice a len cap, .int .i64 i, .int .i64 j] w (DWalked w (wfrom xs n (-1) (inner (i, j))).1 (wfrom xs n (-1) (inner (i, j))).2.1) := by
  obtain ⟨h1, h2, -⟩ := labB_yes hL
  obtain ⟨s0, L, R, hLR, hat⟩ := goes_at hgo
  have hii := inner_inner (i, j) hij
  have hlt : lsI i j < gtI i j := inner_lt (p := (i, j)) hij
  rw [hLR]
  rw [hii] at hat
  have hcell : inner (lsI i j, gtI i j) = inner (i, j) := hii
  have HL := Lib.hid hL
  have HRD := Lib.hid (fun w' (hb : Below w.heap.size w w') => h.later hn hb0 hb)
  have HRB := Lib.hid (fun w' (hb : Below w.heap.size w w') => lt_later hb0 hb)
  have HN := Lib.hid hn
  have HAT : Hid (At xs n s0 L R [] (beyI (acrossI n (-1) (inner (i, j)))) (lsI i j, gtI i j)) := Lib.hid hat
  have HE := Lib.hid (ci_eq n (by omega) h1)
  have HCI := Lib.hid hcell
  clear hL h hat hLR hgo hcell hii hn hb0
  go_enter Try.func32, Try.ntmps32
  go_wp2_with fail
  refine (meCells_any n h1 h2 _).mono ?_
  rintro e w2 ⟨v, rfl, hc, hb2⟩
  rw [← HE.out] at hc
  obtain ⟨sa, sm, sc, rfl⟩ := cells_shape hc
  go_wp2_with fail
  refine (doInner_any i j _).mono ?_
  rintro e w3 ⟨rfl, rfl⟩
  go_wp2_with fail
  refine (doInner_any i j _).mono ?_
  rintro e w5 ⟨rfl, rfl⟩
  have hB5 : Below w2.heap.size w2 ((w2.alloc (.cells #[.int .i64 (lsI i j), .int .i64 (gtI i j)] 3)).alloc (.cells #[.int .i64 (lsI i j), .int .i64 (gtI i j)] 3)) := balloc (balloc (Below.refl _ _) _) _
  have hg5 := heap_alloc_new (w2.alloc (.cells #[.int .i64 (lsI i j), .int .i64 (gtI i j)] 3)) (.cells #[.int .i64 (lsI i j), .int .i64 (gtI i j)] 3)
  have hg4 := (Below.heap_alloc (w2.alloc (.cells #[.int .i64 (lsI i j), .int .i64 (gtI i j)] 3)) (.cells #[.int .i64 (lsI i j), .int .i64 (gtI i j)] 3) w2.heap.size (by simp)).trans (heap_alloc_new w2 _)
  have hs5 : ((w2.alloc (.cells #[.int .i64 (lsI i j), .int .i64 (gtI i j)] 3)).alloc (.cells #[.int .i64 (lsI i j), .int .i64 (gtI i j)] 3)).heap.size = w2.heap.size + 2 := by simp
  have hs4 : (w2.alloc (.cells #[.int .i64 (lsI i j), .int .i64 (gtI i j)] 3)).heap.size = w2.heap.size + 1 := by simp
  rw [hs4] at hg5
  go_wp2_with fail
  (try rw [hs4])
  generalize (w2.alloc (.cells #[.int .i64 (lsI i j), .int .i64 (gtI i j)] 3)).alloc (.cells #[.int .i64 (lsI i j), .int .i64 (gtI i j)] 3) = w6 at hB5 hg5 hg4 hs5 ⊢
  refine (doNext_any n (lsI i j) (gtI i j) (-1) sa _ w.heap.size _ _ sc 2 w6 h2 (cells_now hc hB5) (rd2 hg5) (by omega) (by omega)).mono ?_
  rintro e w7 ⟨rfl, hb7⟩
  rw [HCI.out]
  have hB7 := bnext hB5 hb7
  have hB27 := bnext hb2 hB7
  have hg7 := (hb7.block w2.heap.size (by omega)).trans hg4
  have hs7 := hb7.size
  have hs2 := hb2.size
  have HC7 := cells_now hc hB7
  clear hg5 hg4 hs4 hB5 hb7 hc hb2
  go_wp2_with fail
  refine (doWalk_any n xs w.heap.size sa _ sc a b len cap _ w2.heap.size 2 _ _ _ s0 L R w7 HL.out HC7 HN.out (HRD.out w7 hB27) (HRB.out w7 hB27) (rd2 hg7) (by omega) hlt HAT.out).mono ?_
  rintro e w8 ⟨v, pd, bd, cd, rfl, ho8, hr8, hbd8, hb8⟩
  go_wp2_with fail
  go_ret2
  exact ⟨v, pd, bd, cd, rfl, own_base ho8 (by have := hB27.size; omega), hr8, hbd8, bnext hB27 hb8⟩
end Go.Proofs.Ythkohenobbhhmaa

namespace Go.Proofs.Ythkohenobbhhmaa
open Go.RowKit
set_option maxRecDepth 4000
theorem okW_yes {n i j : Int} {xs : List Int} (h : okW n xs i j = true) : ∃ n' : Nat, n = n' ∧ labB n' xs = true ∧ i ≠ j ∧ Goes xs n' (-1) (inner (i, j)) ∧ (∃ k, acrossI n' (-1) (inner (i, j)) = some k) ∧ ∃ d, d ∈ bds n' xs ∧ (bds n' xs).find? (fun d => sameB d (i, j)) = some d ∧ inner d = inner (i, j) ∧ Goes xs n' (-1) d := by
  simp only [okW, Bool.and_eq_true] at h
  obtain ⟨hL, hf⟩ := h
  obtain ⟨n, rfl⟩ := labB_nat hL
  obtain ⟨d, hd⟩ := Option.isSome_iff_exists.1 hf
  simp only [Int.toNat_natCast] at hd
  have hm := List.mem_of_find?_eq_some hd
  have hs := List.find?_some hd
  rw [same_inner, decide_eq_true_eq] at hs
  obtain ⟨hg, k, hk⟩ := goes_border hL hm
  have hlt := inner_lt hg.1
  have hij : i ≠ j := fun e => by
    rw [hs, e] at hlt
    simp only [inner] at hlt
    split at hlt <;> omega
  refine ⟨n, rfl, hL, hij, ⟨?_, fun k' hk' => ?_⟩, ⟨k, by rw [← hs]; exact hk⟩, d, hm, hd, hs, hg⟩
  · have := inner_lt (p := (i, j)) hij
    omega
  · rw [inner_inner (i, j) hij] at hk' ⊢
    rw [← hs] at hk' ⊢
    exact hg.2 k' hk'
/-- A walk that has a room has a last one, which is full exactly if the walk says so. -/
theorem wfrom_last {xs : List Int} {n : Nat} {fr : Int} {p : Int × Int} (hL : labB n xs = true) (hgo : Goes xs n fr p) {k : Nat} (ha : acrossI n fr (inner p) = some k) :
    ∃ pre l, (wfrom xs n fr p).1 = pre ++ [l] ∧ l < (ci n).length ∧ fullB xs n l = (wfrom xs n fr p).2.2 := by
  obtain ⟨h1, h2, h3⟩ := hgo.2 k ha
  obtain ⟨f, hf⟩ : ∃ f, (ci n).length = f + 1 := ⟨(ci n).length - 1, by omega⟩
  obtain ⟨pre, l, e1, e2, e3⟩ := wlk_last hL f (k, inner p) h1 h2
  simp only [wfrom, ha]
  rw [hf] at h3 ⊢
  refine ⟨pre, l, e1, by omega, e3 h3⟩
theorem wlk_len (xs : List Int) (n : Nat) : ∀ f s, (wlk xs n f s).1.length ≤ f
  | 0, s => by simp [wlk]
  | f + 1, s => by
    have ih := fun k d => wlk_len xs n f (k, d)
    cases ho : otherD xs n s.1 s.2 with
    | none => simp [wlk, ho]
    | some d =>
      cases ha : acrossD n s.1 d with
      | none => simp [wlk, ho, ha]
      | some k => simpa [wlk, ho, ha] using ih k d
theorem wfrom_len (xs : List Int) (n : Nat) (fr : Int) (p : Int × Int) : (wfrom xs n fr p).1.length ≤ (ci n).length := by
  unfold wfrom
  cases acrossI n fr (inner p) with
  | none => simp
  | some k => exact wlk_len _ _ _ _
theorem wfrom_inner (xs : List Int) (n : Nat) (fr : Int) {p q : Int × Int} (h : inner p = inner q) : wfrom xs n fr p = wfrom xs n fr q := by simp only [wfrom, h]
section
variable {P : Program} {ops : Array Oper} {S : World → Prop} {Q : Exit → Act → World → Prop}
/-- The one operation that may come up, where it yields a value in the world at hand. -/
theorem mix_val {sole rest : List Nat} {a : Act} {w : World} (i : Nat) (o : Oper) (v : Value) (hi : sole.contains i = true) (ho : ops[i]? = some o) (hw : Region.wanted o (yielded ops a.tmps) = true) (d : Option Tmp) (hd : o.dst = d)
    (hr : (execOp a.eval o).run P w = .ok (.value v) w) (h : S w ∧ wpMix P ops S Q sole rest (a.put d v) w) : wpMix P ops S Q sole (i :: rest) a w := by
  subst hd
  refine mix_sole i o hi ho (fun K' hK => ?_)
  rw [if_pos hw]
  unfold Oper.wp
  rw [hr]
  exact hK _ _ h
end
def valWalk (n : Int) (xs : List Int) (i j : Int) : List Int := if okW n xs i j then ints (wfrom xs n.toNat (-1) (inner (i, j))).1 else []
def fullWalk (n : Int) (xs : List Int) (i j : Int) : Bool := okW n xs i j && (wfrom xs n.toNat (-1) (inner (i, j))).2.2
/-- What a function does that answers a list of numbers, a mark, and whether it succeeds. -/
def Gives3 (w : World) (xs : List Int) (f ok : Bool) (e : Ending) (w' : World) : Prop :=
  ∃ v, e = .returned (.tuple #[v, .bool f, .bool ok]) ∧ w'.ownsRow w.heap.size 3 1 v xs.length (xs.map (Value.int .i64)) ∧ Below w.heap.size w w'
theorem gives3_none {w w' : World} (hb : Below w.heap.size w w') : Gives3 w [] false false (.returned (.tuple #[.slice none 0 0, .bool false, .bool false])) w' :=
  ⟨_, rfl, World.ownsRow_nil _ _ _ _, hb⟩
theorem gives3_of {w w' : World} {L : List Int} {v : Value} {f g : Bool} (hf : f = g) (ho : w'.ownsRow w.heap.size 3 1 v L.length (L.map (Value.int .i64))) (hb : Below w.heap.size w w') : Gives3 w L f true (.returned (.tuple #[v, .bool g, .bool true])) w' := by
  subst hf
  exact ⟨v, rfl, ho, hb⟩
set_option maxHeartbeats 1600000 in
theorem specWalkFrom (n : Int) (xs : List Int) (i j : Int) (a : Option Addr) (b len cap : Nat) (w : World) (hn : xs.length = len) (h : Rd w a b 0 xs) (hb0 : len = 0 ∨ b < w.heap.size) :
    Calls Try.prog 11 #[.int .i64 n, .slice a len cap, .int .i64 i, .int .i64 j] w (Gives3 w (valWalk n xs i j) (fullWalk n xs i j) (okW n xs i j)) := by
  have HO := Lib.hid (doOutside_any n xs i j a b len cap w hn h hb0)
  cases hok : okW n xs i j
  · have H1 : Hid (valWalk n xs i j = [] ∧ fullWalk n xs i j = false) := Lib.hid (by simp [valWalk, fullWalk, hok])
    rw [hok] at HO
    rw [H1.out.1, H1.out.2]
    clear hok h
    go_enter Try.func11, Try.ntmps11
    go_wp2_with fail
    refine HO.out.mono ?_
    rintro e w1 ⟨rfl, hb1⟩
    go_wp2_with fail
    go_returns
    exact gives3_none hb1
  · rw [hok] at HO
    have hok2 := hok
    obtain ⟨n, rfl, hL, hij, hgo, ⟨k, hk⟩, -⟩ := okW_yes hok
    obtain ⟨h1, h2, -⟩ := labB_yes hL
    have hii := inner_inner (i, j) hij
    obtain ⟨pre, l, e1, hl, e2⟩ := wfrom_last hL hgo (by rw [hii]; exact hk)
    have hwl := wfrom_len xs n (-1) (inner (i, j))
    have hbd := ci_bd n h2
    have H1 : Hid (valWalk n xs i j = ints (wfrom xs n (-1) (inner (i, j))).1 ∧ fullWalk n xs i j = (wfrom xs n (-1) (inner (i, j))).2.2) := Lib.hid (by simp [valWalk, fullWalk, hok2])
    have HRD := Lib.hid (fun w' (hb : Below w.heap.size w w') => h.later hn hb0 hb)
    have HRB := Lib.hid (fun w' (hb : Below w.heap.size w w') => lt_later hb0 hb)
    have HF := Lib.hid (fun w' cap (hb : Below w.heap.size w w') => doFrom_any n xs i j a b len cap w' hL hn (h.later hn hb0 hb) (lt_later hb0 hb) hgo hij)
    have HL := Lib.hid hL
    have HN := Lib.hid hn
    have HE := Lib.hid (ci_eq n (by omega) h1)
    rw [H1.out.1, H1.out.2]
    clear hok hok2 h hL hgo hk hn hb0 H1
    generalize (wfrom xs n (-1) (inner (i, j))) = W at e1 e2 hwl HF ⊢
    obtain ⟨L, D, f⟩ := W
    simp only at e1 e2 hwl HF ⊢
    subst e1
    have HIL : Hid ((ints (pre ++ [l])).length = pre.length + 1) := Lib.hid (by rw [ints_len, List.length_append]; rfl)
    have HLA : Hid ((ints (pre ++ [l])).getD pre.length 0 = (l : Int)) := Lib.hid (by simp [ints, List.getD])
    have hpl : pre.length + 1 ≤ 1000 := by rw [List.length_append] at hwl; simp only [List.length_cons, List.length_nil] at hwl; omega
    have HFU := Lib.hid e2.symm
    clear e2 hwl
    go_enter Try.func11, Try.ntmps11
    go_wp2_with fail
    refine HO.out.mono ?_
    rintro e w1 ⟨rfl, hb1⟩
    go_wp2_with fail
    refine (HF.out w1 cap hb1).mono ?_
    rintro e w2 ⟨v, pd, bd, cd, rfl, ho2, -, -, hb2⟩
    rw [← ints_len] at ho2
    obtain ⟨-, va, vc, vb, rfl, hvx, hvr⟩ := own_shape ho2
    obtain ⟨rfl, c0⟩ := hvr.2 pre.length (by rw [HIL.out]; omega)
    rw [HLA.out, Nat.zero_add] at c0
    have hvb := own_lt ho2 vb rfl
    have hB2 := bnext hb1 hb2
    have HBS : Hid (w.heap.size ≤ w1.heap.size) := Lib.hid hb1.size
    have hsub : IntKind.i64.wrap (((ints (pre ++ [l])).length : Int) - 1) = (pre.length : Int) := by
      rw [HIL.out, IntWalk.i64_in _ ⟨by omega, by omega⟩]
      omega
    have hpi : (pre.length : Int) < ((ints (pre ++ [l])).length : Int) := by rw [HIL.out]; omega
    have hli : (l : Int) < ((ci n).length : Int) := by omega
    have hil2 : ((ints (pre ++ [l])).length : Int) ≤ 1000 := by rw [HIL.out]; omega
    clear hb1 hb2 hvr hvx
    go_wp2_with fail
    refine wp_region_mix (fun w' => Below w2.heap.size w2 w') [3, 11, 12] [0, 1, 2, 4, 5, 6, 7, 8, 9, 3, 10, 11, 12, 13, 14, 15] (by kernel_rfl) (by kernel_rfl) (fun _ _ d _ _ h => by cases d <;> exact h) (by kernel_rfl) rfl (Below.refl _ _).drew ?_
    refine mix_take 0 _ ?_ rfl rfl rfl (some 27) rfl (fun w' hw' => ?hv0) ?_
    case hv0 =>
      go_simp
      with_reducible rfl
    simp only [Act.put, List.setIfInBounds_toArray, List.set_cons_zero, List.set_cons_succ]
    refine mix_take 1 _ ?_ rfl rfl rfl (some 28) rfl (fun w' hw' => ?hv1) ?_
    case hv1 =>
      go_simp
      with_reducible rfl
    simp only [Act.put, List.setIfInBounds_toArray, List.set_cons_zero, List.set_cons_succ]
    refine mix_take 2 _ ?_ rfl rfl rfl (some 29) rfl (fun w' hw' => ?hv2) ?_
    case hv2 =>
      go_simp
      with_reducible rfl
    simp only [Act.put, List.setIfInBounds_toArray, List.set_cons_zero, List.set_cons_succ]
    refine mix_take 4 _ ?_ rfl rfl rfl (some 31) rfl (fun w' hw' => ?hv4) ?_
    case hv4 =>
      go_simp
      with_reducible rfl
    simp only [Act.put, List.setIfInBounds_toArray, List.set_cons_zero, List.set_cons_succ]
    refine mix_take 5 _ ?_ rfl rfl rfl (some 32) rfl (fun w' hw' => ?hv5) ?_
    case hv5 =>
      go_simp
      with_reducible rfl
    simp only [Act.put, List.setIfInBounds_toArray, List.set_cons_zero, List.set_cons_succ]
    refine mix_take 6 _ ?_ rfl rfl rfl (some 33) rfl (fun w' hw' => ?hv6) ?_
    case hv6 =>
      go_simp
      with_reducible rfl
    simp only [Act.put, List.setIfInBounds_toArray, List.set_cons_zero, List.set_cons_succ]
    refine mix_take 7 _ ?_ rfl rfl rfl (some 34) rfl (fun w' hw' => ?hv7) ?_
    case hv7 =>
      go_simp
      with_reducible rfl
    simp only [Act.put, List.setIfInBounds_toArray, List.set_cons_zero, List.set_cons_succ]
    refine mix_take 8 _ ?_ rfl rfl rfl (some 35) rfl (fun w' hw' => ?hv8) ?_
    case hv8 =>
      go_simp
      with_reducible rfl
    simp only [Act.put, List.setIfInBounds_toArray, List.set_cons_zero, List.set_cons_succ]
    refine mix_take 9 _ ?_ rfl rfl rfl (some 36) rfl (fun w' hw' => ?hv9) ?_
    case hv9 =>
      have c0 := (Below.cell (p := ⟨vb, pre.length, none⟩) hw' hvb).trans c0
      go_simp
      with_reducible rfl
    simp only [Act.put, List.setIfInBounds_toArray, List.set_cons_zero, List.set_cons_succ]
    refine mix_call 3 _ rfl rfl rfl 34 #[.int .i64 n] (some 30) rfl ?hr3 ?_
    case hr3 => go_simp
    refine (meCells_any n h1 h2 _).mono ?_
    rintro e w3 ⟨v, rfl, hc, hb3⟩
    rw [← HE.out] at hc
    obtain ⟨sa, sm, sc, rfl⟩ := cells_shape hc
    obtain ⟨rfl, g, ra, rc, rb, rfl, c1, hr1, hrb1, -, -⟩ := spec_cell3 h2 hc hl
    have hB3 : Below w2.heap.size w2 w3 := (Below.refl _ _).drew.trans hb3
    refine ⟨_, rfl, hB3, ?_⟩
    simp only [Act.put, List.setIfInBounds_toArray, List.set_cons_zero, List.set_cons_succ]
    refine mix_take 10 _ ?_ rfl rfl rfl (some 37) rfl (fun w' hw' => ?hv10) ?_
    case hv10 =>
      go_simp
      with_reducible rfl
    simp only [Act.put, List.setIfInBounds_toArray, List.set_cons_zero, List.set_cons_succ]
    refine mix_val 11 _ ?_ rfl rfl rfl (some 38) rfl ?hv11 ⟨hB3, ?_⟩
    case hv11 =>
      go_simp
      with_reducible rfl
    simp only [Act.put, List.setIfInBounds_toArray, List.set_cons_zero, List.set_cons_succ]
    refine mix_call 12 _ rfl rfl rfl 33 #[.slice a len cap, .slice ra 3 rc] (some 39) rfl ?hr12 ?_
    case hr12 => go_simp
    refine (doFull_go n l xs a ra b rb len cap rc w3 HL.out hl HN.out (HRD.out w3 (bnext hB2 hB3)) hr1).mono ?_
    rintro e w4 ⟨rfl, rfl⟩
    refine ⟨_, rfl, hB3, ?_⟩
    simp only [Act.put, List.setIfInBounds_toArray, List.set_cons_zero, List.set_cons_succ]
    refine mix_take 13 _ ?_ rfl rfl rfl (some 8) rfl (fun w' hw' => ?hv13) ?_
    case hv13 =>
      go_simp
      with_reducible rfl
    simp only [Act.put, List.setIfInBounds_toArray, List.set_cons_zero, List.set_cons_succ]
    refine mix_take 14 _ ?_ rfl rfl rfl (some 9) rfl (fun w' hw' => ?hv14) ?_
    case hv14 =>
      go_simp
      with_reducible rfl
    simp only [Act.put, List.setIfInBounds_toArray, List.set_cons_zero, List.set_cons_succ]
    refine mix_take 15 _ ?_ rfl rfl rfl (some 10) rfl (fun w' hw' => ?hv15) ?_
    case hv15 =>
      go_simp
      with_reducible rfl
    simp only [Act.put, List.setIfInBounds_toArray, List.set_cons_zero, List.set_cons_succ]
    refine mix_done ?_
    have ho3 := own_now ho2 hB3
    have hB03 := bnext hB2 hB3
    have hs1 := hB2.size
    clear c0 c1 hr1 hrb1 hc hb3 ho2
    go_wp2_with fail
    go_returns
    exact gives3_of HFU.out (own_base ho3 HBS.out) hB03
end Go.Proofs.Ythkohenobbhhmaa

namespace Go.Proofs.Ythkohenobbhhmaa
open Go.RowKit
set_option maxRecDepth 4000
theorem run_build0_wk (w : World) : (Instr.build 56 #[]).run Try.prog w = .ok (.agg zeroW) w := by kernel_rfl
theorem zeroW_one : zeroW.all (·.oneCell') = true := by decide +kernel
section
variable {ops : Array Oper} {rest : List Oper} {o : Oper} {a : Act} {w : World} {Q : Exit → Act → World → Prop}
theorem build0_wk (hgd : o.guard = none) (ho : o.op = .build 56 #[])
    (h : wpList Try.prog ops Q rest (a.put o.dst (.agg zeroW)) w) : wpList Try.prog ops Q (o :: rest) a w := by
  refine wpList_plain hgd fun K hK => ?_
  unfold Oper.wp
  simp [execOp, ho, run_build0_wk, Result.andThen]
  exact hK _ _ h
end
theorem rooms_keep {w w' : World} {base n : Nat} {xs : List Int} {r : Array Value} (h : RoomsV w base n xs r) (hk : ∀ k, base ≤ k → w'.heap[k]? = w.heap[k]?) (hs : w'.heap.size = w.heap.size) : RoomsV w' base n xs r := by
  obtain ⟨g, ca, cc, h1, h2, h3, h4, h5⟩ := h
  exact ⟨g, ca, cc, h1, own_keep h2 (fun q hq => hk q (h2.lt q hq).1), (hk g h4).trans h3, h4, by omega⟩
theorem rooms_base {w : World} {base base' n : Nat} {xs : List Int} {r : Array Value} (h : RoomsV w base n xs r) (hb : base' ≤ base) : RoomsV w base' n xs r := by
  obtain ⟨g, ca, cc, h1, h2, h3, h4, h5⟩ := h
  exact ⟨g, ca, cc, h1, own_base h2 hb, h3, by omega, h5⟩
theorem own_num {w : World} {base e s n m : Nat} {v : Value} {xs : List Value} (h : w.ownsRow base e s v n xs) (hn : n = m) : w.ownsRow base e s v m xs := hn ▸ h
set_option maxHeartbeats 1600000 in
theorem walkFromBorder_no (n : Int) (xs : List Int) (x y : Int) (a : Option Addr) (b len cap : Nat) (w : World) (hn : xs.length = len) (hsm : len ≤ 1048576) (h : Rd w a b 0 xs) (hb0 : len = 0 ∨ b < w.heap.size) (hok : okW n xs x y = false) :
    Calls Try.prog 35 #[.int .i64 n, .slice a len cap, .agg #[.int .i64 x, .int .i64 y]] w fun e w' => e = .returned (.tuple #[.agg zeroW, .bool false]) ∧ Below w.heap.size w w' := by
  have hB0 := balloc (balloc (Below.refl w.heap.size w) (.cells #[.int .i64 x, .int .i64 y] 54)) (.cells zeroW 56)
  have hz1 : ((w.alloc (.cells #[.int .i64 x, .int .i64 y] 54)).alloc (.cells zeroW 56)).heap[w.heap.size + 1]? = some (.cells zeroW 56 (0, 0)) := by
    have e := heap_alloc_new (w.alloc (.cells #[.int .i64 x, .int .i64 y] 54)) (.cells zeroW 56)
    rwa [World.size_alloc] at e
  have hp1 : ((w.alloc (.cells #[.int .i64 x, .int .i64 y] 54)).alloc (.cells zeroW 56)).heap[w.heap.size]? = some (.cells #[.int .i64 x, .int .i64 y] 54 (0, 0)) := by
    rw [Below.heap_alloc _ _ _ (by simp)]
    exact heap_alloc_new w _
  have hs1 : ((w.alloc (.cells #[.int .i64 x, .int .i64 y] 54)).alloc (.cells zeroW 56)).heap.size = w.heap.size + 2 := by simp
  have h' := h.later hn hb0 hB0
  have hb0' := lt_later hb0 hB0
  cases hL : labB n xs
  · have HR := Lib.hid (roomsOf_no n xs a b len cap _ hn hsm h' hb0' hL)
    clear hL h hb0 h' hb0' hok hn
    go_enter Try.func35, Try.ntmps35
    go_wp2_with ((with_reducible refine alloc_blk zeroW run_alloc_wk rfl rfl ?_); simp only [World.size_alloc, Act.put, List.setIfInBounds_toArray, List.set_cons_zero, List.set_cons_succ])
    generalize ((w.alloc (.cells #[.int .i64 x, .int .i64 y] 54)).alloc (.cells zeroW 56)) = w1 at hB0 hz1 hp1 hs1 HR ⊢
    refine HR.out.mono ?_
    rintro e w2 ⟨rfl, hb2⟩
    have hz2 := (hb2.block (w.heap.size + 1) (by omega)).trans hz1
    have hs2 := hb2.size
    have hB2 := bnext hB0 hb2
    clear hz1 hp1 HR hb2
    go_wp2_with (first
      | (with_reducible refine build0_wk rfl rfl ?_)
      | (with_reducible refine alloc_rm rfl rfl ?_)
      | ((with_reducible refine store_blk blkRooms rfl _ _ rfl w2.heap.size zeroR zeroR ?_ ?_ ?_ zeroR_size zeroR_size zeroR_one w.heap.size (by omega) ?_); exact rfl; exact rfl; exact heap_alloc_new _ _; intro w3 hg3 hb3 hk3 hs3; have hz3 := (hk3 (w.heap.size + 1) (by omega)).trans ((Below.heap_alloc _ _ _ (by omega)).trans hz2); have hB3 := (hB2.alloc (by omega) (.cells zeroR 52)).trans hb3)
      | ((with_reducible refine store_blk blkWalk rfl _ _ rfl (w.heap.size + 1) zeroW zeroW ?_ ?_ hz3 zeroW_size zeroW_size zeroW_one w.heap.size (by omega) ?_); exact rfl; exact rfl; intro w4 hg4 hb4 hk4 hs4))
    exact bodyPost_ret (results_blk blkWalk rfl _ _ (w.heap.size + 1) _ (.bool false) rfl rfl hg4 zeroW_size) rfl ⟨rfl, hB3.trans hb4⟩
  · obtain ⟨n, rfl⟩ := labB_nat hL
    have HR := Lib.hid (roomsOf_yes n xs a b len cap _ hn hsm h' hb0' hL)
    have HL := Lib.hid hL
    have HNO : Hid ((bds n xs).find? (fun d => sameB d (x, y)) = none) := by
      have : ((bds n xs).find? (fun d => sameB d (x, y))).isSome = false := by simpa [okW, hL] using hok
      exact Lib.hid (by cases hh : (bds n xs).find? (fun d => sameB d (x, y)) <;> simp_all)
    clear hL h hb0 h' hb0' hok hn
    go_enter Try.func35, Try.ntmps35
    go_wp2_with ((with_reducible refine alloc_blk zeroW run_alloc_wk rfl rfl ?_); simp only [World.size_alloc, Act.put, List.setIfInBounds_toArray, List.set_cons_zero, List.set_cons_succ])
    generalize ((w.alloc (.cells #[.int .i64 x, .int .i64 y] 54)).alloc (.cells zeroW 56)) = w1 at hB0 hz1 hp1 hs1 HR ⊢
    refine HR.out.mono ?_
    rintro e w2 ⟨r, rfl, hrv, hb2⟩
    obtain ⟨hsz, hone, -⟩ := rooms_row HL.out hrv
    have hz2 := (hb2.block (w.heap.size + 1) (by omega)).trans hz1
    have hp2 := (hb2.block w.heap.size (by omega)).trans hp1
    have hs2 := hb2.size
    have hB2 := bnext hB0 hb2
    have HRV := Lib.hid (fun w' (hb : Below w2.heap.size w2 w') => rooms_now hrv hb)
    clear hz1 hp1 HR hb2 hrv
    go_wp2_with (first
      | (with_reducible refine alloc_rm rfl rfl ?_)
      | ((with_reducible refine store_blk blkRooms rfl _ _ rfl w2.heap.size r zeroR ?_ ?_ ?_ zeroR_size hsz hone w2.heap.size (by omega) ?_); exact rfl; exact rfl; exact heap_alloc_new _ _; intro w3 hg3 hb3 hk3 hs3; have hz3 := (hk3 (w.heap.size + 1) (by omega)).trans ((Below.heap_alloc _ _ _ (by omega)).trans hz2); have hp3 := (hk3 w.heap.size (by omega)).trans ((Below.heap_alloc _ _ _ (by omega)).trans hp2); have q0 := blk_cell hp3 0 (.int .i64 x) rfl; have q1 := blk_cell hp3 1 (.int .i64 y) rfl; have hB23 := ((Below.refl w2.heap.size w2).alloc (Nat.le_refl _) (.cells zeroR 52)).trans hb3)
      | ((with_reducible refine load_blk blkRooms ?_ _ rfl w2.heap.size ?_ r hg3 hsz ?_); exact rfl; exact rfl; simp only [Act.put, List.setIfInBounds_toArray, List.set_cons_zero, List.set_cons_succ]))
    refine (borderDoor_any n xs _ r x y w3 HL.out (HRV.out w3 hB23)).mono ?_
    rintro e w4 ⟨rfl, hb4⟩
    rw [HNO.out]
    rw [show fp none = .tuple #[.agg #[.int .i64 0, .int .i64 0], .bool false] from rfl]
    have hs3' : w2.heap.size ≤ w3.heap.size := hB23.size
    have hz4 := (hb4.block (w.heap.size + 1) (by omega)).trans hz3
    have hB4 := bnext (bnext hB2 hB23) hb4
    have hs4 := hb4.size
    have hza := (Below.heap_alloc w4 (.cells #[.int .i64 0, .int .i64 0] 54) (w.heap.size + 1) (by omega)).trans hz4
    have hBa := balloc hB4 (.cells #[.int .i64 0, .int .i64 0] 54)
    clear hb4 hb3 hk3 hg3 hz3 hp3 q0 q1 hz4
    go_wp2_with (first
      | (with_reducible refine build0_wk rfl rfl ?_)
      | ((with_reducible refine store_blk blkWalk rfl _ _ rfl (w.heap.size + 1) zeroW zeroW ?_ ?_ hza zeroW_size zeroW_size zeroW_one w.heap.size (by omega) ?_); exact rfl; exact rfl; intro w5 hg5 hb5 hk5 hs5))
    exact bodyPost_ret (results_blk blkWalk rfl _ _ (w.heap.size + 1) _ (.bool false) rfl rfl hg5 zeroW_size) rfl ⟨rfl, hBa.trans hb5⟩
set_option maxHeartbeats 1600000 in
theorem walkFromBorder_yes (n : Nat) (xs : List Int) (x y : Int) (a : Option Addr) (b len cap : Nat) (w : World) (hn : xs.length = len) (hsm : len ≤ 1048576) (h : Rd w a b 0 xs) (hb0 : len = 0 ∨ b < w.heap.size) (hok : okW n xs x y = true) :
    Calls Try.prog 35 #[.int .i64 n, .slice a len cap, .agg #[.int .i64 x, .int .i64 y]] w fun e w' => ∃ r pv u v, e = .returned (.tuple #[.agg (wkA r pv u v (wfrom xs n (-1) (inner (x, y))).2.2), .bool true]) ∧
      RoomsV w' w.heap.size n xs r ∧ w'.ownsRow w.heap.size 3 1 pv (wfrom xs n (-1) (inner (x, y))).1.length ((ints (wfrom xs n (-1) (inner (x, y))).1).map (Value.int .i64)) ∧ inner (u, v) = (wfrom xs n (-1) (inner (x, y))).2.1 ∧ Below w.heap.size w w' := by
  have hB0 := balloc (balloc (Below.refl w.heap.size w) (.cells #[.int .i64 x, .int .i64 y] 54)) (.cells zeroW 56)
  have hz1 : ((w.alloc (.cells #[.int .i64 x, .int .i64 y] 54)).alloc (.cells zeroW 56)).heap[w.heap.size + 1]? = some (.cells zeroW 56 (0, 0)) := by
    have e := heap_alloc_new (w.alloc (.cells #[.int .i64 x, .int .i64 y] 54)) (.cells zeroW 56)
    rwa [World.size_alloc] at e
  have hp1 : ((w.alloc (.cells #[.int .i64 x, .int .i64 y] 54)).alloc (.cells zeroW 56)).heap[w.heap.size]? = some (.cells #[.int .i64 x, .int .i64 y] 54 (0, 0)) := by
    rw [Below.heap_alloc _ _ _ (by simp)]
    exact heap_alloc_new w _
  have hs1 : ((w.alloc (.cells #[.int .i64 x, .int .i64 y] 54)).alloc (.cells zeroW 56)).heap.size = w.heap.size + 2 := by simp
  have h' := h.later hn hb0 hB0
  have hb0' := lt_later hb0 hB0
  obtain ⟨n', hnn, hL, hxy, -, -, d, hdm, hdf, hdi, hgo⟩ := okW_yes hok
  obtain rfl : n = n' := by omega
  have HW := Lib.hid (wfrom_inner xs n (-1) (p := d) (q := inner (x, y)) (by rw [inner_inner (x, y) hxy]; exact hdi))
  have HR := Lib.hid (roomsOf_yes n xs a b len cap _ hn hsm h' hb0' hL)
  have HL := Lib.hid hL
  have HDF := Lib.hid hdf
  obtain ⟨d1, d2⟩ := d
  have HGO := Lib.hid hgo
  rw [← HW.out]
  clear hL h hb0 h' hb0' hok hn hnn hdm hdf hdi hgo HW
  generalize hW : wfrom xs n (-1) (d1, d2) = W
  have HWW := Lib.hid hW
  obtain ⟨L, D, f⟩ := W
  clear hW
  go_enter Try.func35, Try.ntmps35
  go_wp2_with ((with_reducible refine alloc_blk zeroW run_alloc_wk rfl rfl ?_); simp only [World.size_alloc, Act.put, List.setIfInBounds_toArray, List.set_cons_zero, List.set_cons_succ])
  generalize ((w.alloc (.cells #[.int .i64 x, .int .i64 y] 54)).alloc (.cells zeroW 56)) = w1 at hB0 hz1 hp1 hs1 HR ⊢
  refine HR.out.mono ?_
  rintro e w2 ⟨r, rfl, hrv, hb2⟩
  obtain ⟨hsz, hone, -⟩ := rooms_row HL.out hrv
  have hz2 := (hb2.block (w.heap.size + 1) (by omega)).trans hz1
  have hp2 := (hb2.block w.heap.size (by omega)).trans hp1
  have hs2 := hb2.size
  have hB2 := bnext hB0 hb2
  have HRV := Lib.hid (fun w' (hb : Below w2.heap.size w2 w') => rooms_now hrv hb)
  clear hz1 hp1 HR hb2 hrv
  go_wp2_with (first
    | (with_reducible refine alloc_rm rfl rfl ?_)
    | ((with_reducible refine store_blk blkRooms rfl _ _ rfl w2.heap.size r zeroR ?_ ?_ ?_ zeroR_size hsz hone w2.heap.size (by omega) ?_); exact rfl; exact rfl; exact heap_alloc_new _ _; intro w3 hg3 hb3 hk3 hs3; have hz3 := (hk3 (w.heap.size + 1) (by omega)).trans ((Below.heap_alloc _ _ _ (by omega)).trans hz2); have hp3 := (hk3 w.heap.size (by omega)).trans ((Below.heap_alloc _ _ _ (by omega)).trans hp2); have q0 := blk_cell hp3 0 (.int .i64 x) rfl; have q1 := blk_cell hp3 1 (.int .i64 y) rfl; have hB23 := ((Below.refl w2.heap.size w2).alloc (Nat.le_refl _) (.cells zeroR 52)).trans hb3)
    | ((with_reducible refine load_blk blkRooms ?_ _ rfl w2.heap.size ?_ r hg3 hsz ?_); exact rfl; exact rfl; simp only [Act.put, List.setIfInBounds_toArray, List.set_cons_zero, List.set_cons_succ]))
  refine (borderDoor_any n xs _ r x y w3 HL.out (HRV.out w3 hB23)).mono ?_
  rintro e w4 ⟨rfl, hb4⟩
  rw [HDF.out]
  rw [show fp (some (d1, d2)) = .tuple #[.agg #[.int .i64 d1, .int .i64 d2], .bool true] from rfl]
  have hs3' : w2.heap.size < w3.heap.size := by have e := (Array.getElem?_eq_some_iff.1 hg3).1; omega
  have hz4 := (hb4.block (w.heap.size + 1) (by omega)).trans hz3
  have hg4 := (hb4.block w2.heap.size (by omega)).trans hg3
  have hB24 := bnext hB23 hb4
  have hs4 := hb4.size
  have hza := (Below.heap_alloc w4 (.cells #[.int .i64 d1, .int .i64 d2] 54) (w.heap.size + 1) (by omega)).trans hz4
  have hga := (Below.heap_alloc w4 (.cells #[.int .i64 d1, .int .i64 d2] 54) w2.heap.size (by omega)).trans hg4
  have hBa := balloc hB24 (.cells #[.int .i64 d1, .int .i64 d2] 54)
  clear hb4 hb3 hk3 hg3 hz3 hp3 q0 q1 hz4 hg4
  go_wp2_with ((with_reducible refine load_blk blkRooms ?_ _ rfl w2.heap.size ?_ r hga hsz ?_); exact rfl; exact rfl; simp only [Act.put, List.setIfInBounds_toArray, List.set_cons_zero, List.set_cons_succ])
  refine (walkFrom_any n xs _ r (-1) d1 d2 _ HL.out (HRV.out _ hBa) HGO.out).mono ?_
  rw [HWW.out]
  rintro e w6 ⟨pv, u, v, rfl, ho6, hin, hb6⟩
  have hsa : (w4.alloc (.cells #[.int .i64 d1, .int .i64 d2] 54)).heap.size = w4.heap.size + 1 := by simp
  have hz6 := (hb6.block (w.heap.size + 1) (by omega)).trans hza
  have hB26 := bnext hBa hb6
  have hs6 := hb6.size
  rw [← ints_len] at ho6
  obtain ⟨-, pa, pc, pb, rfl, -⟩ := own_shape ho6
  have hwz : Hid ((wkA r (.slice pa (ints L).length pc) u v f).size = 52 ∧ (wkA r (.slice pa (ints L).length pc) u v f).all (·.oneCell') = true) := Lib.hid ⟨wkA_size _ _ _ _ _ hsz, wkA_one _ _ _ _ _ _ _ hone⟩
  simp only at hin
  have HIN := Lib.hid hin
  clear hin hza hga hBa hb6
  go_wp2_with ((with_reducible refine store_blk blkWalk rfl _ _ rfl (w.heap.size + 1) (wkA r (.slice pa (ints L).length pc) u v f) zeroW ?_ ?_ hz6 zeroW_size hwz.out.1 hwz.out.2 w.heap.size (by omega) ?_); exact rfl; exact rfl; intro w7 hg7 hb7 hk7 hs7)
  have ho7 := own_keep ho6 (fun q hq => hk7 q (by have := (ho6.lt q hq).1; omega))
  have hr7 : RoomsV w7 w1.heap.size n xs r := rooms_keep (HRV.out w6 hB26) (fun q hq => hk7 q (by omega)) hs7
  have hle : w.heap.size ≤ (w4.alloc (.cells #[.int .i64 d1, .int .i64 d2] 54)).heap.size := by rw [hsa]; omega
  exact bodyPost_ret (results_blk blkWalk rfl _ _ (w.heap.size + 1) _ (.bool true) rfl rfl hg7 hwz.out.1) rfl ⟨r, _, u, v, rfl, rooms_base hr7 (by omega), own_num (own_base ho7 hle) (ints_len L), HIN.out, (bnext hB2 hB26).trans hb7⟩
end Go.Proofs.Ythkohenobbhhmaa
