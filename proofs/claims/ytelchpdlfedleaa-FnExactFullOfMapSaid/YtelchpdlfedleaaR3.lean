import Derived.Test.YtelchpdlfedleaaR2
import Derived.Test.YtelchpdlfedleaaMt
namespace Go.Proofs.Ytelchpdlfedleaa
open Go.RowKit
set_option maxRecDepth 4000
/-- What stays while rooms are made: the result's block, the labels' block, and what was there before. -/
structure RoK (w0 : World) (g1 : Nat) (cs : Array Value) (w : World) : Prop where
  res : w.heap[w0.heap.size]? = some (.cells lr0 117 (0, 0))
  lab : w.heap[g1]? = some (.cells cs 110 (0, 0))
  old : Below w0.heap.size w0 w
  le0 : w0.heap.size < g1
theorem RoK.lt {w0 : World} {g1 : Nat} {cs : Array Value} {w : World} (h : RoK w0 g1 cs w) : g1 < w.heap.size := (Array.getElem?_eq_some_iff.1 h.lab).1
theorem RoK.le {w0 : World} {g1 : Nat} {cs : Array Value} {w : World} (h : RoK w0 g1 cs w) : w0.heap.size ≤ w.heap.size := h.old.size
theorem RoK.below {w0 : World} {g1 : Nat} {cs : Array Value} {w w' : World} (h : RoK w0 g1 cs w) (hb : Below w.heap.size w w') : RoK w0 g1 cs w' :=
  ⟨(hb.block _ (Nat.lt_trans h.le0 h.lt)).trans h.res, (hb.block _ h.lt).trans h.lab, bnext h.old hb, h.le0⟩
theorem RoK.keep {w0 : World} {g1 g : Nat} {cs : Array Value} {w w' : World} (h : RoK w0 g1 cs w) (hk : ∀ k, k ≠ g → w'.heap[k]? = w.heap[k]?) (hb : Below g w w') (hg : g1 < g) : RoK w0 g1 cs w' :=
  ⟨(hk _ (by have := h.le0; omega)).trans h.res, (hk _ (by omega)).trans h.lab, h.old.trans (hb.mono (by have := h.le0; omega)), h.le0⟩
/-- A row of one type lies in no block of another type. -/
theorem own_nb {w : World} {base e size n g : Nat} {v : Value} {xs : List Value} {cs : Array Value} {t : TypeId} (h : w.ownsRow base e size v n xs) (hg : w.heap[g]? = some (.cells cs t (0, 0))) (ht : t ≠ e) : ∀ k, v.ownBlock = some k → k ≠ g := by
  intro k hk hkg
  rcases h.2 with ⟨rfl, -⟩ | ⟨g', cap, cur, rfl, -, hh, -⟩
  · cases hk
  · have e1 : g' = k := by simpa [Value.ownBlock] using hk
    subst e1
    subst hkg
    rw [hh] at hg
    simp at hg
    exact ht hg.2.symm
set_option maxHeartbeats 6400000 in
theorem roomsOf_yes (n : Nat) (xs : List Int) (a : Option Addr) (b len cap : Nat) (w : World) (hn : xs.length = len) (hsm : len ≤ 1048576) (h : Rd w a b 0 xs) (hb0 : len = 0 ∨ b < w.heap.size) (hL : labB n xs = true) :
    Calls Try.prog 96 #[.int .i64 n, .slice a len cap] w fun e w' => ∃ R, e = .returned (.tuple #[.agg R, .bool true]) ∧ RoomsT w' w.heap.size n xs R ∧ Below w.heap.size w w' := by
  obtain ⟨h1, h2, hl, -⟩ := labB_yes hL
  have hcn := (Pr.cnt_le n (by omega)).1
  have hB0 := balloc (Below.refl w.heap.size w) (.cells lr0 117)
  have hlab := labelledOf_any n xs a b len cap (w.alloc (.cells lr0 117)) hn hsm (h.later hn hb0 hB0) (lt_later hb0 hB0)
  rw [hL] at hlab
  simp only [if_true, Int.toNat_natCast] at hlab
  have hsz := labL_size n xs (by omega)
  have hone := labL_one n xs
  have hat : (labL n xs).toArray[0]? = some (.int .i64 n) := by simp [labL]
  have hr0 := heap_alloc_new w (.cells lr0 117)
  have hs0 : (w.alloc (.cells lr0 117)).heap.size = w.heap.size + 1 := by simp
  have hmf : ∀ (fn : Fn) (first cap : Array Value) (w : World), (Instr.makeFunc fn first cap).run Try.prog w = .ok (.func fn first cap) w := fun _ _ _ _ => rfl
  have HBL : Hid ((bor n (3 * n)).length ≤ 1000) := Lib.hid (by rw [bor_len]; omega)
  have HPS := Lib.hid (als_bps n)
  have HL := Lib.hid hlab
  have HLB := Lib.hid hL
  clear hL hl hn h hb0 hlab
  generalize hcs : (labL n xs).toArray = cs at hsz hone hat HL
  have HCS := Lib.hid hcs
  clear hcs
  go_enter Try.func96, Try.ntmps96
  go_wp2_with (with_reducible refine alloc_blk lr0 run_alloc_lr rfl rfl ?_)
  generalize w.alloc (.cells lr0 117) = w0 at hB0 HL hr0 hs0 ⊢
  refine HL.out.mono ?_
  rintro e w1 ⟨rfl, hb1⟩
  have hr1 := (hb1.block w.heap.size (by omega)).trans hr0
  have hB1 := bnext hB0 hb1
  have hlt1 : w.heap.size < w1.heap.size := by have := hb1.size; omega
  have hr2 := (Below.heap_alloc w1 (.cells zeroA 110) w.heap.size hlt1).trans hr1
  clear hb1 hB0 hr0 hr1
  go_wp2_with (first
    | (with_reducible refine alloc_blk zeroA run_alloc_lb rfl rfl ?_)
    | ((with_reducible refine store_blk blkLb rfl _ _ rfl w1.heap.size cs zeroA ?_ ?_ ?_ zeroA_size hsz hone w1.heap.size (Nat.le_refl _) ?_); exact rfl; exact rfl; exact heap_alloc_new _ _; intro w3 hg3 hb3 hk3 hs3; have hB3 := hB1.trans (Below.mono ((balloc (Below.refl w1.heap.size w1) (.cells zeroA 110)).trans hb3) hB1.size); have hr3 := (hk3 w.heap.size (by omega)).trans hr2))
  have hK3 : RoK w w1.heap.size cs w3 := ⟨hr3, hg3, hB3, hlt1⟩
  obtain ⟨g1, hg1⟩ : ∃ g1, g1 = w1.heap.size := ⟨_, rfl⟩
  rw [← hg1] at hK3 hlt1 ⊢
  clear hg1 hg3 hr3 hB3 hb3 hk3 hs3 hr2 hB1
  refine (fun (hX : ∀ (g : Nat) (w8 : World) (ca : Option Addr) (cc : Nat) (ba : Option Addr) (bc : Nat) (pa : Option Addr) (pc : Nat), w8.heap[g]? = some (.cells #[.slice ca (ci n).length cc, .slice pa (bps n (3 * n)).length pc, .func (.func 126) #[] (capD g1)] 115 (0, 0)) → g1 < g → TrioV w8 w.heap.size (.slice ca (ci n).length cc) (ci n) → PairV w8 w.heap.size (.slice pa (bps n (3 * n)).length pc) (bps n (3 * n)) → RoK w g1 cs w8 → (?X : Nat → World → Option Addr → Nat → Option Addr → Nat → Option Addr → Nat → Prop) g w8 ca cc ba bc pa pc) => ?reg) ?main
  case reg =>
    refine wp_region_mt (RoK w g1 cs) (.take 0 (.take 1 (.take 3 (.take 4 (.take 7 (.fork 2 (.fork 5 (.fork 6 (.take 8 (.sole 9 (.sole 10 .done))) 9 (.sole 6 (.take 8 (.sole 10 .done)))) 9 (.sole 5 (.sole 6 (.take 8 (.sole 10 .done))))) 9 (.sole 2 (.sole 5 (.sole 6 (.take 8 (.sole 10 .done))))))))))) (by kernel_rfl) (by kernel_rfl) (fun _ _ d _ _ h => by cases d <;> exact h) (by kernel_rfl) rfl (hK3.below (Below.refl _ _).drew) ?_
    refine mt_take 0 _ ?_ rfl rfl (some 20) rfl (fun w' hw' => ?hv0) ?_
    case hv0 => (go_simp; with_reducible rfl)
    simp only [Act.put, List.setIfInBounds_toArray, List.set_cons_zero, List.set_cons_succ]
    refine mt_take 1 _ ?_ rfl rfl (some 21) rfl (fun w' hw' => ?hv1) ?_
    case hv1 =>
      have q0 : w'.cell? ⟨g1, 0, none⟩ = some (.int .i64 n) := blk_cell hw'.lab 0 _ hat
      go_simp
      with_reducible rfl
    simp only [Act.put, List.setIfInBounds_toArray, List.set_cons_zero, List.set_cons_succ]
    refine mt_take 3 _ ?_ rfl rfl (some 23) rfl (fun w' hw' => ?hv3) ?_
    case hv3 => (go_simp; with_reducible rfl)
    simp only [Act.put, List.setIfInBounds_toArray, List.set_cons_zero, List.set_cons_succ]
    refine mt_take 4 _ ?_ rfl rfl (some 24) rfl (fun w' hw' => ?hv4) ?_
    case hv4 =>
      have q0 : w'.cell? ⟨g1, 0, none⟩ = some (.int .i64 n) := blk_cell hw'.lab 0 _ hat
      go_simp
      with_reducible rfl
    simp only [Act.put, List.setIfInBounds_toArray, List.set_cons_zero, List.set_cons_succ]
    refine mt_take 7 _ ?_ rfl rfl (some 27) rfl (fun w' hw' => ?hv7) ?_
    case hv7 => (go_simp; with_reducible rfl)
    simp only [Act.put, List.setIfInBounds_toArray, List.set_cons_zero, List.set_cons_succ]
    have hK4 := hK3.below (Below.refl _ _).drew
    generalize w3.drew = w4 at hK4 ⊢
    refine mt_fork ?_ ?_
    · refine mt_call 2 _ rfl rfl 110 #[.agg #[.int .i64 n]] (some 22) rfl ?hr ?_
      case hr => go_simp
      refine (cells_any n h1 h2 w4).mono ?_
      rintro e x1 ⟨v, rfl, ht, hbx1⟩
      have ht := own_lo ht hK4.le
      obtain ⟨-, ca, cc, cb, rfl, -⟩ := trio_shape ht
      have hKx1 := hK4.below hbx1
      refine ⟨_, rfl, hKx1, ?_⟩
      simp only [Act.put, List.setIfInBounds_toArray, List.set_cons_zero, List.set_cons_succ]
      refine mt_fork ?_ ?_
      · refine mt_call 5 _ rfl rfl 128 #[.agg #[.int .i64 n]] (some 25) rfl ?hr ?_
        case hr => go_simp
        refine (border_any n h1 h2 x1).mono ?_
        rintro e x2 ⟨v, rfl, ho, hbx2⟩
        obtain ⟨-, ba, bc, bb, rfl, hx, hr⟩ := own_shape ho
        have hx := hx.imp_right fun h => own_lt ho bb (by rw [h]; rfl)
        clear ho
        have hKx2 := hKx1.below hbx2
        have hTx2 := trio_now ht hbx2
        refine ⟨_, rfl, hKx2, ?_⟩
        simp only [Act.put, List.setIfInBounds_toArray, List.set_cons_zero, List.set_cons_succ]
        refine mt_fork ?_ ?_
        · refine mt_call 6 _ rfl rfl 127 #[.slice ba (bor n (3 * n)).length bc] (some 26) rfl ?hr ?_
          case hr => go_simp
          refine (pairsAlong_any (bor n (3 * n)) ba bb _ bc x2 rfl hr hx HBL.out).mono ?_
          rintro e x3 ⟨v, rfl, hp, hbx3⟩
          rw [HPS.out] at hp
          have hp := own_lo hp hKx2.le
          obtain ⟨pa, pc, pb, rfl, -⟩ := pair_shape hp
          have hKx3 := hKx2.below hbx3
          have hTx3 := trio_now hTx2 hbx3
          refine ⟨_, rfl, hKx3, ?_⟩
          simp only [Act.put, List.setIfInBounds_toArray, List.set_cons_zero, List.set_cons_succ]
          refine mt_take 8 _ ?_ rfl rfl (some 28) rfl (fun w' hw' => ?hv8) ?_
          case hv8 => (go_simp; with_reducible rfl)
          simp only [Act.put, List.setIfInBounds_toArray, List.set_cons_zero, List.set_cons_succ]
          have hAx4 := heap_alloc_new x3 (.cells rms0 115)
          have hbx4 : Below x3.heap.size x3 (x3.alloc (.cells rms0 115)) := balloc (Below.refl _ _) _
          have hKx4 := hKx3.below hbx4
          have hTx4 := trio_now hTx3 hbx4
          have hPx4 := pairs_now hp hbx4
          have hge := hKx3.lt
          refine mt_alloc rms0 run_alloc_rms 9 _ rfl rfl rfl (some 9) rfl ⟨hKx4, ?_⟩
          generalize x3.alloc (.cells rms0 115) = x4 at hAx4 hbx4 hKx4 hTx4 hPx4 ⊢
          obtain ⟨g, hgeq⟩ : ∃ g, g = x3.heap.size := ⟨_, rfl⟩
          rw [← hgeq] at hAx4 hge ⊢
          clear hgeq
          simp only [Act.put, List.setIfInBounds_toArray, List.set_cons_zero, List.set_cons_succ]
          refine mt_store_blk blkRms 10 _ rfl rfl _ _ rfl none rfl g _ rms0 rfl rfl hAx4 rfl rfl (by simp [Value.oneCell']) g (Nat.le_refl _) ?_
          intro w8 hg8 hb8 hk8 hz8
          have hK8 := hKx4.keep hk8 hb8 hge
          refine ⟨hK8, ?_⟩
          simp only [Act.put]
          refine mt_done ?_
          exact hX g w8 ca cc ba bc pa pc hg8 hge (own_keep hTx4 (fun q hq => hk8 q (own_nb hTx4 hAx4 (by decide) q hq))) (own_keep hPx4 (fun q hq => hk8 q (own_nb hPx4 hAx4 (by decide) q hq))) hK8
        · have hAx5 := heap_alloc_new x2 (.cells rms0 115)
          have hbx5 : Below x2.heap.size x2 (x2.alloc (.cells rms0 115)) := balloc (Below.refl _ _) _
          have hKx5 := hKx2.below hbx5
          have hTx5 := trio_now hTx2 hbx5
          have hRx5 := hr.below hbx5 hx
          have hXx5 := hx.imp_right fun h => Nat.lt_of_lt_of_le h hbx5.size
          have hge := hKx2.lt
          refine mt_alloc rms0 run_alloc_rms 9 _ rfl rfl rfl (some 9) rfl ⟨hKx5, ?_⟩
          generalize x2.alloc (.cells rms0 115) = x5 at hAx5 hbx5 hKx5 hTx5 hRx5 hXx5 ⊢
          obtain ⟨g, hgeq⟩ : ∃ g, g = x2.heap.size := ⟨_, rfl⟩
          rw [← hgeq] at hAx5 hge ⊢
          clear hgeq
          simp only [Act.put, List.setIfInBounds_toArray, List.set_cons_zero, List.set_cons_succ]
          refine mt_call 6 _ rfl rfl 127 #[.slice ba (bor n (3 * n)).length bc] (some 26) rfl ?hr ?_
          case hr => go_simp
          refine (pairsAlong_any (bor n (3 * n)) ba bb _ bc x5 rfl hRx5 hXx5 HBL.out).mono ?_
          rintro e x6 ⟨v, rfl, hp, hbx6⟩
          rw [HPS.out] at hp
          have hp := own_lo hp hKx5.le
          obtain ⟨pa, pc, pb, rfl, -⟩ := pair_shape hp
          have hKx6 := hKx5.below hbx6
          have hTx6 := trio_now hTx5 hbx6
          have hGx6 := (hbx6.block g (Array.getElem?_eq_some_iff.1 hAx5).1).trans hAx5
          refine ⟨_, rfl, hKx6, ?_⟩
          simp only [Act.put, List.setIfInBounds_toArray, List.set_cons_zero, List.set_cons_succ]
          refine mt_take 8 _ ?_ rfl rfl (some 28) rfl (fun w' hw' => ?hv8) ?_
          case hv8 => (go_simp; with_reducible rfl)
          simp only [Act.put, List.setIfInBounds_toArray, List.set_cons_zero, List.set_cons_succ]
          refine mt_store_blk blkRms 10 _ rfl rfl _ _ rfl none rfl g _ rms0 rfl rfl hGx6 rfl rfl (by simp [Value.oneCell']) g (Nat.le_refl _) ?_
          intro w8 hg8 hb8 hk8 hz8
          have hK8 := hKx6.keep hk8 hb8 hge
          refine ⟨hK8, ?_⟩
          simp only [Act.put]
          refine mt_done ?_
          exact hX g w8 ca cc ba bc pa pc hg8 hge (own_keep hTx6 (fun q hq => hk8 q (own_nb hTx6 hGx6 (by decide) q hq))) (own_keep hp (fun q hq => hk8 q (own_nb hp hGx6 (by decide) q hq))) hK8
      · have hAx7 := heap_alloc_new x1 (.cells rms0 115)
        have hbx7 : Below x1.heap.size x1 (x1.alloc (.cells rms0 115)) := balloc (Below.refl _ _) _
        have hKx7 := hKx1.below hbx7
        have hTx7 := trio_now ht hbx7
        have hge := hKx1.lt
        refine mt_alloc rms0 run_alloc_rms 9 _ rfl rfl rfl (some 9) rfl ⟨hKx7, ?_⟩
        generalize x1.alloc (.cells rms0 115) = x7 at hAx7 hbx7 hKx7 hTx7 ⊢
        obtain ⟨g, hgeq⟩ : ∃ g, g = x1.heap.size := ⟨_, rfl⟩
        rw [← hgeq] at hAx7 hge ⊢
        clear hgeq
        simp only [Act.put, List.setIfInBounds_toArray, List.set_cons_zero, List.set_cons_succ]
        refine mt_call 5 _ rfl rfl 128 #[.agg #[.int .i64 n]] (some 25) rfl ?hr ?_
        case hr => go_simp
        refine (border_any n h1 h2 x7).mono ?_
        rintro e x8 ⟨v, rfl, ho, hbx8⟩
        obtain ⟨-, ba, bc, bb, rfl, hx, hr⟩ := own_shape ho
        have hx := hx.imp_right fun h => own_lt ho bb (by rw [h]; rfl)
        clear ho
        have hKx8 := hKx7.below hbx8
        have hTx8 := trio_now hTx7 hbx8
        have hGx8 := (hbx8.block g (Array.getElem?_eq_some_iff.1 hAx7).1).trans hAx7
        refine ⟨_, rfl, hKx8, ?_⟩
        simp only [Act.put, List.setIfInBounds_toArray, List.set_cons_zero, List.set_cons_succ]
        refine mt_call 6 _ rfl rfl 127 #[.slice ba (bor n (3 * n)).length bc] (some 26) rfl ?hr ?_
        case hr => go_simp
        refine (pairsAlong_any (bor n (3 * n)) ba bb _ bc x8 rfl hr hx HBL.out).mono ?_
        rintro e x9 ⟨v, rfl, hp, hbx9⟩
        rw [HPS.out] at hp
        have hp := own_lo hp hKx8.le
        obtain ⟨pa, pc, pb, rfl, -⟩ := pair_shape hp
        have hKx9 := hKx8.below hbx9
        have hTx9 := trio_now hTx8 hbx9
        have hGx9 := (hbx9.block g (Array.getElem?_eq_some_iff.1 hGx8).1).trans hGx8
        refine ⟨_, rfl, hKx9, ?_⟩
        simp only [Act.put, List.setIfInBounds_toArray, List.set_cons_zero, List.set_cons_succ]
        refine mt_take 8 _ ?_ rfl rfl (some 28) rfl (fun w' hw' => ?hv8) ?_
        case hv8 => (go_simp; with_reducible rfl)
        simp only [Act.put, List.setIfInBounds_toArray, List.set_cons_zero, List.set_cons_succ]
        refine mt_store_blk blkRms 10 _ rfl rfl _ _ rfl none rfl g _ rms0 rfl rfl hGx9 rfl rfl (by simp [Value.oneCell']) g (Nat.le_refl _) ?_
        intro w8 hg8 hb8 hk8 hz8
        have hK8 := hKx9.keep hk8 hb8 hge
        refine ⟨hK8, ?_⟩
        simp only [Act.put]
        refine mt_done ?_
        exact hX g w8 ca cc ba bc pa pc hg8 hge (own_keep hTx9 (fun q hq => hk8 q (own_nb hTx9 hGx9 (by decide) q hq))) (own_keep hp (fun q hq => hk8 q (own_nb hp hGx9 (by decide) q hq))) hK8
    · have hAx10 := heap_alloc_new w4 (.cells rms0 115)
      have hbx10 : Below w4.heap.size w4 (w4.alloc (.cells rms0 115)) := balloc (Below.refl _ _) _
      have hKx10 := hK4.below hbx10
      have hge := hK4.lt
      refine mt_alloc rms0 run_alloc_rms 9 _ rfl rfl rfl (some 9) rfl ⟨hKx10, ?_⟩
      generalize w4.alloc (.cells rms0 115) = x10 at hAx10 hbx10 hKx10 ⊢
      obtain ⟨g, hgeq⟩ : ∃ g, g = w4.heap.size := ⟨_, rfl⟩
      rw [← hgeq] at hAx10 hge ⊢
      clear hgeq
      simp only [Act.put, List.setIfInBounds_toArray, List.set_cons_zero, List.set_cons_succ]
      refine mt_call 2 _ rfl rfl 110 #[.agg #[.int .i64 n]] (some 22) rfl ?hr ?_
      case hr => go_simp
      refine (cells_any n h1 h2 x10).mono ?_
      rintro e x11 ⟨v, rfl, ht, hbx11⟩
      have ht := own_lo ht hKx10.le
      obtain ⟨-, ca, cc, cb, rfl, -⟩ := trio_shape ht
      have hKx11 := hKx10.below hbx11
      have hGx11 := (hbx11.block g (Array.getElem?_eq_some_iff.1 hAx10).1).trans hAx10
      refine ⟨_, rfl, hKx11, ?_⟩
      simp only [Act.put, List.setIfInBounds_toArray, List.set_cons_zero, List.set_cons_succ]
      refine mt_call 5 _ rfl rfl 128 #[.agg #[.int .i64 n]] (some 25) rfl ?hr ?_
      case hr => go_simp
      refine (border_any n h1 h2 x11).mono ?_
      rintro e x12 ⟨v, rfl, ho, hbx12⟩
      obtain ⟨-, ba, bc, bb, rfl, hx, hr⟩ := own_shape ho
      have hx := hx.imp_right fun h => own_lt ho bb (by rw [h]; rfl)
      clear ho
      have hKx12 := hKx11.below hbx12
      have hTx12 := trio_now ht hbx12
      have hGx12 := (hbx12.block g (Array.getElem?_eq_some_iff.1 hGx11).1).trans hGx11
      refine ⟨_, rfl, hKx12, ?_⟩
      simp only [Act.put, List.setIfInBounds_toArray, List.set_cons_zero, List.set_cons_succ]
      refine mt_call 6 _ rfl rfl 127 #[.slice ba (bor n (3 * n)).length bc] (some 26) rfl ?hr ?_
      case hr => go_simp
      refine (pairsAlong_any (bor n (3 * n)) ba bb _ bc x12 rfl hr hx HBL.out).mono ?_
      rintro e x13 ⟨v, rfl, hp, hbx13⟩
      rw [HPS.out] at hp
      have hp := own_lo hp hKx12.le
      obtain ⟨pa, pc, pb, rfl, -⟩ := pair_shape hp
      have hKx13 := hKx12.below hbx13
      have hTx13 := trio_now hTx12 hbx13
      have hGx13 := (hbx13.block g (Array.getElem?_eq_some_iff.1 hGx12).1).trans hGx12
      refine ⟨_, rfl, hKx13, ?_⟩
      simp only [Act.put, List.setIfInBounds_toArray, List.set_cons_zero, List.set_cons_succ]
      refine mt_take 8 _ ?_ rfl rfl (some 28) rfl (fun w' hw' => ?hv8) ?_
      case hv8 => (go_simp; with_reducible rfl)
      simp only [Act.put, List.setIfInBounds_toArray, List.set_cons_zero, List.set_cons_succ]
      refine mt_store_blk blkRms 10 _ rfl rfl _ _ rfl none rfl g _ rms0 rfl rfl hGx13 rfl rfl (by simp [Value.oneCell']) g (Nat.le_refl _) ?_
      intro w8 hg8 hb8 hk8 hz8
      have hK8 := hKx13.keep hk8 hb8 hge
      refine ⟨hK8, ?_⟩
      simp only [Act.put]
      refine mt_done ?_
      exact hX g w8 ca cc ba bc pa pc hg8 hge (own_keep hTx13 (fun q hq => hk8 q (own_nb hTx13 hGx13 (by decide) q hq))) (own_keep hp (fun q hq => hk8 q (own_nb hp hGx13 (by decide) q hq))) hK8
  case main =>
    intro g w8 ca cc ba bc pa pc hg8 hge hT hP hK
    have hv : RmsV w8 w.heap.size (ci n) (bps n (3 * n)) (.func (.func 126) #[] (capD g1)) #[.slice ca (ci n).length cc, .slice pa (bps n (3 * n)).length pc, .func (.func 126) #[] (capD g1)] := ⟨ca, cc, pa, pc, rfl, hT, hP⟩
    have hlab8 := hK.lab
    rw [← HCS.out] at hlab8
    have hrm := rmw_ci HLB.out hlab8 hK.lt hv
    have hres8 := hK.res
    have hl8 := hK.lab
    have ho8 : (#[.slice ca (ci n).length cc, .slice pa (bps n (3 * n)).length pc, .func (.func 126) #[] (capD g1)] : Array Value).all (·.oneCell') = true := by simp [Value.oneCell']
    have hLR := lrA_size hsz (r := #[.slice ca (ci n).length cc, .slice pa (bps n (3 * n)).length pc, .func (.func 126) #[] (capD g1)]) rfl
    have hL1 := lrA_one hone ho8
    generalize hrr : (#[.slice ca (ci n).length cc, .slice pa (bps n (3 * n)).length pc, .func (.func 126) #[] (capD g1)] : Array Value) = r at hg8 hrm ho8 hLR hL1
    have hrs : r.size = 3 := by rw [← hrr]; rfl
    clear hrr hv hT hP
    go_wp2_with (first
      | ((with_reducible refine load_blk blkLb ?_ _ rfl g1 ?_ cs hl8 hsz ?_); exact rfl; exact rfl; simp only [Act.put, List.setIfInBounds_toArray, List.set_cons_zero, List.set_cons_succ])
      | ((with_reducible refine load_blk blkRms ?_ _ rfl g ?_ r hg8 hrs ?_); exact rfl; exact rfl; simp only [Act.put, List.setIfInBounds_toArray, List.set_cons_zero, List.set_cons_succ])
      | ((with_reducible refine build_lr rfl _ _ rfl cs r hsz hrs ?_ ?_ ?_); exact rfl; exact rfl; simp only [Act.put, List.setIfInBounds_toArray, List.set_cons_zero, List.set_cons_succ])
      | ((with_reducible refine store_blk blkLR rfl _ _ rfl w.heap.size (lrA cs r) lr0 ?_ ?_ hres8 lr0_size hLR hL1 w.heap.size (Nat.le_refl _) ?_); exact rfl; exact rfl; intro w9 hg9 hb9 hk9 hs9))
    have hlt8 := hK.lt
    refine bodyPost_ret (results_blk blkLR rfl _ _ w.heap.size _ _ rfl rfl hg9 hLR) rfl ⟨_, rfl, ⟨g1, r, by rw [HCS.out], ?_, by rw [HCS.out]; exact (hk9 g1 (by have := hK.le0; omega)).trans hl8, by omega⟩, hK.old.trans hb9⟩
    have hv9 : RmsV w9 w.heap.size (ci n) (bps n (3 * n)) (.func (.func 126) #[] (capD g1)) r := by
      obtain ⟨ca', cc', ba', bc', e, hT, hP⟩ := hrm.v
      exact ⟨ca', cc', ba', bc', e, own_keep hT (fun q hq => hk9 q (own_nb hT hres8 (by decide) q hq)), own_keep hP (fun q hq => hk9 q (own_nb hP hres8 (by decide) q hq))⟩
    refine rmw_ci HLB.out (by rw [HCS.out]; exact (hk9 g1 (by omega)).trans hl8) (by omega) hv9
end Go.Proofs.Ytelchpdlfedleaa
