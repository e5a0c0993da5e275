import Derived.Test.YtianmmjjcegkjaaDoorHp
namespace Go.Proofs.YtianmmjjcegkjaaDoor
open Go.RowKit
set_option maxRecDepth 4000
/-- A spread as the program keeps it. -/
def spA (n m : Nat) (L : Int) (lf op ow : Value) (sg s : Nat) (nv lv : Value) : Array Value := #[.int .i64 n, .int .i64 m, .int .i64 L, lf, op, ow, .slice (some ⟨sg, 0, none⟩) s s, nv, lv]
def seenA (f : Nat → Bool) (s : Nat) : Array Value := ((List.range s).map fun x => Value.bool (f x)).toArray
theorem seenA_at (f : Nat → Bool) {s j : Nat} (h : j < s) : (seenA f s)[j]? = some (.bool (f j)) := by simp [seenA, h]
theorem seenA_size (f : Nat → Bool) (s : Nat) : (seenA f s).size = s := by simp [seenA]
theorem seenA_put (f : Nat → Bool) {s j : Nat} (h : j < s) : seenA (Net.upd f j) s = ((seenA f s).toList.take j ++ (Value.bool true).cells.toList ++ (seenA f s).toList.drop (j + 1)).toArray := by
  have e : (seenA f s).toList.take j ++ (Value.bool true).cells.toList ++ (seenA f s).toList.drop (j + 1) = (seenA f s).toList.set j (.bool true) := by
    rw [List.set_eq_take_append_cons_drop, if_pos (by simpa [seenA] using h)]
    simp [Value.cells]
  rw [e]
  apply Array.ext'
  simp only [seenA]
  apply List.ext_getElem?
  intro i
  rw [List.getElem?_set]
  by_cases hi : j = i
  · subst hi
    simp [Net.upd, h]
  · rw [if_neg hi]
    by_cases hs : i < s
    · simp [Net.upd, hs, show i ≠ j from fun e => hi e.symm]
    · simp [hs]
/-- A spread in memory: its own block, the row of the places come to, and both queues, none of them in another's block. -/
structure SpM (w : World) (B g sg n m s : Nat) (L : Int) (lf op ow nv lv : Value) (σ : Net.Sp) : Prop where
  obj : w.heap[g]? = some (.cells (spA n m L lf op ow sg s nv lv) 50 (0, 0))
  seen : w.heap[sg]? = some (.cells (seenA σ.seen s) 4 (0, 0))
  now : OwnQ w B nv (ints σ.now)
  later : OwnQ w B lv (ints σ.later)
  gB : B ≤ g
  sB : B ≤ sg
  gs : g ≠ sg
  ng : nv.ownBlock ≠ some g
  ns : nv.ownBlock ≠ some sg
  lg : lv.ownBlock ≠ some g
  ls : lv.ownBlock ≠ some sg
  nl : ∀ k, nv.ownBlock = some k → lv.ownBlock ≠ some k
section
variable {w w' : World} {B g sg n m s : Nat} {L : Int} {lf op ow nv lv : Value} {σ : Net.Sp}
theorem SpM.gl (h : SpM w B g sg n m s L lf op ow nv lv σ) : g < w.heap.size := (Array.getElem?_eq_some_iff.1 h.obj).1
theorem SpM.sl (h : SpM w B g sg n m s L lf op ow nv lv σ) : sg < w.heap.size := (Array.getElem?_eq_some_iff.1 h.seen).1
theorem SpM.below (h : SpM w B g sg n m s L lf op ow nv lv σ) (hb : Below w.heap.size w w') : SpM w' B g sg n m s L lf op ow nv lv σ :=
  ⟨(hb.block _ h.gl).trans h.obj, (hb.block _ h.sl).trans h.seen, q_now h.now hb, q_now h.later hb, h.gB, h.sB, h.gs, h.ng, h.ns, h.lg, h.ls, h.nl⟩
/-- A place seen. -/
theorem SpM.mark (h : SpM w B g sg n m s L lf op ow nv lv σ) {j : Nat} (hg : w'.heap[sg]? = some (.cells (seenA (Net.upd σ.seen j) s) 4 (0, 0))) (hk : ∀ k, k ≠ sg → w'.heap[k]? = w.heap[k]?) : SpM w' B g sg n m s L lf op ow nv lv ⟨Net.upd σ.seen j, σ.now, σ.later⟩ :=
  ⟨(hk _ h.gs).trans h.obj, hg, q_keep h.now (fun k hk' => hk k (fun e => h.ns (hk'.trans (by rw [e])))), q_keep h.later (fun k hk' => hk k (fun e => h.ls (hk'.trans (by rw [e])))), h.gB, h.sB, h.gs, h.ng, h.ns, h.lg, h.ls, h.nl⟩
/-- One place more in the first queue. -/
theorem SpM.addNow {w1 : World} (h : SpM w B g sg n m s L lf op ow nv lv σ) {j : Nat} {v' : Value} (hq : OwnQ w1 B v' (ints (σ.now ++ [j]))) (hk : ∀ q, q < w.heap.size → nv.ownBlock ≠ some q → w1.heap[q]? = w.heap[q]?) (hv : v'.ownBlock = nv.ownBlock ∨ ∃ x, v'.ownBlock = some x ∧ w.heap.size ≤ x)
    (hg : w'.heap[g]? = some (.cells (spA n m L lf op ow sg s v' lv) 50 (0, 0))) (hk2 : ∀ q, q ≠ g → w'.heap[q]? = w1.heap[q]?) : SpM w' B g sg n m s L lf op ow v' lv ⟨σ.seen, σ.now ++ [j], σ.later⟩ := by
  have hno : ∀ q, q < w.heap.size → nv.ownBlock ≠ some q → v'.ownBlock ≠ some q := fun q hq' hn e => by
    rcases hv with hv | ⟨x, hx, hlt⟩
    · exact hn (hv ▸ e)
    · rw [hx] at e; injection e with e; omega
  refine ⟨hg, (hk2 _ h.gs.symm).trans ((hk _ h.sl h.ns).trans h.seen), q_keep hq (fun k hk' => hk2 k (fun e => hno g h.gl h.ng (hk'.trans (by rw [e])))), q_keep h.later (fun k hk' => ?_), h.gB, h.sB, h.gs, hno g h.gl h.ng, hno sg h.sl h.ns, h.lg, h.ls, fun k hk' e => ?_⟩
  · exact (hk2 k (fun e => h.lg (hk'.trans (by rw [e])))).trans (hk k (q_lt h.later k hk').2 (fun e => h.nl k e hk'))
  · exact hno k (q_lt h.later k e).2 (fun e2 => h.nl k e2 e) hk'
/-- One place more in the second queue. -/
theorem SpM.addLater {w1 : World} (h : SpM w B g sg n m s L lf op ow nv lv σ) {j : Nat} {v' : Value} (hq : OwnQ w1 B v' (ints (σ.later ++ [j]))) (hk : ∀ q, q < w.heap.size → lv.ownBlock ≠ some q → w1.heap[q]? = w.heap[q]?) (hv : v'.ownBlock = lv.ownBlock ∨ ∃ x, v'.ownBlock = some x ∧ w.heap.size ≤ x)
    (hg : w'.heap[g]? = some (.cells (spA n m L lf op ow sg s nv v') 50 (0, 0))) (hk2 : ∀ q, q ≠ g → w'.heap[q]? = w1.heap[q]?) : SpM w' B g sg n m s L lf op ow nv v' ⟨σ.seen, σ.now, σ.later ++ [j]⟩ := by
  have hno : ∀ q, q < w.heap.size → lv.ownBlock ≠ some q → v'.ownBlock ≠ some q := fun q hq' hn e => by
    rcases hv with hv | ⟨x, hx, hlt⟩
    · exact hn (hv ▸ e)
    · rw [hx] at e; injection e with e; omega
  refine ⟨hg, (hk2 _ h.gs.symm).trans ((hk _ h.sl h.ls).trans h.seen), q_keep h.now (fun k hk' => ?_), q_keep hq (fun k hk' => hk2 k (fun e => hno g h.gl h.lg (hk'.trans (by rw [e])))), h.gB, h.sB, h.gs, h.ng, h.ns, hno g h.gl h.lg, hno sg h.sl h.ls, fun k hk' e => ?_⟩
  · exact (hk2 k (fun e => h.ng (hk'.trans (by rw [e])))).trans (hk k (q_lt h.now k hk').2 (h.nl k hk'))
  · exact hno k (q_lt h.now k hk').2 (h.nl k hk') e
end
theorem sp_put7 (n m : Nat) (L : Int) (lf op ow : Value) (sg s : Nat) (nv lv : Value) (a : Option Addr) (k c : Nat) : spA n m L lf op ow sg s (.slice a k c) lv = ((spA n m L lf op ow sg s nv lv).toList.take 7 ++ (Value.slice a k c).cells.toList ++ (spA n m L lf op ow sg s nv lv).toList.drop (7 + 1)).toArray := rfl
theorem sp_put8 (n m : Nat) (L : Int) (lf op ow : Value) (sg s : Nat) (nv lv : Value) (a : Option Addr) (k c : Nat) : spA n m L lf op ow sg s nv (.slice a k c) = ((spA n m L lf op ow sg s nv lv).toList.take 8 ++ (Value.slice a k c).cells.toList ++ (spA n m L lf op ow sg s nv lv).toList.drop (8 + 1)).toArray := rfl
theorem spA_size (n m : Nat) (L : Int) (lf op ow : Value) (sg s : Nat) (nv lv : Value) : (spA n m L lf op ow sg s nv lv).size = 9 := rfl
theorem come_seen (G : Net) (σ : Net.Sp) (j : Nat) (h : σ.seen j = true) : G.come σ j = σ := by simp [Net.come, h]
theorem come_shut (G : Net) (σ : Net.Sp) (j : Nat) (h : G.op j = false) : G.come σ j = σ := by simp [Net.come, h]
theorem come_own (G : Net) (σ : Net.Sp) (j : Nat) (h : σ.seen j = false) (h2 : G.op j = true) (h3 : G.own j = true) : G.come σ j = ⟨Net.upd σ.seen j, σ.now ++ [j], σ.later⟩ := by simp [Net.come, h, h2, h3]
theorem come_free (G : Net) (σ : Net.Sp) (j : Nat) (h : σ.seen j = false) (h2 : G.op j = true) (h3 : G.own j = false) : G.come σ j = ⟨Net.upd σ.seen j, σ.now, σ.later ++ [j]⟩ := by simp [Net.come, h, h2, h3]
theorem results_void {fn : Func} (h : fn.results = #[]) (tmps : Array Value) (w : World) : (results fn tmps).run Tryd.prog w = .ok (.tuple #[]) w := by
  simp [results, h]
/-- A block that is no spread's. -/
def For (w : World) (g sg : Nat) (nv lv : Value) (q : Nat) : Prop := q < w.heap.size ∧ q ≠ g ∧ q ≠ sg ∧ nv.ownBlock ≠ some q ∧ lv.ownBlock ≠ some q
theorem for_size {w w' : World} {g sg q : Nat} {nv lv : Value} (h : For w g sg nv lv q) (hz : w.heap.size ≤ w'.heap.size) : For w' g sg nv lv q := ⟨Nat.lt_of_lt_of_le h.1 hz, h.2⟩
theorem for_later {w w3 w6 : World} {g sg q : Nat} {nv lv v' : Value} (h : For w g sg nv lv q) (hz : w.heap.size ≤ w3.heap.size) (hz6 : w3.heap.size ≤ w6.heap.size) (hv : v'.ownBlock = lv.ownBlock ∨ ∃ x, v'.ownBlock = some x ∧ w3.heap.size ≤ x) : For w6 g sg nv v' q := by
  refine ⟨by have := h.1; omega, h.2.1, h.2.2.1, h.2.2.2.1, fun e => ?_⟩
  rcases hv with hv | ⟨x, hx, hlt⟩
  · exact h.2.2.2.2 (hv ▸ e)
  · rw [hx] at e; injection e with e; have := h.1; omega
theorem for_now {w w3 w6 : World} {g sg q : Nat} {nv lv v' : Value} (h : For w g sg nv lv q) (hz : w.heap.size ≤ w3.heap.size) (hz6 : w3.heap.size ≤ w6.heap.size) (hv : v'.ownBlock = nv.ownBlock ∨ ∃ x, v'.ownBlock = some x ∧ w3.heap.size ≤ x) : For w6 g sg v' lv q := by
  refine ⟨by have := h.1; omega, h.2.1, h.2.2.1, fun e => ?_, h.2.2.2.2⟩
  rcases hv with hv | ⟨x, hx, hlt⟩
  · exact h.2.2.2.1 (hv ▸ e)
  · rw [hx] at e; injection e with e; have := h.1; omega
/-- What a place's coming leaves. -/
def Came (w : World) (B g sg n m s : Nat) (L : Int) (lf op ow nv lv : Value) (σ : Net.Sp) (e : Ending) (w' : World) : Prop := e = .returned (.tuple #[]) ∧ (∃ nv' lv', SpM w' B g sg n m s L lf op ow nv' lv' σ ∧ ∀ q, For w g sg nv lv q → w'.heap[q]? = w.heap[q]? ∧ For w' g sg nv' lv' q) ∧ Below B w w'
set_option maxHeartbeats 3200000 in
theorem come_any (n m s j B g sg bb pb fl : Nat) (L : Int) (xs : List Int) (p : Int) (nv lv : Value) (σ : Net.Sp) (w : World) (hS : SpM w B g sg n m s L (lnF fl n m) (opF 21 bb pb) (opF 23 bb pb) nv lv σ)
    (hM : HexM w bb pb n m xs p) (hbb : bb < B) (hpb : pb < B) (hp : 1 ≤ p ∧ p ≤ 2) (hl : xs.length = s) (h30 : s ≤ 30) (hj : j < s) (hA : allB 0 2 xs = true) (h1 : σ.now.length ≤ 1000) (h2 : σ.later.length ≤ 1000) :
    Calls Tryd.prog 27 #[.pointer (some ⟨g, 0, none⟩), .int .i64 j] w (Came w B g sg n m s L (lnF fl n m) (opF 21 bb pb) (opF 23 bb pb) nv lv ((hNet n m s xs p).come σ j)) := by
  have hBs : B ≤ w.heap.size := Nat.le_of_lt (Nat.lt_of_le_of_lt hS.gB hS.gl)
  have q6 := blk_cell hS.obj 6 (.slice (some ⟨sg, 0, none⟩) s s) rfl
  have q4 := blk_cell hS.obj 4 (opF 21 bb pb) rfl
  have qs := blk_cell hS.seen j _ (seenA_at σ.seen hj)
  have hji : (j : Int) < (s : Int) := by omega
  have HOP := Lib.hid (fun w' (hb : Below B w w') => isOpen_any n m j bb pb xs p hp w' (hexM_now hM hbb hpb hb) (by omega) (by omega))
  have HOW := Lib.hid (fun w' (hb : Below B w w') => isOwn_any n m j bb pb xs p w' (hexM_now hM hbb hpb hb) (by omega) (by omega))
  cases hse : σ.seen j
  · rw [hse] at qs
    obtain ⟨l0, l2⟩ := allB_at hA j (by omega)
    cases hop : (xs.getD j 0 != 3 - p)
    · have HC := Lib.hid (come_shut (hNet n m s xs p) σ j hop)
      rw [hop] at HOP
      rw [HC.out]
      have HS := Lib.hid hS
      clear hS hM hse hop hA
      unfold opF at q4
      go_enter Tryd.func27, Tryd.ntmps27
      go_wp2_with fail
      refine (HOP.out w (Below.refl _ _)).mono ?_
      rintro e w1 ⟨rfl, hb1⟩
      go_wp2_with fail
      exact bodyPost_ret (results_void rfl _ _) rfl ⟨rfl, ⟨_, _, HS.out.below hb1, fun q hq => ⟨hb1.block q hq.1, for_size hq hb1.size⟩⟩, hb1.mono hBs⟩
    · rw [hop] at HOP
      obtain ⟨na, nc, hnv⟩ := q_shape hS.now
      obtain ⟨la, lc, hlv⟩ := q_shape hS.later
      subst hnv hlv
      have HS := Lib.hid hS
      have hgs := hS.gs
      have hsl := hS.sl
      have hgl := hS.gl
      have hBg := hS.gB
      have hBsg := hS.sB
      unfold opF at q4
      cases how : (xs.getD j 0 == p)
      · have HC := Lib.hid (come_free (hNet n m s xs p) σ j hse hop (by
          show (xs.getD j 0 != 0) = false
          have e1 := bne_iff_ne.1 hop
          have e2 := ne_of_beq_false how
          have e3 : xs.getD j 0 = 0 := by omega
          rw [e3]
          rfl))
        rw [how] at HOW
        clear hS hM hse hop how hA l0 l2
        rw [HC.out]
        go_enter Tryd.func27, Tryd.ntmps27
        go_wp2_with fail
        refine (HOP.out w (Below.refl _ _)).mono ?_
        rintro e w1 ⟨rfl, hb1⟩
        have hs1 := hb1.size
        have HS1 := Lib.hid (HS.out.below hb1)
        have q6b := blk_cell HS1.out.obj 6 (.slice (some ⟨sg, 0, none⟩) s s) rfl
        have hsg1 := HS1.out.seen
        go_wp2_with ((with_reducible refine store_win szBool rfl _ _ rfl sg j (.bool true) (seenA σ.seen s) (seenA (Net.upd σ.seen j) s) ?_ ?_ hsg1 (cells_bool _) ?_ (seenA_put _ hj) (one_bool _) B (by omega) ?_); exact rfl; exact rfl; rw [seenA_size]; omega; intro w2 hg2 hb2 hk2 hs2; have HS2 := Lib.hid (HS1.out.mark hg2 hk2); have q5c := blk_cell HS2.out.obj 5 (opF 23 bb pb) rfl; unfold opF at q5c)
        have hB2 := (hb1.mono hBs).trans hb2
        refine (HOW.out w2 hB2).mono ?_
        rintro e w3 ⟨rfl, hb3⟩
        have HS3 := Lib.hid (HS2.out.below hb3)
        have hs3 := hb3.size
        have q8d := blk_cell HS3.out.obj 8 (.slice la (ints σ.later).length lc) rfl
        have hBs3 : B ≤ w3.heap.size := by omega
        have hB3 := hB2.trans (hb3.mono (by omega))
        have hil : (ints σ.later).length ≤ 1000 := by rw [ints_len]; exact h2
        go_wp2_with (first
          | (at_builtin; go_loud (refine q_app B w3 _ (ints σ.later) j rfl _ _ rfl rfl rfl HS3.out.later hBs3 (by omega) ?_; intro v' w5 hq5 hk5 hz5 hv5 hb5; rw [← ints_app] at hq5; obtain ⟨va, vc, hsh⟩ := q_shape hq5; subst hsh; have hg5 := (hk5 g HS3.out.gl HS3.out.lg).trans HS3.out.obj))
          | ((with_reducible refine store_win szInts rfl _ _ rfl g 8 (.slice va (ints (σ.later ++ [j])).length vc) (spA n m L (lnF fl n m) (opF 21 bb pb) (opF 23 bb pb) sg s (.slice na (ints σ.now).length nc) (.slice la (ints σ.later).length lc)) (spA n m L (lnF fl n m) (opF 21 bb pb) (opF 23 bb pb) sg s (.slice na (ints σ.now).length nc) (.slice va (ints (σ.later ++ [j])).length vc)) ?_ ?_ hg5 (cells_slice _ _ _) ?_ (sp_put8 _ _ _ _ _ _ _ _ _ _ _ _ _) (one_slice _ _ _) B (by omega) ?_); exact rfl; exact rfl; rw [spA_size]; omega; intro w6 hg6 hb6 hk6 hs6))
        exact bodyPost_ret (results_void rfl _ _) rfl ⟨rfl, ⟨_, _, HS3.out.addLater hq5 hk5 hv5 hg6 hk6, fun q hq => ⟨(hk6 q hq.2.1).trans ((hk5 q (by have := hq.1; omega) hq.2.2.2.2).trans ((hb3.block q (by have := hq.1; omega)).trans ((hk2 q hq.2.2.1).trans (hb1.block q hq.1)))), for_later hq (by omega) (by omega) hv5⟩⟩, (hB3.trans hb5).trans hb6⟩
      · have HC := Lib.hid (come_own (hNet n m s xs p) σ j hse hop (by
          show (xs.getD j 0 != 0) = true
          rw [eq_of_beq how]
          exact bne_iff_ne.2 (by omega)))
        rw [how] at HOW
        clear hS hM hse hop how hA l0 l2
        rw [HC.out]
        go_enter Tryd.func27, Tryd.ntmps27
        go_wp2_with fail
        refine (HOP.out w (Below.refl _ _)).mono ?_
        rintro e w1 ⟨rfl, hb1⟩
        have hs1 := hb1.size
        have HS1 := Lib.hid (HS.out.below hb1)
        have q6b := blk_cell HS1.out.obj 6 (.slice (some ⟨sg, 0, none⟩) s s) rfl
        have hsg1 := HS1.out.seen
        go_wp2_with ((with_reducible refine store_win szBool rfl _ _ rfl sg j (.bool true) (seenA σ.seen s) (seenA (Net.upd σ.seen j) s) ?_ ?_ hsg1 (cells_bool _) ?_ (seenA_put _ hj) (one_bool _) B (by omega) ?_); exact rfl; exact rfl; rw [seenA_size]; omega; intro w2 hg2 hb2 hk2 hs2; have HS2 := Lib.hid (HS1.out.mark hg2 hk2); have q5c := blk_cell HS2.out.obj 5 (opF 23 bb pb) rfl; unfold opF at q5c)
        have hB2 := (hb1.mono hBs).trans hb2
        refine (HOW.out w2 hB2).mono ?_
        rintro e w3 ⟨rfl, hb3⟩
        have HS3 := Lib.hid (HS2.out.below hb3)
        have hs3 := hb3.size
        have q7d := blk_cell HS3.out.obj 7 (.slice na (ints σ.now).length nc) rfl
        have hBs3 : B ≤ w3.heap.size := by omega
        have hB3 := hB2.trans (hb3.mono (by omega))
        have hil : (ints σ.now).length ≤ 1000 := by rw [ints_len]; exact h1
        go_wp2_with (first
          | (at_builtin; go_loud (refine q_app B w3 _ (ints σ.now) j rfl _ _ rfl rfl rfl HS3.out.now hBs3 (by omega) ?_; intro v' w5 hq5 hk5 hz5 hv5 hb5; rw [← ints_app] at hq5; obtain ⟨va, vc, hsh⟩ := q_shape hq5; subst hsh; have hg5 := (hk5 g HS3.out.gl HS3.out.ng).trans HS3.out.obj))
          | ((with_reducible refine store_win szInts rfl _ _ rfl g 7 (.slice va (ints (σ.now ++ [j])).length vc) (spA n m L (lnF fl n m) (opF 21 bb pb) (opF 23 bb pb) sg s (.slice na (ints σ.now).length nc) (.slice la (ints σ.later).length lc)) (spA n m L (lnF fl n m) (opF 21 bb pb) (opF 23 bb pb) sg s (.slice va (ints (σ.now ++ [j])).length vc) (.slice la (ints σ.later).length lc)) ?_ ?_ hg5 (cells_slice _ _ _) ?_ (sp_put7 _ _ _ _ _ _ _ _ _ _ _ _ _) (one_slice _ _ _) B (by omega) ?_); exact rfl; exact rfl; rw [spA_size]; omega; intro w6 hg6 hb6 hk6 hs6))
        exact bodyPost_ret (results_void rfl _ _) rfl ⟨rfl, ⟨_, _, HS3.out.addNow hq5 hk5 hv5 hg6 hk6, fun q hq => ⟨(hk6 q hq.2.1).trans ((hk5 q (by have := hq.1; omega) hq.2.2.2.1).trans ((hb3.block q (by have := hq.1; omega)).trans ((hk2 q hq.2.2.1).trans (hb1.block q hq.1)))), for_now hq (by omega) (by omega) hv5⟩⟩, (hB3.trans hb5).trans hb6⟩
  · rw [hse] at qs
    have HC := Lib.hid (come_seen (hNet n m s xs p) σ j hse)
    rw [HC.out]
    have HS := Lib.hid hS
    clear hS hM hse
    unfold opF at q4
    go_enter Tryd.func27, Tryd.ntmps27
    go_wp2_with fail
    exact bodyPost_ret (results_void rfl _ _) rfl ⟨rfl, ⟨_, _, HS.out, fun q hq => ⟨rfl, hq⟩⟩, Below.refl _ _⟩
end Go.Proofs.YtianmmjjcegkjaaDoor
