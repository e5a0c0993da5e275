import Derived.Test.YtianmmjjcegkjaaDoorHs
import Derived.Test.YtianmmjjcegkjaaDoorJa
import Derived.Test.YtianmmjjcegkjaaDoorHu
import Derived.Test.YtianmmjjcegkjaaDoorHi
import Derived.WalkMore
namespace Go.Proofs.YtianmmjjcegkjaaDoor
open Go.RowKit
set_option maxRecDepth 4000
section
variable {w w' : World} {B g sg n m s : Nat} {L : Int} {lf op ow nv lv : Value} {σ : Net.Sp}
/-- The first queue without its first. -/
theorem SpM.pop (h : SpM w B g sg n m s L lf op ow nv lv σ) {v' : Value} {rest : List Nat} (hq : OwnQ w B v' (ints rest)) (hv : v'.ownBlock = nv.ownBlock)
    (hg : w'.heap[g]? = some (.cells (spA n m L lf op ow sg s v' lv) 50 (0, 0))) (hk : ∀ q, q ≠ g → w'.heap[q]? = w.heap[q]?) : SpM w' B g sg n m s L lf op ow v' lv ⟨σ.seen, rest, σ.later⟩ :=
  ⟨hg, (hk _ h.gs.symm).trans h.seen, q_keep hq (fun k hk' => hk k (fun e => h.ng ((hv.symm.trans hk').trans (by rw [e])))), q_keep h.later (fun k hk' => hk k (fun e => h.lg (hk'.trans (by rw [e])))), h.gB, h.sB, h.gs, hv ▸ h.ng, hv ▸ h.ns, h.lg, h.ls, fun k e => h.nl k (hv ▸ e)⟩
/-- The second queue made the first. -/
theorem SpM.swap (h : SpM w B g sg n m s L lf op ow nv lv σ) (hg : w'.heap[g]? = some (.cells (spA n m L lf op ow sg s lv (.slice none 0 0)) 50 (0, 0))) (hk : ∀ q, q ≠ g → w'.heap[q]? = w.heap[q]?) : SpM w' B g sg n m s L lf op ow lv (.slice none 0 0) ⟨σ.seen, σ.later, []⟩ :=
  ⟨hg, (hk _ h.gs.symm).trans h.seen, q_keep h.later (fun k hk' => hk k (fun e => h.lg (hk'.trans (by rw [e])))), q_nil _ _, h.gB, h.sB, h.gs, h.lg, h.ls, by simp [Value.ownBlock], by simp [Value.ownBlock], fun _ _ => by simp [Value.ownBlock]⟩
end
def slLen : Option Value → Nat
  | some (.slice _ m _) => m
  | _ => 0
def seenAt (w : World) (sg x : Nat) : Bool := match w.cell? ⟨sg, x, none⟩ with | some (.bool b) => b | _ => false
/-- What shrinks, as memory tells it. -/
def muAt (w : World) (g sg s : Nat) : Nat := 3 * (s - Net.cntF (seenAt w sg) s) + 2 * slLen (w.cell? ⟨g, 8, none⟩) + slLen (w.cell? ⟨g, 7, none⟩)
theorem cntF_congr {f h : Nat → Bool} : ∀ k, (∀ x, x < k → f x = h x) → Net.cntF f k = Net.cntF h k
  | 0, _ => rfl
  | k + 1, H => by rw [Net.cntF, Net.cntF, cntF_congr k (fun x hx => H x (by omega)), H k (by omega)]
theorem muAt_eq {w : World} {B g sg n m s : Nat} {L : Int} {lf op ow nv lv : Value} {σ : Net.Sp} (h : SpM w B g sg n m s L lf op ow nv lv σ) (xs : List Int) (p : Int) : muAt w g sg s = (hNet n m s xs p).mu σ := by
  have h7 := blk_cell h.obj 7 nv rfl
  have h8 := blk_cell h.obj 8 lv rfl
  obtain ⟨a, c, hv⟩ := q_shape h.now
  obtain ⟨a2, c2, hv2⟩ := q_shape h.later
  have hc : Net.cntF (seenAt w sg) s = Net.cntF σ.seen s := cntF_congr s fun x hx => by
    unfold seenAt
    rw [blk_cell h.seen x _ (seenA_at σ.seen hx)]
  unfold muAt
  rw [h7, h8, hv, hv2, hc]
  simp only [slLen, ints_len]
  rfl
theorem wrap_add (a b : Nat) (h : a ≤ 90) (h2 : b ≤ 90) : IntKind.i64.wrap ((a : Int) + (b : Int)) = (a : Int) + (b : Int) ∧ wrap64 ((a : Int) + (b : Int)) = (a : Int) + (b : Int) :=
  ⟨IntWalk.i64_in _ ⟨by omega, by omega⟩, IntWalk.wrap64_in _ ⟨by omega, by omega⟩⟩
theorem swap_mu (G : Net) (σ : Net.Sp) (h : σ.now = []) : G.mu ⟨σ.seen, σ.later, []⟩ + σ.later.length = G.mu σ := by
  unfold Net.mu
  rw [h]
  simp only [Net.cnt, List.length_nil]
  omega
theorem next_le {k a b : Nat} (h : a < b) (h2 : k + b ≤ 90) : k + 1 + a ≤ 90 := by omega
theorem lt_of_sum {a b c d : Nat} (h : a + b = c) (hb : b ≠ 0) (h2 : c ≤ d) : a < d := by omega
theorem wrap_one (k : Nat) (h : k ≤ 90) : IntKind.i64.wrap ((k : Int) + 1) = ((k + 1 : Nat) : Int) ∧ wrap64 ((k : Int) + 1) = ((k + 1 : Nat) : Int) := by
  rw [IntWalk.i64_in _ ⟨by omega, by omega⟩, IntWalk.wrap64_in _ ⟨by omega, by omega⟩]
  exact ⟨by omega, by omega⟩
theorem not_both {A B : List Nat} {a b : Nat} (ha : A.length = a) (hb : B.length = b) (h : 0 < a + b) : ¬ (A = [] ∧ B = []) := fun e => by
  obtain ⟨rfl, rfl⟩ := e
  simp at ha hb
  omega
theorem own_new {w : World} {base n : Nat} {et : TypeId} {v : Value} {xs : List Int} (h : w.ownsRow base et 1 v n (xs.map (Value.int .i64))) : n = xs.length ∧ ∃ a cap b, v = .slice a n cap ∧ (xs.length = 0 ∨ (base ≤ b ∧ b < w.heap.size)) ∧ Rd w a b 0 xs := by
  obtain ⟨hn, a, cap, b, rfl, ha, hr⟩ := own_shape h
  refine ⟨hn, a, cap, b, rfl, ?_, hr⟩
  by_cases hx : xs.length = 0
  · exact .inl hx
  · have ha2 := (hr.2 0 (by omega)).1
    subst ha2
    obtain ⟨cur, hg, -, hlo⟩ := own_obj h
    exact .inr ⟨hlo, (Array.getElem?_eq_some_iff.1 hg).1⟩
theorem fold_take (G : Net) (σ : Net.Sp) (js : List Nat) (k : Nat) (h : k < js.length) : (js.take (k + 1)).foldl G.come σ = G.come ((js.take k).foldl G.come σ) (js.getD k 0) := by
  have e : js.take (k + 1) = js.take k ++ [js.getD k 0] := by
    rw [List.take_add_one, List.getD, List.getElem?_eq_getElem h]
    rfl
  rw [e, List.foldl_append]
  rfl
theorem pop_mu (G : Net) (σ : Net.Sp) (i : Nat) (rest : List Nat) (h : σ.now = i :: rest) : G.mu ⟨σ.seen, rest, σ.later⟩ < G.mu σ := by
  unfold Net.mu
  rw [h]
  simp only [Net.cnt, List.length_cons]
  omega
set_option maxHeartbeats 6400000 in
theorem least_any (n m s bb pb fl l : Nat) (xs : List Int) (p : Int) (line : Nat → Nat) (w : World) (h2 : 1 ≤ m) (hnm : n * m = s) (h30 : s ≤ 30) (hl : xs.length = s) (hA : allB 0 2 xs = true) (hp : 1 ≤ p ∧ p ≤ 2)
    (hM : HexM w bb pb n m xs p) (hbb : bb < w.heap.size) (hpb : pb < w.heap.size) (hv : HxV w)
    (hln : ∀ j, j < s → ∀ w' : World, Calls Tryd.prog fl #[.agg #[.int .i64 n, .int .i64 m], .int .i64 j] w' fun e w'' => e = .returned (.int .i64 (line j : Nat)) ∧ Below w'.heap.size w' w'')
    (hcf : ∀ (args : Array Value) (w : World), (callFunc fl args).run Tryd.prog w = .ok (.enter fl args) w)
    (hst : ∀ j, j < s → (line j == 0) = (hNet n m s xs p).st j) (hfn : ∀ j, j < s → (line j == l) = (hNet n m s xs p).fin j) :
    Calls Tryd.prog 19 #[.agg (schA n m l (lnF fl n m) (opF 21 bb pb) (opF 23 bb pb))] w fun e w' => (∃ o, (hNet n m s xs p).IsNeed o ∧ e = .returned (.tuple #[.int .i64 ((o.getD 0 : Nat) : Int), .bool o.isSome])) ∧ Below w.heap.size w w' := by
  have hB0 := balloc (Below.refl w.heap.size w) (.cells (schA n m l (lnF fl n m) (opF 21 bb pb) (opF 23 bb pb)) 43)
  have hg0 := heap_alloc_new w (.cells (schA n m l (lnF fl n m) (opF 21 bb pb) (opF 23 bb pb)) 43)
  have hz0 : (w.alloc (.cells (schA n m l (lnF fl n m) (opF 21 bb pb) (opF 23 bb pb)) 43)).heap.size = w.heap.size + 1 := by simp
  have hBG := Lib.hid (begin_any n m s bb pb fl l xs p line (w.alloc (.cells (schA n m l (lnF fl n m) (opF 21 bb pb) (opF 23 bb pb)) 43)) hnm h30 hl hA hp (hexM_now hM hbb hpb hB0) (by omega) (by omega) hln hcf hst)
  go_enter Tryd.func19, Tryd.ntmps19
  go_wp2_with fail
  go_step3
  go_wp2_with ((with_reducible refine load_blk blkSch ?_ _ rfl w.heap.size ?_ (schA n m l (lnF fl n m) (opF 21 bb pb) (opF 23 bb pb)) (heap_alloc_new w _) rfl ?_); exact rfl; exact rfl; simp only [Act.put, List.setIfInBounds_toArray, List.set_cons_zero, List.set_cons_succ])
  refine hBG.out.mono ?_
  rintro e w1 ⟨g, sg, nv, lv, rfl, hS, hb1⟩
  clear hBG
  rw [hz0] at hS
  have hg1 := (hb1.block w.heap.size (by omega)).trans hg0
  have hB1 := bnext hB0 hb1
  have HK := Lib.hid (fun w' (hb : Below (w.heap.size + 1) w1 w') => (⟨hexM_now hM hbb hpb (hB1.trans (hb.mono (Nat.le_succ _))), hxv_later hv (hB1.trans (hb.mono (Nat.le_succ _))), (hb.block w.heap.size (Nat.lt_succ_self _)).trans hg1⟩ : HexM w' bb pb n m xs p ∧ HxV w' ∧ w'.heap[w.heap.size]? = some (.cells (schA n m l (lnF fl n m) (opF 21 bb pb) (opF 23 bb pb)) 43 (0, 0))))
  have hI : (hNet n m s xs p).Inv ((hNet n m s xs p).beg s) 0 0 [] := Net.beg_ok (G := hNet n m s xs p)
  have hmu := beg_mu (hNet n m s xs p) s (Nat.le_refl _)
  rw [hNet_s] at hmu
  have HLN := Lib.hid hln
  have HFN := Lib.hid hfn
  have HL := Lib.hid hl
  have HA := Lib.hid hA
  have HB := Lib.hid hB1
  have HNR := Lib.hid (fun i (hi : i < s) w hv => hxNear_any n m s i h2 hnm (by omega) hi w hv)
  have HNB := Lib.hid (fun i => hNet_nb xs p h2 hnm i)
  clear hM hv hln hst hfn hl hA hg0 hg1 hB0 hB1 hb1 hz0 hnm
  go_wp2_with fail
  go_step3
  go_wp2_with fail
  go_loopw [5, 6] (fun v5 v6 wr => ∃ k : Nat, ∃ σ nv lv, v5 = .int .i64 k ∧ v6 = .bool false ∧ SpM wr (w.heap.size + 1) g sg n m s l (lnF fl n m) (opF 21 bb pb) (opF 23 bb pb) nv lv σ ∧ (hNet n m s xs p).Inv σ k 0 [] ∧ k + (hNet n m s xs p).mu σ ≤ 90 ∧ Below (w.heap.size + 1) w1 wr) (fun _ _ wr => muAt wr g sg s)
  case atStart => exact ⟨0, _, nv, lv, rfl, rfl, hS, hI, by omega, Below.refl _ _⟩
  case round =>
    clear hS hI hmu
    obtain ⟨k, σ, nv, lv, rfl, rfl, hS, hI, hmu, hB⟩ := hrel
    obtain ⟨na, nc, hnv⟩ := q_shape hS.now
    obtain ⟨la, lc, hlv⟩ := q_shape hS.later
    subst hnv hlv
    have q7 := blk_cell hS.obj 7 (.slice na (ints σ.now).length nc) rfl
    have q8 := blk_cell hS.obj 8 (.slice la (ints σ.later).length lc) rfl
    have hml := mu_len (show (hNet n m s xs p).mu σ ≤ 90 by omega)
    rw [ints_len] at q7 q8
    obtain ⟨a, ha⟩ : ∃ a, σ.now.length = a := ⟨_, rfl⟩
    obtain ⟨b, hb⟩ : ∃ b, σ.later.length = b := ⟨_, rfl⟩
    rw [ha] at q7 hml
    rw [hb] at q8 hml
    have hab0 : 0 < a + b → (0 : Int) < (a : Int) + (b : Int) := fun h => by omega
    have hab1 : ¬ 0 < a + b → ¬ (0 : Int) < (a : Int) + (b : Int) ∧ a = 0 ∧ b = 0 := fun h => by omega
    have e1 := (wrap_add a b hml.1 hml.2).1
    have e2 := (wrap_add a b hml.1 hml.2).2
    by_cases hne : 0 < a + b
    · have hnei := hab0 hne
      have HE := Lib.hid (not_both ha hb hne)
      have HSS := Lib.hid hS
      have HII := Lib.hid hI
      have HMU := Lib.hid hmu
      clear ha hb hab0 hab1 hS hI hmu
      go_wp2_with fail
      go_quiet (fail)
      go_wp2_with fail
      clear q7 q8 e1 e2 hnei hne hml
      go_loopw [6] (fun v6 wr2 => ∃ σ2 nv2 lv2, v6 = .bool false ∧ SpM wr2 (w.heap.size + 1) g sg n m s l (lnF fl n m) (opF 21 bb pb) (opF 23 bb pb) nv2 lv2 σ2 ∧ (hNet n m s xs p).Inv σ2 k 0 [] ∧ (hNet n m s xs p).mu σ2 ≤ (hNet n m s xs p).mu σ ∧ (σ2 = σ ∨ (hNet n m s xs p).mu σ2 < (hNet n m s xs p).mu σ) ∧ Below (w.heap.size + 1) w1 wr2) (fun _ wr2 => muAt wr2 g sg s)
      case atStart => exact ⟨σ, _, _, rfl, HSS.out.below ((Same.refl _).drewN _ _), HII.out, Nat.le_refl _, .inl rfl, hB.trans ((Same.refl _).drewN _ _)⟩
      case round =>
        clear hB
        obtain ⟨σ2, nv2, lv2, rfl, hS, hI, hle, hor, hB⟩ := hrel
        obtain ⟨na2, nc2, hnv⟩ := q_shape hS.now
        obtain ⟨la2, lc2, hlv⟩ := q_shape hS.later
        subst hnv hlv
        have hk90 : k ≤ 90 := Nat.le_trans (Nat.le_add_right _ _) HMU.out
        have HM2 : Hid (k + (hNet n m s xs p).mu σ2 ≤ 90) := Lib.hid (Nat.le_trans (Nat.add_le_add_left hle k) HMU.out)
        have hml2 := mu_len (Nat.le_trans (Nat.le_add_left _ k) HM2.out)
        have q7 := blk_cell hS.obj 7 (.slice na2 (ints σ2.now).length nc2) rfl
        have q8 := blk_cell hS.obj 8 (.slice la2 (ints σ2.later).length lc2) rfl
        have hgl := hS.gB
        cases hnow : σ2.now with
        | nil =>
          rw [hnow, show (ints ([] : List Nat)).length = 0 from rfl] at q7
          have HSW := Lib.hid (Net.swap_inv hI hnow)
          have hsm := swap_mu (hNet n m s xs p) σ2 hnow
          have HLT : Hid ((hNet n m s xs p).mu ⟨σ2.seen, σ2.later, []⟩ < (hNet n m s xs p).mu σ) := Lib.hid (by
            rcases hor with e | e
            · have hlr : σ2.later.length ≠ 0 := fun h0 => HE.out (by rw [← e]; exact ⟨hnow, List.eq_nil_of_length_eq_zero h0⟩)
              exact lt_of_sum hsm hlr hle
            · exact Nat.lt_of_le_of_lt (by rw [← hsm]; exact Nat.le_add_right _ _) e)
          have HS2 := Lib.hid hS
          have hobj := hS.obj
          have e3 := (wrap_one k hk90).1
          have e4 := (wrap_one k hk90).2
          clear hI hle hor hsm hS hnow
          go_wp2_with (first
            | ((with_reducible refine store_win szInts rfl _ _ rfl g 7 (.slice la2 (ints σ2.later).length lc2) (spA n m l (lnF fl n m) (opF 21 bb pb) (opF 23 bb pb) sg s (.slice na2 (ints σ2.now).length nc2) (.slice la2 (ints σ2.later).length lc2)) (spA n m l (lnF fl n m) (opF 21 bb pb) (opF 23 bb pb) sg s (.slice la2 (ints σ2.later).length lc2) (.slice la2 (ints σ2.later).length lc2)) ?_ ?_ hobj (cells_slice _ _ _) ?_ (sp_put7 _ _ _ _ _ _ _ _ _ _ _ _ _) (one_slice _ _ _) (w.heap.size + 1) hgl ?_); exact rfl; exact rfl; exact Nat.le_of_ble_eq_true rfl; intro w3 hg3 hb3 hk3 hs3)
            | ((with_reducible refine store_win szInts rfl _ _ rfl g 8 (.slice none 0 0) (spA n m l (lnF fl n m) (opF 21 bb pb) (opF 23 bb pb) sg s (.slice la2 (ints σ2.later).length lc2) (.slice la2 (ints σ2.later).length lc2)) (spA n m l (lnF fl n m) (opF 21 bb pb) (opF 23 bb pb) sg s (.slice la2 (ints σ2.later).length lc2) (.slice none 0 0)) ?_ ?_ hg3 (cells_slice _ _ _) ?_ (sp_put8 _ _ _ _ _ _ _ _ _ _ _ _ _) (one_slice _ _ _) (w.heap.size + 1) hgl ?_); exact rfl; exact rfl; exact Nat.le_of_ble_eq_true rfl; intro w4 hg4 hb4 hk4 hs4; simp only [Act.put]))
          have HS4 := HS2.out.swap hg4 (fun q hq => (hk4 q hq).trans (hk3 q hq))
          go_roundw
          case rel => exact ⟨k + 1, ⟨σ2.seen, σ2.later, []⟩, _, _, rfl, rfl, HS4, Net.inv_any HSW.out, next_le HLT.out HMU.out, (hB.trans hb3).trans hb4⟩
          case measure => rw [muAt_eq HS4 xs p, muAt_eq HSS.out xs p]; exact HLT.out
        | cons i rest =>
          have hq := hS.now
          rw [hnow] at hq q7
          have hlen : (ints (i :: rest)).length = rest.length + 1 := by rw [ints_len]; rfl
          have hrl : rest.length + 1 ≤ 90 := by have e := hml2.1; rw [hnow] at e; exact e
          have hobj := hS.obj
          rw [hnow] at hobj
          rw [hlen] at hq q7 hobj
          obtain ⟨qg, qo, rfl, qc, hc1, hcm, hqt⟩ := q_head (show OwnQ _ (w.heap.size + 1) (.slice na2 (rest.length + 1) nc2) ((i : Int) :: ints rest) from hq)
          obtain ⟨-, t0, hway, -⟩ := hI.a1 i (by rw [hnow]; exact List.mem_cons_self ..)
          have his : i < s := (Net.way_lt hway).1
          have hii : (i : Int) < (s : Int) := Int.ofNat_lt.2 his
          have h0 : (0 : Int) < ((rest.length + 1 : Nat) : Int) := Int.ofNat_lt.2 (Nat.succ_pos _)
          have HS2 := Lib.hid hS
          have HI2 := Lib.hid hI
          have HQ := Lib.hid hq
          have HNC := (show rest.length + 1 ≤ nc2 by rcases hq with ⟨e, _⟩ | ⟨g', off', cap', cur', e, _, _, _, h2', _⟩ <;> simp at e; obtain ⟨-, -, e3⟩ := e; subst e3; rw [ints_len] at h2'; exact h2')
          obtain ⟨ta, hta, hsl⟩ := slice_tail qg qo rest.length nc2 HNC
          rw [← hta] at hqt
          have hob : (Value.slice ta rest.length (nc2 - 1)).ownBlock = some qg := by rw [hta]; split <;> rfl
          have HQT := Lib.hid hqt
          clear hta HNC
          have HOR := Lib.hid hor
          have HLE := Lib.hid hle
          have hdl := ints_len rest
          rw [hdl] at HQT
          clear hI hor hle hS hq hqt hway hml2 hlen hdl hrl
          go_wp2_with ((with_reducible refine store_win szInts rfl _ _ rfl g 7 (.slice ta rest.length (nc2 - 1)) (spA n m l (lnF fl n m) (opF 21 bb pb) (opF 23 bb pb) sg s (.slice (some ⟨qg, qo, none⟩) (rest.length + 1) nc2) (.slice la2 (ints σ2.later).length lc2)) (spA n m l (lnF fl n m) (opF 21 bb pb) (opF 23 bb pb) sg s (.slice ta rest.length (nc2 - 1)) (.slice la2 (ints σ2.later).length lc2)) ?_ ?_ hobj (cells_slice _ _ _) ?_ (sp_put7 _ _ _ _ _ _ _ _ _ _ _ _ _) (one_slice _ _ _) (w.heap.size + 1) hgl ?_); exact rfl; exact rfl; exact Nat.le_of_ble_eq_true rfl; intro w3 hg3 hb3 hk3 hs3; simp only [Act.put])
          have HS3 := Lib.hid (HS2.out.pop HQT.out hob hg3 hk3)
          have hB3 := hB.trans hb3
          have hg3' := (HK.out w3 hB3).2.2
          have hgx := (Array.getElem?_eq_some_iff.1 hg3').1
          have HGB := Lib.hid (fun w' (hb : Below w3.heap.size w3 w') => sch_cells ((hb.block w.heap.size hgx).trans hg3'))
          have HNW := Lib.hid hnow
          have hfn := HFN.out i his
          clear hnow hg3' hobj q7 q8 qc hsl hgl hg3 hk3 hs3 hb3
          refine wp_region_below (by kernel_rfl) (by kernel_rfl) ?_
          intro ι hne f hbf hcl
          have m1 : ∀ t, (f t).cell? ⟨w.heap.size, 3, none⟩ = some (.func (.func fl) #[.agg #[.int .i64 n, .int .i64 m]] #[]) := fun t => (HGB.out _ (hbf t)).2.2.2.1
          have m2 : ∀ t, (f t).cell? ⟨w.heap.size, 2, none⟩ = some (.int .i64 (l : Nat)) := fun t => (HGB.out _ (hbf t)).2.2.1
          repeat (go_big_quiet_step ((with_reducible refine (HLN.out i his _).mono ?_; rintro e w' ⟨rfl, hb⟩; exact ⟨rfl, hcl _ _ hb⟩)))
          refine wpQuiet_nil ?_
          rintro _ ⟨t, rfl⟩
          have hb4 := hbf t
          clear m1 m2 hcl hbf
          generalize f t = w4 at hb4 ⊢
          clear f hne
          have HS4 := Lib.hid (HS3.out.below hb4)
          have hB4 := hB3.trans (hb4.mono hgx)
          clear hb4 hB3 hB hgx
          generalize line i = li at hfn ⊢
          cases hfi : (hNet n m s xs p).fin i
          · have hli : ((li : Int) == (l : Int)) = false := beq_eq_false_iff_ne.2 (fun e => by rw [hfi] at hfn; exact absurd (Int.ofNat_inj.1 e) (by simpa using hfn))
            have HPI := Lib.hid (Net.pop_inv HI2.out HNW.out hfi)
            have HPM := Lib.hid (pop_mu (hNet n m s xs p) σ2 i rest HNW.out)
            have HNS := Lib.hid (fun j (hj : j ∈ (hNet n m s xs p).nb i) => ((hNet n m s xs p).hnb i j hj : j < s))
            obtain ⟨c0, c1, -⟩ := sch_cells (HK.out w4 hB4).2.2
            clear hfn hfi
            go_wp2_with fail
            refine (HNR.out i his _ (HK.out w4 hB4).2.1).mono ?_
            rintro e w5 ⟨v, rfl, ho, hb5⟩
            have HS5 := Lib.hid (HS4.out.below hb5)
            have hB5 := hB4.trans (hb5.mono (Nat.succ_le_of_lt (Array.getElem?_eq_some_iff.1 (HK.out w4 hB4).2.2).1))
            rw [← HNB.out i] at ho
            obtain ⟨hln, sa, sc, sb, rfl, hsb, hrd⟩ := own_new ho
            have hF5 : ((hNet n m s xs p).nb i).length = 0 ∨ For w5 g sg (.slice ta rest.length (nc2 - 1)) (.slice la2 (ints σ2.later).length lc2) sb := by
              rw [List.length_map] at hsb
              refine hsb.imp_right fun h => ⟨h.2, fun e => ?_, fun e => ?_, fun e => ?_, fun e => ?_⟩
              · have := HS4.out.gl; omega
              · have := HS4.out.sl; omega
              · have := (q_lt HS4.out.now sb e).2; omega
              · have := (q_lt HS4.out.later sb e).2; omega
            rw [hln, List.length_map]
            clear ho hb5 hln hsb c0 c1 hB4
            generalize (hNet n m s xs p).nb i = js at HPI HNS hrd hF5 ⊢
            have hjm : js.length ≤ maxLen := by have := hrd.1; rwa [List.length_map] at this
            unfold maxLen at hjm
            have HCM := Lib.hid (fun t => Net.comes_mu (G := (hNet n m s xs p)) (js.take t) ⟨σ2.seen, rest, σ2.later⟩ (fun j hj => HNS.out j (List.mem_of_mem_take hj)))
            have HC9 := Lib.hid (fun t => mu_len (Nat.le_trans (HCM.out t) (Nat.le_trans (Nat.le_of_lt HPM.out) (Nat.le_trans (Nat.le_add_left _ k) HM2.out))))
            go_wp2_with fail
            go_loopw [56] (fun v56 wr3 => ∃ t : Nat, ∃ nv3 lv3, t ≤ js.length ∧ v56 = .int .i64 t ∧ SpM wr3 (w.heap.size + 1) g sg n m s l (lnF fl n m) (opF 21 bb pb) (opF 23 bb pb) nv3 lv3 ((js.take t).foldl (hNet n m s xs p).come ⟨σ2.seen, rest, σ2.later⟩) ∧ (js.length = 0 ∨ For wr3 g sg nv3 lv3 sb) ∧ Rd wr3 sa sb 0 (js.map (fun (j : Nat) => (j : Int))) ∧ Below (w.heap.size + 1) w1 wr3) (fun v56 _ => js.length - (intOf v56).toNat)
            case atStart => exact ⟨0, _, _, Nat.zero_le _, rfl, HS5.out, hF5, hrd, hB5⟩
            case round =>
              clear hF5 hrd hB5
              obtain ⟨t, nv3, lv3, ht, rfl, hS, hF, hrd, hB⟩ := hrel
              by_cases htl : t < js.length
              · have hti : (t : Int) < (js.length : Int) := Int.ofNat_lt.2 htl
                obtain ⟨rfl, cj⟩ := hrd.2 t (by rw [List.length_map]; exact htl)
                rw [ints_at js t htl, Nat.zero_add] at cj
                have hjl := HNS.out _ (getD_mem js t htl)
                have HST := Lib.hid (fold_take (hNet n m s xs p) ⟨σ2.seen, rest, σ2.later⟩ js t htl)
                obtain ⟨h91, h92⟩ := HC9.out t
                have hF2 := hF.resolve_left (by omega)
                clear hF
                generalize (js.take t).foldl (hNet n m s xs p).come ⟨σ2.seen, rest, σ2.later⟩ = σ3 at HST h91 h92 hS
                generalize js.getD t 0 = j at HST cj hjl
                go_wp2_with fail
                refine (come_any n m s j (w.heap.size + 1) g sg bb pb fl l xs p nv3 lv3 σ3 _ hS (HK.out _ hB).1 (Nat.lt_succ_of_lt hbb) (Nat.lt_succ_of_lt hpb) hp HL.out h30 hjl HA.out (Nat.le_trans h91 (by decide)) (Nat.le_trans h92 (by decide))).mono ?_
                rintro e2 w6 ⟨rfl, ⟨nv4, lv4, hS6, hfor⟩, hb6⟩
                rw [← HST.out] at hS6
                have hF6 := hfor sb hF2
                clear h91 h92 hfor hF2
                go_wp2_with fail
                go_roundw
                case rel => exact ⟨t + 1, nv4, lv4, htl, by go_num, hS6, .inr hF6.2, rd_oth hrd hF6.1, hB.trans hb6⟩
                case measure => simp [intOf]; omega
              · obtain rfl : t = js.length := by omega
                rw [List.take_length] at hS
                have hcm := HCM.out js.length
                rw [List.take_length] at hcm
                have HIN := Lib.hid (Net.comes_inv js _ HPI.out)
                have HLT := Lib.hid (Nat.lt_of_le_of_lt hcm HPM.out)
                have HLT2 := Lib.hid (Nat.lt_of_lt_of_le HLT.out HLE.out)
                have HMQ := Lib.hid ((muAt_eq hS xs p).symm ▸ (muAt_eq HS2.out xs p).symm ▸ HLT.out)
                clear htl hF hrd hcm
                go_wp2_with fail
                go_roundw
                case rel => exact ⟨_, nv3, lv3, rfl, hS, Net.inv_any HIN.out, Nat.le_of_lt HLT2.out, .inr HLT2.out, hB⟩
                case measure => exact HMQ.out
          · have hli : ((li : Int) == (l : Int)) = true := by rw [hfi] at hfn; rw [eq_of_beq hfn]; exact beq_self_eq_true _
            have HND := Lib.hid (Net.found_need HI2.out HNW.out hfi)
            have hB5 := HB.out.trans (hB4.mono (Nat.le_succ _))
            clear hfn hfi
            go_wp2_with fail
            (try rw [Exit.noGoto_ret])
            go_ret2
            exact ⟨⟨some k, HND.out, rfl⟩, hB5⟩
    · obtain ⟨hn, rfl, rfl⟩ := hab1 hne
      have hNW : σ.now = [] := List.eq_nil_of_length_eq_zero ha
      have hLT : σ.later = [] := List.eq_nil_of_length_eq_zero hb
      have HND := Lib.hid (Net.none_need hI hNW hLT)
      have hB2 := HB.out.trans (hB.mono (Nat.le_succ _))
      clear ha hb hab0 hab1 hS hI hmu hml e1 e2 hNW hLT hne
      go_wp2_with fail
      go_quiet (fail)
      go_wp2_with fail
      (try rw [Exit.noGoto_ret])
      go_ret2
      exact ⟨⟨none, HND.out, rfl⟩, hB2.trans ((Same.refl _).drewN _ _)⟩
end Go.Proofs.YtianmmjjcegkjaaDoor
