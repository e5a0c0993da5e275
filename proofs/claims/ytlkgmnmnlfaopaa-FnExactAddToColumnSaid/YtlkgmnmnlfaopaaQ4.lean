import Derived.LoopN
import Derived.BigRegion
import Derived.BigQuiet
import Derived.Test.YtlkgmnmnlfaopaaQ3
namespace Go.Proofs.Ytlkgmnmnlfaopaa
open Go.RowKit
set_option maxRecDepth 4000
/-- Two lists of rows of the call's own, one above the other. -/
def OG (w : World) (lo hi : Nat) (v1 v2 : Value) (r c : List (List Int)) : Prop := ∃ mid, lo ≤ mid ∧ mid ≤ hi ∧ OSS w lo mid v1 r ∧ OSS w mid hi v2 c
theorem og_shape {w : World} {lo hi : Nat} {v1 v2 : Value} {r c : List (List Int)} (h : OG w lo hi v1 v2 r c) : ∃ a1 c1 a2 c2, v1 = .slice a1 r.length c1 ∧ v2 = .slice a2 c.length c2 ∧ RdSS w hi a1 r ∧ RdSS w hi a2 c := by
  obtain ⟨mid, h1, h2, o1, o2⟩ := h
  obtain ⟨a1, c1, rfl, r1⟩ := oss_shape o1
  obtain ⟨a2, c2, rfl, r2⟩ := oss_shape o2
  exact ⟨a1, c1, a2, c2, rfl, rfl, rdss_mono r1 h2, r2⟩
theorem og_keep {w w' : World} {lo hi l h' : Nat} {v1 v2 : Value} {r c : List (List Int)} (h : OG w lo hi v1 v2 r c) (k : Chg l h' w w') (hs : hi ≤ w.heap.size) (hr : h' ≤ lo ∨ hi ≤ l) : OG w' lo hi v1 v2 r c := by
  obtain ⟨mid, h1, h2, o1, o2⟩ := h
  exact ⟨mid, h1, h2, oss_keep o1 k (by omega) (by omega), oss_keep o2 k hs (by omega)⟩
theorem og_rds {w : World} {lo hi : Nat} {a1 a2 : Option Addr} {n1 n2 c1 c2 : Nat} {r c : List (List Int)} (h : OG w lo hi (.slice a1 n1 c1) (.slice a2 n2 c2) r c) : RdSS w hi a1 r ∧ RdSS w hi a2 c := by
  obtain ⟨mid, h1, h2, o1, o2⟩ := h
  exact ⟨rdss_mono (oss_rd o1).2 h2, (oss_rd o2).2⟩
theorem og_low {w : World} {lo lo' hi : Nat} {v1 v2 : Value} {r c : List (List Int)} (h : OG w lo hi v1 v2 r c) (hl : lo' ≤ lo) : OG w lo' hi v1 v2 r c := by
  obtain ⟨mid, h1, h2, ⟨vs, p1, p2, p3, p4, p5⟩, o2⟩ := h
  exact ⟨mid, by omega, h2, ⟨vs, own_base p1 hl, fun k hk => own_base (p2 k hk) hl, p3, p4, p5⟩, o2⟩
theorem og_high {w : World} {lo hi hi' : Nat} {v1 v2 : Value} {r c : List (List Int)} (h : OG w lo hi v1 v2 r c) (hl : hi ≤ hi') : OG w lo hi' v1 v2 r c := by
  obtain ⟨mid, h1, h2, o1, ⟨vs, p1, p2, p3, p4, p5⟩⟩ := h
  exact ⟨mid, h1, by omega, o1, ⟨vs, p1, p2, p3, fun k hk => Nat.lt_of_lt_of_le (p4 k hk) hl, fun i hi k hk => Nat.lt_of_lt_of_le (p5 i hi k hk) hl⟩⟩
theorem heap_put {w : World} {g k : Nat} {cs : Array Value} {ty : TypeId} {fr : Nat × Nat} (h : w.heap[g]? = some (.cells cs ty fr)) (u : Value) : (w.setCell ⟨g, k, none⟩ u).heap[g]? = some (.cells (cs.setIfInBounds k u) ty fr) := by
  simp only [World.setCell, Array.getElem?_modify, if_pos, h, Option.map_some]
  rfl
theorem chg_put (w : World) (g k : Nat) (u : Value) : Chg g (g + 1) w (w.setCell ⟨g, k, none⟩ u) :=
  ⟨rfl, rfl, rfl, by simp [World.setCell], fun j _ hj => Below.heap_setCell _ _ _ j (by show j ≠ g; omega)⟩
theorem chg_wide {lo hi l h : Nat} {w w' : World} (c : Chg lo hi w w') (h1 : l ≤ lo) (h2 : hi ≤ h) : Chg l h w w' :=
  ⟨c.os, c.tape, c.output, c.size, fun k hk hr => c.block k hk (by omega)⟩
theorem chg_zero {lo hi : Nat} {w w' : World} (c : Chg 0 0 w w') (_ : 0 ≤ lo) : Chg lo hi w w' := ⟨c.os, c.tape, c.output, c.size, fun k hk _ => c.block k hk (.inr (Nat.zero_le _))⟩
theorem oss_low {w : World} {lo lo' hi : Nat} {v : Value} {c : List (List Int)} (h : OSS w lo hi v c) (hl : lo' ≤ lo) : OSS w lo' hi v c := by
  obtain ⟨vs, p1, p2, p3, p4, p5⟩ := h
  exact ⟨vs, own_base p1 hl, fun k hk => own_base (p2 k hk) hl, p3, p4, p5⟩
theorem oss_high {w : World} {lo hi hi' : Nat} {v : Value} {c : List (List Int)} (h : OSS w lo hi v c) (hl : hi ≤ hi') : OSS w lo hi' v c := by
  obtain ⟨vs, p1, p2, p3, p4, p5⟩ := h
  exact ⟨vs, p1, p2, p3, fun k hk => Nat.lt_of_lt_of_le (p4 k hk) hl, fun i hi k hk => Nat.lt_of_lt_of_le (p5 i hi k hk) hl⟩
theorem froz {w : World} {g : Nat} {cs : Array Value} {ty : TypeId} (h : w.heap[g]? = some (.cells cs ty (0, 0))) (k : Nat) : w.frozen? ⟨g, k, none⟩ = false := by simp [World.frozen?, h]
theorem size_put (w : World) (g k : Nat) (u : Value) : (w.setCell ⟨g, k, none⟩ u).heap.size = w.heap.size := by simp [World.setCell]
def zgame : Array Value := #[.slice none 0 0, .slice none 0 0]
theorem blkG : Blk 27 2 := ⟨.inl ⟨_, Try.underlying27⟩, by kernel_rfl⟩
theorem zgame_size : zgame.size = 2 := rfl
theorem zgame_one : zgame.all (·.oneCell') = true := by simp [zgame, Value.oneCell']
theorem run_alloc_game (w : World) : (Instr.alloc 27 true (.tuple #[])).run Try.prog w = .ok (.pointer (some ⟨w.heap.size, 0, none⟩)) (w.alloc (.cells zgame 27)) := by kernel_rfl
theorem run_build0_game (w : World) : (Instr.build 27 #[]).run Try.prog w = .ok (.agg zgame) w := by kernel_rfl
set_option maxHeartbeats 1600000 in
theorem toGame_any (gr gc : List (List Int)) (ar ac : Option Addr) (cr cc B : Nat) (w : World) (hr : RdSS w B ar gr) (hc : RdSS w B ac gc) (hB : B ≤ w.heap.size) (s1 : SmallSS gr) (s2 : SmallSS gc) :
    Calls Try.prog 17 #[.agg #[.slice ar gr.length cr, .slice ac gc.length cc]] w fun e w' => ∃ v1 v2, e = .returned (.agg #[v1, v2]) ∧ OG w' w.heap.size w'.heap.size v1 v2 gr gc ∧ Below w.heap.size w w' := by
  obtain ⟨w1, hw1⟩ : ∃ w1, w1 = (w.alloc (.cells #[.slice ar gr.length cr, .slice ac gc.length cc] 24)) := ⟨_, rfl⟩
  obtain ⟨w2, hw2⟩ : ∃ w2, w2 = (w1.alloc (.cells zgame 27)) := ⟨_, rfl⟩
  obtain ⟨w3, hw3⟩ : ∃ w3, w3 = (w2.alloc (.cells zgame 27)) := ⟨_, rfl⟩
  have hb1 : Below w.heap.size w w1 := by rw [hw1]; exact balloc (Below.refl w.heap.size w) _
  have hb2 : Below w1.heap.size w1 w2 := by rw [hw2]; exact balloc (Below.refl w1.heap.size w1) _
  have hb3 : Below w2.heap.size w2 w3 := by rw [hw3]; exact balloc (Below.refl w2.heap.size w2) _
  have hz1 : w1.heap.size = w.heap.size + 1 := by rw [hw1]; simp
  have hz2 : w2.heap.size = w.heap.size + 2 := by rw [hw2, World.size_alloc, hz1]
  have hz3 : w3.heap.size = w.heap.size + 3 := by rw [hw3, World.size_alloc, hz2]
  have hb := bnext (bnext hb1 hb2) hb3
  have g1 : w1.heap[w.heap.size]? = some (.cells #[.slice ar gr.length cr, .slice ac gc.length cc] 24 (0, 0)) := by rw [hw1]; exact heap_alloc_new w _
  have g1 := hp_later (hp_later g1 hb2) hb3
  have g2 : w2.heap[w.heap.size + 1]? = some (.cells zgame 27 (0, 0)) := by rw [hw2, ← hz1]; exact heap_alloc_new w1 _
  have g2 := hp_later g2 hb3
  have g3 : w3.heap[w.heap.size + 2]? = some (.cells zgame 27 (0, 0)) := by rw [hw3, ← hz2]; exact heap_alloc_new w2 _
  have hch := chg_below hb
  have HR := Lib.hid (rdss_chg hr hch hB (.inr rfl))
  have HC := Lib.hid (rdss_chg hc hch hB (.inr rfl))
  have hB3 : B ≤ w3.heap.size := by omega
  have c0 := blk_cell g1 0 _ rfl
  clear hr hc hch hb1 hb2 hb3 hz1 hz2
  have HW3 := Lib.hid hw3
  have HW2 := Lib.hid hw2
  have HW1 := Lib.hid hw1
  clear hw1 hw2 hw3
  go_enter Try.func17, Try.ntmps17
  go_wp2_with ((with_reducible refine alloc_blk zgame run_alloc_game rfl rfl ?_); simp only [World.size_alloc, Act.put, List.setIfInBounds_toArray, List.set_cons_zero, List.set_cons_succ])
  rw [← HW1.out, ← HW2.out, ← HW3.out]
  refine (toIntSS_any gr ar cr B _ HR.out hB3 s1).mono ?_
  rintro e w4 ⟨v1, rfl, o1, hb4⟩
  have k1 := hp_later g1 hb4
  have k2 := hp_later g2 hb4
  have k3 := hp_later g3 hb4
  have d0 := blk_cell k3 0 _ rfl
  have f0 := froz k3 0
  have hz4 := hb4.size
  have HC4 := rdss_chg HC.out (chg_below hb4) hB3 (.inr rfl)
  have hB4 := bnext hb hb4
  obtain ⟨a1, m1, rfl, -⟩ := oss_shape o1
  obtain ⟨w5, hw5⟩ : ∃ w5, w5 = w4.setCell ⟨w.heap.size + 1 + 1, 0, none⟩ (.slice a1 gr.length m1) := ⟨_, rfl⟩
  have hch5 : Chg (w.heap.size + 1 + 1) (w.heap.size + 1 + 1 + 1) w4 w5 := by rw [hw5]; exact chg_put w4 _ _ _
  have p1 : w5.heap[w.heap.size]? = some (.cells #[.slice ar gr.length cr, .slice ac gc.length cc] 24 (0, 0)) := (hch5.block _ (by omega) (by omega)).trans k1
  have p2 : w5.heap[w.heap.size + 1]? = some (.cells zgame 27 (0, 0)) := (hch5.block _ (by omega) (by omega)).trans k2
  have p3 : w5.heap[w.heap.size + 1 + 1]? = some (.cells #[.slice a1 gr.length m1, .slice none 0 0] 27 (0, 0)) := by rw [hw5]; exact heap_put k3 _
  have o1 := oss_keep o1 hch5 (Nat.le_refl _) (.inl (by omega))
  have HC5 := Lib.hid (rdss_chg HC4 hch5 (by omega) (.inl (by omega)))
  have hB5 := below_chg hB4 hch5 (by omega) (.inl (by omega))
  have hz5 := hch5.size
  have q1 := blk_cell p1 1 _ rfl
  rw [hw5] at q1
  have HW5 := Lib.hid hw5
  clear hch5 HC4 k1 k2 hb4
  clear hw5
  go_wp2_with fail
  rw [← HW5.out]
  refine (toIntSS_any gc ac cc B _ HC5.out (by omega) s2).mono ?_
  rintro e w6 ⟨v2, rfl, o2, hb6⟩
  have k2 := hp_later p2 hb6
  have k3 := hp_later p3 hb6
  have d1 := blk_cell k3 1 _ rfl
  have f1 := froz k3 1
  have hz6 := hb6.size
  have hB6 := below_chg hB5 (chg_below hb6) (by omega) (.inr rfl)
  have o1 := oss_keep o1 (chg_below hb6) (by omega) (.inl (by omega))
  obtain ⟨a2, m2, rfl, -⟩ := oss_shape o2
  have e0 : w6.cell? ⟨w.heap.size + 1 + 1, 0, none⟩ = some (.slice a1 gr.length m1) := blk_cell k3 0 _ rfl
  have n0 := blk_cell k2 0 _ rfl
  have n1 := blk_cell k2 1 _ rfl
  have f2 := froz k2 0
  have f3 := froz k2 1
  have hfin : ∀ u1 u2, Chg (w.heap.size + 1) (w.heap.size + 1 + 1 + 1) w6 (((w6.setCell ⟨w.heap.size + 1 + 1, 1, none⟩ u2).setCell ⟨w.heap.size + 1, 0, none⟩ u1).setCell ⟨w.heap.size + 1, 1, none⟩ u2) := fun u1 u2 =>
    ((chg_wide (chg_put w6 (w.heap.size + 1 + 1) 1 u2) (by omega) (by omega)).trans (chg_wide (chg_put _ (w.heap.size + 1) 0 u1) (by omega) (by omega))).trans (chg_wide (chg_put _ (w.heap.size + 1) 1 u2) (by omega) (by omega))
  have HF := Lib.hid (hfin (.slice a1 gr.length m1) (.slice a2 gc.length m2))
  have HG : Hid ((((w6.setCell ⟨w.heap.size + 1 + 1, 1, none⟩ (.slice a2 gc.length m2)).setCell ⟨w.heap.size + 1, 0, none⟩ (.slice a1 gr.length m1)).setCell ⟨w.heap.size + 1, 1, none⟩ (.slice a2 gc.length m2)).heap[w.heap.size + 1]? = some (.cells #[.slice a1 gr.length m1, .slice a2 gc.length m2] 27 (0, 0))) :=
    Lib.hid (heap_put (heap_put (((chg_put w6 (w.heap.size + 1 + 1) 1 (.slice a2 gc.length m2)).block (w.heap.size + 1) (by omega) (.inl (by omega))).trans k2) (.slice a1 gr.length m1)) (.slice a2 gc.length m2))
  clear hfin k2 k3 p1 p2 p3 d0 hb6
  go_wp2_with fail
  have hF := HF.out
  refine bodyPost_ret (results_blk1 blkG rfl _ _ (w.heap.size + 1) _ rfl HG.out rfl) rfl ?_
  refine ⟨_, _, rfl, ⟨w4.heap.size, by omega, by have := hF.size; omega, ?_, ?_⟩, below_chg hB6 hF (by omega) (.inl (by omega))⟩
  · exact oss_low (oss_keep o1 hF (by omega) (.inl (by omega))) (by omega)
  · exact oss_high (oss_low (oss_keep o2 hF (by omega) (.inl (by omega))) (by omega)) hF.size
set_option maxHeartbeats 1600000 in
theorem markGame_chg (lr lc : List Nat) (gr gc : List (List Int)) (hlr : Lens lr gr) (hlc : Lens lc gc) (sr : ∀ i, lr.getD i 0 ≤ 1048576) (sc : ∀ i, lc.getD i 0 ≤ 1048576) (nr : lr.length ≤ 1048576) (nc : lc.length ≤ 1048576)
    (ar ac : Option Addr) (lo hi cr cc : Nat) (w : World) (ho : OG w lo hi (.slice ar gr.length cr) (.slice ac gc.length cc) gr gc) (hH : hi ≤ w.heap.size) :
    Calls Try.prog 26 #[.agg #[.slice ar gr.length cr, .slice ac gc.length cc], .int .i64 1] w fun e w' => e = .returned (.int .i64 (1 + (offs lr lr.length : Nat) + (offs lc lc.length : Nat))) ∧
      (∃ r' c', Mkd 1 lr lr.length r' ∧ Mkd (1 + (offs lr lr.length : Nat)) lc lc.length c' ∧ OG w' lo hi (.slice ar gr.length cr) (.slice ac gc.length cc) r' c') ∧ Chg lo hi w w' := by
  obtain ⟨mid, hl, hh, o1, o2⟩ := ho
  have hb := balloc (Below.refl w.heap.size w) (.cells #[.slice ar gr.length cr, .slice ac gc.length cc] 27)
  have hch := chg_below hb
  have o1 := oss_keep o1 hch (by omega) (.inl (Nat.zero_le _))
  have o2 := oss_keep o2 hch hH (.inl (Nat.zero_le _))
  have g1 := heap_alloc_new w (.cells #[.slice ar gr.length cr, .slice ac gc.length cc] 27)
  have hz : (w.alloc (.cells #[.slice ar gr.length cr, .slice ac gc.length cc] 27)).heap.size = w.heap.size + 1 := by simp
  have HM1 := Lib.hid (markIntSS_chg lr gr hlr sr nr ar lo mid cr 1 (by omega) (by omega) _ o1)
  have hto : offs lr lr.length ≤ 1099511627776 := Nat.le_trans (offs_big lr sr lr.length) (by omega)
  have hto2 : offs lc lc.length ≤ 1099511627776 := Nat.le_trans (offs_big lc sc lc.length) (by omega)
  have HM2 := Lib.hid (fun (t : Nat) (ht : t ≤ 1099511627776) w' o2 => markIntSS_chg lc gc hlc sc nc ac mid hi cc (1 + (t : Nat)) (by omega) (by omega) w' o2)
  have c0 := blk_cell g1 0 _ rfl
  clear hlr hlc sr sc nr nc o1
  generalize offs lr lr.length = tr at *
  generalize offs lc lc.length = tc at *
  go_enter Try.func26, Try.ntmps26
  go_wp2_with fail
  refine HM1.out.mono ?_
  rintro e w1 ⟨rfl, ⟨r', hm1, o1'⟩, hch1⟩
  have o2 := oss_keep o2 hch1 (by omega) (.inl (Nat.le_refl _))
  have hz1 := hch1.size
  have g1 := (hch1.block _ (by omega) (.inr (by omega))).trans g1
  have c1 := blk_cell g1 1 _ rfl
  go_wp2_with fail
  refine (HM2.out tr hto _ o2).mono ?_
  rintro e w2 ⟨rfl, ⟨c', hm2, o2'⟩, hch2⟩
  have o1' := oss_keep o1' hch2 (by omega) (.inr (Nat.le_refl _))
  go_wp2_with fail
  go_ret
  exact ⟨rfl, ⟨r', c', hm1, hm2, mid, hl, hh, o1', o2'⟩, ((chg_zero hch (by omega)).trans (chg_wide hch1 (by omega) hh)).trans (chg_wide hch2 hl (by omega))⟩
set_option maxHeartbeats 1600000 in
theorem heldGame_rd (lr lc : List Nat) (tr : Nat) (ht : tr ≤ 1099511627776) (hte : offs lr lr.length = tr) (gr gc : List (List Int)) (m1 : Mkd 1 lr lr.length gr) (m2 : Mkd (1 + (tr : Nat)) lc lc.length gc) (sr : ∀ i, lr.getD i 0 ≤ 1048576) (sc : ∀ i, lc.getD i 0 ≤ 1048576) (nr : lr.length ≤ 1048576) (nc : lc.length ≤ 1048576)
    (tc : Nat) (_ : tc ≤ 1099511627776) (hte2 : offs lc lc.length = tc)
    (ar ac : Option Addr) (B n1 n2 cr cc : Nat) (hn1 : n1 = gr.length) (hn2 : n2 = gc.length) (w : World) (hr : RdSS w B ar gr) (hc : RdSS w B ac gc) (hB : B ≤ w.heap.size) :
    Calls Try.prog 42 #[.agg #[.slice ar n1 cr, .slice ac n2 cc], .int .i64 1] w fun e w' => e = .returned (.int .i64 (1 + (tr : Nat) + (tc : Nat))) ∧ Below w.heap.size w w' := by
  have hb := balloc (Below.refl w.heap.size w) (.cells #[.slice ar n1 cr, .slice ac n2 cc] 27)
  have hch := chg_below hb
  have hr := rdss_chg hr hch hB (.inr rfl)
  have hc := rdss_chg hc hch hB (.inr rfl)
  have g1 := heap_alloc_new w (.cells #[.slice ar n1 cr, .slice ac n2 cc] 27)
  have HM1 := Lib.hid (heldIntSS_rd lr gr 1 (by omega) (by omega) m1 sr nr ar B n1 cr hn1 _ hr)
  have HM2 := Lib.hid (heldIntSS_rd lc gc (1 + (tr : Nat)) (by omega) (by omega) m2 sc nc ac B n2 cc hn2 _ hc)
  rw [hte] at HM1
  rw [hte2] at HM2
  have c0 := blk_cell g1 0 _ rfl
  have c1 := blk_cell g1 1 _ rfl
  clear m1 m2 sr sc nr nc hte hte2 hr hc hn1 hn2 g1 hch
  go_enter Try.func42, Try.ntmps42
  go_wp2_with fail
  refine HM1.out.mono ?_
  rintro e w1 ⟨rfl, rfl⟩
  go_wp2_with fail
  refine HM2.out.mono ?_
  rintro e w1 ⟨rfl, rfl⟩
  go_wp2_with fail
  go_ret
  exact ⟨rfl, hb⟩
theorem hp_chg {w w' : World} {lo hi g : Nat} {o : Obj} (h : w.heap[g]? = some o) (c : Chg lo hi w w') (hr : g < lo ∨ hi ≤ g) : w'.heap[g]? = some o := (c.block g (Array.getElem?_eq_some_iff.1 h).1 hr).trans h
theorem blkGL : Blk 24 2 := ⟨.inl ⟨_, Try.underlying24⟩, by kernel_rfl⟩
theorem og_rdn {w : World} {lo hi : Nat} {a1 a2 : Option Addr} {n1 n2 c1 c2 : Nat} {r c : List (List Int)} (h : OG w lo hi (.slice a1 n1 c1) (.slice a2 n2 c2) r c) : RdSS w hi a1 r ∧ RdSS w hi a2 c := by
  obtain ⟨mid, h1, h2, o1, o2⟩ := h
  exact ⟨rdss_mono (oss_rd o1).2 h2, (oss_rd o2).2⟩
end Go.Proofs.Ytlkgmnmnlfaopaa
