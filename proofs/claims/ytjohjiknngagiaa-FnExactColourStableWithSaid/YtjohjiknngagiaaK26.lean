import Derived.Test.YtjohjiknngagiaaK25
namespace Go.Proofs.Ytjohjiknngagiaa
open Go.RowKit
set_option maxRecDepth 4000
theorem callCol1 : ∀ (args : Array Value) (w : World), (callFunc 78 args).run Try.prog w = .ok (.enter 78 args) w := fun _ _ => rfl
set_option maxHeartbeats 400000 in
theorem col1_any (x : Nat) (c : Int) (w : World) :
    Calls Try.prog 78 #[.agg #[.int .i64 x, .int .i64 c]] w fun e w' => e = .returned (.int .i64 c) ∧ Below w.heap.size w w' := by
  have hb := balloc (Below.refl w.heap.size w) (.cells #[.int .i64 x, .int .i64 c] 80)
  go_enter Try.func78, Try.ntmps78
  go_wp2_with fail
  go_ret
  exact ⟨rfl, hb⟩
theorem rng_getD (cs : List Int) : (List.range cs.length).map (fun j => cs.getD j 0) = cs := by
  apply List.ext_getElem?
  intro i
  by_cases hi : i < cs.length
  · simp [hi]
  · rw [List.getElem?_eq_none (by simp; omega), List.getElem?_eq_none (by omega)]
set_option maxHeartbeats 1600000 in
theorem numK_any (l : List Nat) (cs : List Int) (m : Nat) (hm : m ≤ 1000) (a : Option Addr) (cap : Nat) (w : World) (h : RdP w w.heap.size a l cs m) :
    Calls Try.prog 77 #[.slice a m cap, .func (.func 78) #[] #[]] w fun e w' => ∃ v, e = .returned v ∧ OI w' w.heap.size w'.heap.size v ((List.range m).map (fun j => cs.getD j 0)) ∧ Below w.heap.size w w' := by
  obtain ⟨b, hc⟩ := h
  have HC := Lib.hid hc
  have HS : Hid (∀ k, (List.range (k + 1)).map (fun j => cs.getD j 0) = (List.range k).map (fun j => cs.getD j 0) ++ [cs.getD k 0]) := Lib.hid (fun k => by rw [List.range_succ, List.map_append]; rfl)
  have HLN : Hid (∀ k, ((List.range k).map (fun j => cs.getD j 0)).length = k) := Lib.hid (fun k => by simp)
  clear hc
  go_enter Try.func77, Try.ntmps77
  go_wp2_with fail
  go_loopw [5, 10] (fun v5 v10 wr => ∃ k : Nat, k ≤ m ∧ v10 = .int .i64 k ∧ wr.ownsRow w.heap.size 3 1 v5 ((List.range k).map (fun j => cs.getD j 0)).length (((List.range k).map (fun j => cs.getD j 0)).map (Value.int .i64)) ∧ Below w.heap.size w wr) (fun _ v10 _ => m - (intOf v10).toNat)
  case atStart => exact ⟨0, Nat.zero_le _, rfl, World.ownsRow_nil _ _ _ _, Below.refl _ _⟩
  case round =>
    obtain ⟨k, hk, rfl, ho, hb⟩ := hrel
    obtain ⟨wq, rfl⟩ : ∃ wq : World, wq = wr := ⟨_, rfl⟩
    have hz := hb.size
    by_cases hlt : k < m
    · have hki : (k : Int) < (m : Int) := by omega
      obtain ⟨ha, hbl, c, d⟩ := HC.out k hlt
      subst ha
      have c1 : wq.cell? ⟨b, k * 2, none⟩ = some (.int .i64 (l.getD k 0 : Nat)) := (hb.cell (p := ⟨b, k * 2, none⟩) hbl).trans c
      have d1 : wq.cell? ⟨b, k * 2 + 1, none⟩ = some (.int .i64 (cs.getD k 0)) := (hb.cell (p := ⟨b, k * 2 + 1, none⟩) hbl).trans d
      have HSk := Lib.hid (HS.out k)
      have HL : Hid (((List.range k).map (fun j => cs.getD j 0)).length ≤ 1000) := Lib.hid (by rw [HLN.out]; omega)
      have HO := Lib.hid ho
      clear c d ho
      generalize (List.range k).map (fun j => cs.getD j 0) = ys at *
      generalize l.getD k 0 = x at *
      generalize cs.getD k 0 = y at *
      go_wp2_with fail
      refine (col1_any _ _ _).mono ?_
      rintro e w2 ⟨rfl, hb2⟩
      have hb2' : Below wq.heap.size wq w2 := (balloc (Below.refl _ _) _).trans (hb2.mono (by simp))
      have hz2 := hb2'.size
      go_wp2_with (at_builtin; go_loud (refine append_int w.heap.size w2 _ ys _ rfl _ _ rfl rfl rfl (own_now HO.out hb2') (by omega) (by have := HL.out; omega) ?_; intro v' w3 ho3 hb3))
      go_roundw
      case rel => exact ⟨k + 1, by omega, by go_num, by rw [HSk.out]; exact ho3, (hb.trans (hb2'.mono hz)).trans hb3⟩
      case measure => simp [intOf]; omega
    · have hk2 : k = m := by omega
      subst hk2
      go_wp2_with fail
      go_ret
      exact ⟨_, rfl, oi_new ho, hb⟩
set_option maxHeartbeats 400000 in
theorem colours_any (l o : List Nat) (hm : o.length ≤ 1000) (a : Option Addr) (cap : Nat) (w : World) (h : RdP w w.heap.size a l (toI o) o.length) :
    Calls Try.prog 61 #[.agg #[.slice a o.length cap]] w fun e w' => ∃ v, e = .returned v ∧ OI w' w.heap.size w'.heap.size v (toI o) ∧ Below w.heap.size w w' := by
  have hb := balloc (Below.refl w.heap.size w) (.cells #[.slice a o.length cap] 66)
  have HN := numK_any l (toI o) o.length hm a cap _ (rdp_mono (rdp_bel h hb) hb.size)
  rw [show (List.range o.length).map (fun j => (toI o).getD j 0) = toI o from by
    have := rng_getD (toI o); rwa [toI_len] at this] at HN
  have HNN := Lib.hid HN
  clear h HN
  go_enter Try.func61, Try.ntmps61
  go_wp2_with fail
  refine HNN.out.mono ?_
  rintro e w2 ⟨v, rfl, ho, hb2⟩
  go_wp2_with fail
  go_ret
  exact ⟨_, rfl, oi_low8 ho hb.size, bnext hb hb2⟩
/-- What the search for colours answers. -/
def cwV (l : List Nat) (count : Nat) : Option (List Nat) := impS (apS l) l.length count l.length []
def outL (r : Option (List Nat)) : List Int := match r with | none => [] | some o => toI o
set_option maxHeartbeats 800000 in
theorem firstCol_no (a : Option Addr) (len cap : Nat) (n k count : Int) (h : ¬ (1 ≤ count ∧ count ≤ 8)) (w : World) :
    Calls Try.prog 36 #[.agg #[.slice a len cap, .int .i64 n, .int .i64 k], .int .i64 count] w fun e w' => e = .returned (.tuple #[.slice none 0 0, .bool false]) ∧ Below w.heap.size w w' := by
  have hb := balloc (Below.refl w.heap.size w) (.cells #[.slice a len cap, .int .i64 n, .int .i64 k] 48)
  by_cases h1 : count < 1
  · clear h
    go_enter Try.func36, Try.ntmps36
    go_wp2_with fail
    go_returns
    exact ⟨rfl, hb⟩
  · have h2 : 8 < count := by omega
    clear h
    go_enter Try.func36, Try.ntmps36
    go_wp2_with fail
    go_returns
    exact ⟨rfl, hb⟩
set_option maxHeartbeats 1600000 in
theorem firstCol_yes (l : List Nat) (hls : ∀ s ∈ l, s < 256) (hlen : l.length ≤ 256) (a : Option Addr) (cap : Nat) (n k : Int) (count : Nat) (h1 : 1 ≤ count) (h8 : count ≤ 8) (w : World) (h : RdS w w.heap.size a (toI l)) :
    Calls Try.prog 36 #[.agg #[.slice a l.length cap, .int .i64 n, .int .i64 k], .int .i64 count] w fun e w' => ∃ v, e = .returned (.tuple #[v, .bool (cwV l count).isSome]) ∧ OI w' w.heap.size w'.heap.size v (outL (cwV l count)) ∧ Below w.heap.size w w' := by
  obtain ⟨w1, hw1⟩ : ∃ w1, w1 = w.alloc (.cells #[.slice a l.length cap, .int .i64 n, .int .i64 k] 48) := ⟨_, rfl⟩
  have hb1 : Below w.heap.size w w1 := by rw [hw1]; exact balloc (Below.refl w.heap.size w) _
  have g1 : w1.heap[w.heap.size]? = some (.cells #[.slice a l.length cap, .int .i64 n, .int .i64 k] 48 (0, 0)) := by rw [hw1]; exact heap_alloc_new w _
  have c0 : w1.cell? ⟨w.heap.size, 0, none⟩ = some (.slice a l.length cap) := blk_cell g1 0 _ rfl
  have c1 : w1.cell? ⟨w.heap.size, 1, none⟩ = some (.int .i64 n) := blk_cell g1 1 _ rfl
  have c2 : w1.cell? ⟨w.heap.size, 2, none⟩ = some (.int .i64 k) := blk_cell g1 2 _ rfl
  have HCO := Lib.hid (completed_any l hls hlen count h8 n k w1.heap.size a cap w.heap.size hb1.size l.length [] none 0 w1 (by simp) (rds_bel h hb1) (Nat.le_refl _) (World.ownsRow_nil _ _ _ _))
  have HV : Hid (impS (apS l) l.length count l.length [] = cwV l count) := Lib.hid rfl
  rw [HV.out] at HCO
  have hci : (1 : Int) ≤ (count : Int) := by omega
  have hc8 : (count : Int) ≤ 8 := by omega
  have HLN : Hid (∀ o, cwV l count = some o → o.length = l.length) := Lib.hid (fun o ho => impS_len _ _ _ _ _ o ho)
  have HW := Lib.hid hw1
  have HB1 := Lib.hid hb1
  have hz1 := hb1.size
  clear hw1 g1 h hb1 hls
  cases hv : cwV l count
  · rw [hv] at HCO
    clear hv
    go_enter Try.func36, Try.ntmps36
    go_wp2_with fail
    rw [← HW.out]
    go_wp2_with fail
    refine HCO.out.mono ?_
    rintro e w2 ⟨hg2, rfl, -⟩
    have hb2 : Below w1.heap.size w1 w2 := ⟨hg2.os, hg2.tape, hg2.output, hg2.size, fun q hq => hg2.block q hq (by simp [Value.ownBlock])⟩
    have hB2 := bnext HB1.out hb2
    go_wp2_with fail
    go_returns
    exact ⟨_, rfl, oi_nil _ _ _, balloc hB2 _⟩
  · rename_i o
    have hol : o.length ≤ 1000 := by rw [HLN.out o hv]; omega
    rw [hv] at HCO
    clear hv
    go_enter Try.func36, Try.ntmps36
    go_wp2_with fail
    rw [← HW.out]
    go_wp2_with fail
    refine HCO.out.mono ?_
    rintro e w2 ⟨hg2, v, rfl, ho⟩
    have hb2 : Below w1.heap.size w1 w2 := ⟨hg2.os, hg2.tape, hg2.output, hg2.size, fun q hq => hg2.block q hq (by simp [Value.ownBlock])⟩
    have hB2 := bnext HB1.out hb2
    obtain ⟨ua, uc, rfl, hp, -⟩ := own_rdp ho
    have hbC := balloc (Below.refl w2.heap.size w2) (.cells #[.slice ua o.length uc] 66)
    have HR3 := Lib.hid (rdp_mono (rdp_bel hp hbC) hbC.size)
    have hz2 := hB2.size
    have hzC := hbC.size
    clear ho hp hg2 hb2
    go_wp2_with fail
    refine (colours_any l o hol ua uc _ HR3.out).mono ?_
    rintro e w3 ⟨v, rfl, ho3, hb3⟩
    go_wp2_with fail
    go_returns
    exact ⟨_, rfl, oi_low8 ho3 (by omega), bnext (bnext hB2 hbC) hb3⟩
end Go.Proofs.Ytjohjiknngagiaa
