import Derived.Test.YtcahecohjmahaaaDoorJf
import Derived.Test.YtcahecohjmahaaaDoorCq
namespace Go.Proofs.YtcahecohjmahaaaDoor
open Go.RowKit
set_option maxRecDepth 4000
theorem hfind_step {α : Type} (z : α) (ps : List α) (f : α → Bool) (k : Nat) (hk : k < ps.length) (h : (ps.take k).find? f = none) :
    (f (ps.getD k z) = true → ps.find? f = some (ps.getD k z)) ∧ (f (ps.getD k z) = false → (ps.take (k + 1)).find? f = none) := by
  have e : ps.getD k z = ps[k] := by rw [List.getD_eq_getElem?_getD, List.getElem?_eq_getElem hk]; rfl
  rw [e]
  refine ⟨fun hf => ?_, fun hf => ?_⟩
  · have h2 : (ps.take k ++ ps[k] :: ps.drop (k + 1)).find? f = some ps[k] := by rw [List.find?_append, h, Option.none_or, List.find?_cons_of_pos hf]
    rwa [← List.drop_eq_getElem_cons hk, List.take_append_drop] at h2
  · rw [List.take_add_one, List.getElem?_eq_getElem hk, List.find?_append, h]
    simp [hf]
def fo (o : Option Int) : Value := .tuple #[.int .i64 (o.getD 0), .bool o.isSome]
theorem ret_fo {o : Option Int} {x : Int} (h : o = some x) : Ending.returned (.tuple #[.int .i64 x, .bool true]) = .returned (fo o) := by rw [h]; rfl
theorem ret_fo0 {o : Option Int} (h : o = none) : Ending.returned (.tuple #[.int .i64 0, .bool false]) = .returned (fo o) := by rw [h]; rfl
set_option maxHeartbeats 1600000 in
theorem third_any (N M S g b p q : Nat) (l : Int) (h2 : 1 ≤ M) (hNM : N * M = S) (hS : S ≤ 1000) (hp : p < S) (hq : q < S) (w : World) (hv : HxV w) :
    Calls Tryd.prog 123 #[.agg (rimA N M g b), .agg #[.int .i64 p, .int .i64 q], .int .i64 l] w fun e w' => e = .returned (fo (hthr N M (p, q, l))) ∧ Below w.heap.size w w' := by
  have HV := Lib.hid (fun w' (hb : Below w.heap.size w w') => hxv_later hv hb)
  have HP := Lib.hid (fun w' (hb : Below w.heap.size w w') => hxNear_any N M S p h2 hNM hS hp w' (hxv_later hv hb))
  have HQ := Lib.hid (fun w' (hb : Below w.heap.size w w') => hxNear_any N M S q h2 hNM hS hq w' (hxv_later hv hb))
  have HT : Hid (hthr N M (p, q, l) = (hxa (N : Int) M p).find? (fun x => x != l && hasB (hxa (N : Int) M q) x)) := Lib.hid rfl
  have hl1 := hxa_len (N : Int) (M : Int) (p : Int)
  have hl2 := hxa_len (N : Int) (M : Int) (q : Int)
  have hB0 := balloc (balloc (Below.refl w.heap.size w) (.cells (rimA N M g b) 91)) (.cells #[.int .i64 p, .int .i64 q] 94)
  have hg0 : ((w.alloc (.cells (rimA N M g b) 91)).alloc (.cells #[.int .i64 p, .int .i64 q] 94)).heap[w.heap.size]? = some (.cells (rimA N M g b) 91 (0, 0)) := (Below.heap_alloc _ _ _ (by simp)).trans (heap_alloc_new w _)
  have hp0 : ((w.alloc (.cells (rimA N M g b) 91)).alloc (.cells #[.int .i64 p, .int .i64 q] 94)).heap[w.heap.size + 1]? = some (.cells #[.int .i64 p, .int .i64 q] 94 (0, 0)) := by
    have e := heap_alloc_new (w.alloc (.cells (rimA N M g b) 91)) (.cells #[.int .i64 p, .int .i64 q] 94)
    rwa [World.size_alloc] at e
  have hs0 : ((w.alloc (.cells (rimA N M g b) 91)).alloc (.cells #[.int .i64 p, .int .i64 q] 94)).heap.size = w.heap.size + 2 := by simp
  have q0 := blk_cell hg0 0 (.int .i64 N) rfl
  have q1 := blk_cell hg0 1 (.int .i64 M) rfl
  have q2 := blk_cell hp0 0 (.int .i64 p) rfl
  have q3 := blk_cell hp0 1 (.int .i64 q) rfl
  generalize hxa (N : Int) M p = ps at HP HT hl1
  generalize hxa (N : Int) M q = qs at HQ HT hl2
  generalize hthr (N : Int) M (p, q, l) = o at HT ⊢
  clear hv hNM hp hq hg0 hp0
  go_enter Tryd.func123, Tryd.ntmps123
  go_wp2_with fail
  generalize (w.alloc (.cells (rimA N M g b) 91)).alloc (.cells #[.int .i64 p, .int .i64 q] 94) = w0 at hB0 hs0 q0 q1 q2 q3 ⊢
  (try go_wp2_with fail)
  refine (HQ.out _ hB0).mono ?_
  rintro e w1 ⟨v, rfl, hoq, hb1⟩
  obtain ⟨-, qa, qc, qb, rfl, -⟩ := own_shape hoq
  have r0 := (hb1.cell (p := ⟨w.heap.size, 0, none⟩) (by show w.heap.size < _; omega)).trans q0
  have r1 := (hb1.cell (p := ⟨w.heap.size, 1, none⟩) (by show w.heap.size < _; omega)).trans q1
  have r2 := (hb1.cell (p := ⟨w.heap.size + 1, 0, none⟩) (by show w.heap.size + 1 < _; omega)).trans q2
  have hB1 := bnext hB0 hb1
  clear q0 q1 q2 q3 hb1
  go_wp2_with fail
  refine (HP.out _ hB1).mono ?_
  rintro e w2 ⟨v, rfl, hop, hb2⟩
  have hoq2 := own_now hoq hb2
  have hB2 := bnext hB1 hb2
  obtain ⟨-, pa, pc, pb, rfl, -, hrp⟩ := own_shape hop
  obtain ⟨-, qa', qc', qb', hvq, -, hrq⟩ := own_shape hoq2
  simp only [Value.slice.injEq] at hvq
  obtain ⟨rfl, -, rfl⟩ := hvq
  have HRP := Lib.hid hrp
  have HRQ := Lib.hid hrq
  clear r0 r1 r2 hb2 hoq hop hoq2 hrp hrq
  go_wp2_with fail
  go_loop [22] (fun v22 => ∃ k : Nat, k ≤ ps.length ∧ v22 = .int .i64 k ∧ (ps.take k).find? (fun x => x != l && hasB qs x) = none) (fun v22 => ps.length - (intOf v22).toNat)
  case atStart => exact ⟨0, Nat.zero_le _, rfl, rfl⟩
  case round =>
    obtain ⟨k, hk, rfl, hnone⟩ := hrel
    by_cases hlt : k < ps.length
    · obtain ⟨rfl, c⟩ := HRP.out.2 k hlt
      rw [Nat.zero_add] at c
      obtain ⟨hyes, hno⟩ := hfind_step (0 : Int) ps _ k hlt hnone
      have HY := Lib.hid hyes
      have HNO := Lib.hid hno
      have HNN := Lib.hid hnone
      clear hyes hno hnone
      generalize ps.getD k 0 = x at c HY HNO
      cases hx : (x != l)
      · have HN2 : Hid ((ps.take (k + 1)).find? (fun x => x != l && hasB qs x) = none) := Lib.hid (HNO.out (by simp only [hx, Bool.false_and]))
        go_wp2_with fail
        go_round
        case rel => exact ⟨k + 1, by omega, by go_num, HN2.out⟩
        case measure => simp [intOf]; omega
      · cases hm : hasB qs x
        · have HN2 : Hid ((ps.take (k + 1)).find? (fun x => x != l && hasB qs x) = none) := Lib.hid (HNO.out (by simp only [hm, Bool.and_false]))
          have HM := Lib.hid hm
          clear hm
          go_wp2_with fail
          refine (contains_any qs x qa qb' 0 _ qc w2 rfl HRQ.out).mono ?_
          rintro e w3 ⟨rfl, rfl⟩
          rw [HM.out]
          go_wp2_with fail
          go_round
          case rel => exact ⟨k + 1, by omega, by go_num, HN2.out⟩
          case measure => simp [intOf]; omega
        · have HY2 : Hid (o = some x) := Lib.hid (by rw [HT.out]; exact HY.out (by simp only [hx, hm, Bool.and_self]))
          have HM := Lib.hid hm
          clear hm
          go_wp2_with fail
          refine (contains_any qs x qa qb' 0 _ qc w2 rfl HRQ.out).mono ?_
          rintro e w3 ⟨rfl, rfl⟩
          rw [HM.out]
          go_wp2_with fail
          go_ret2
          exact ⟨ret_fo HY2.out, hB2⟩
    · have hk2 : k = ps.length := by omega
      rw [hk2, List.take_length] at hnone
      have HN2 : Hid (o = none) := Lib.hid (by rw [HT.out]; exact hnone)
      clear hnone hk2
      go_wp2_with fail
      go_ret2
      exact ⟨ret_fo0 HN2.out, hB2⟩
end Go.Proofs.YtcahecohjmahaaaDoor
