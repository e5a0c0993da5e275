import Derived.LoopN
import Derived.BigRegion
import Derived.BigQuiet
import Derived.RegionTactic
import Derived.Test.YtokhpchnnilbaaaZk
import Derived.Test.YtokhpchnnilbaaaZa
namespace Go.Proofs.Ytokhpchnnilbaaa
open Go.RowKit
set_option maxRecDepth 4000
theorem intInfo18 : (Try.prog.info? 3).map (fun i => (i.zero, i.size, i.bytes)) = some (some (.int .i64 0), 1, 8) := by kernel_rfl
section
variable {ops : Array Oper} {rest : List Oper} {o : Oper} {a : Act} {Q : Exit → Act → World → Prop}
theorem append_many9 (base off b cap : Nat) (w0 : World) (v : Value) (xs ys : List Int)
    (hgd : o.guard = none) (s t : Operand) (ho : o.op = .call { callee := .builtin .append, args := #[s, t], argTypes := #[25, 25] })
    (hs : a.eval s = v) (hx : a.eval t = .slice (some ⟨b, off, none⟩) ys.length cap)
    (hc : ∀ j, j < ys.length → w0.cell? ⟨b, off + j, none⟩ = some (.int .i64 (ys.getD j 0)))
    (hown : w0.ownsRow base 3 1 v xs.length (xs.map (Value.int .i64))) (hbase : base ≤ w0.heap.size) (hlen : xs.length < 1000000000000) (hly : ys.length ≤ 1000000)
    (h : ∀ v' w', w'.ownsRow base 3 1 v' (xs ++ ys).length ((xs ++ ys).map (Value.int .i64)) → Below base w0 w' → wpList Try.prog ops Q rest (a.put o.dst v') w') :
    wpList Try.prog ops Q (o :: rest) a w0 := by
  obtain ⟨i0, hi, hz0, hz1, hz2⟩ := info_parts intInfo18
  refine wpList_append_own _ hgd s t 25 ho base 3 i0 (.int .i64 0) 1 8 Try.underlying25 hi hz0 hz1 hz2 rfl (by decide) v xs.length _ hs hown ⟨b, off, none⟩ ys.length cap (ys.map (Value.int .i64)) hx (by simp) ?_ ?_ ?_ ?_ ?_ ?_
  · intro j u hj
    rw [Addr.add_lit]
    have hjl : j < ys.length := by
      have := (List.getElem?_eq_some_iff.1 hj).1
      simpa using this
    rw [hc j hjl]
    rw [List.getElem?_map, List.getElem?_eq_getElem hjl] at hj
    simp only [Option.map_some, Option.some.injEq] at hj
    rw [← hj, List.getD_eq_getElem?_getD, List.getElem?_eq_getElem hjl]
    rfl
  · intro u hu
    simp only [List.mem_map] at hu
    obtain ⟨z, -, rfl⟩ := hu
    rfl
  · unfold maxLen; omega
  · omega
  · exact hbase
  · intro v' w1 hown' hgrow _
    refine h v' w1 (by simpa using hown') ?_
    exact (Below.refl base w0).grown hgrow hbase (fun k hk => (hown.lt k hk).1)
end
set_option maxHeartbeats 800000 in
theorem l1Own_pos9 (xs : List Int) (h0 : 0 < xs.length) (hl : xs.length ≤ 1000000) (a : Option Addr) (cap B : Nat) (w : World) (h : RdS w B a xs) (hB : B ≤ w.heap.size) :
    Calls Try.prog 78 #[.slice a xs.length cap] w fun e w' => ∃ v, e = .returned v ∧ w'.ownsRow w.heap.size 3 1 v xs.length (xs.map (Value.int .i64)) ∧ Below w.heap.size w w' := by
  have hba := balloc (Below.refl w.heap.size w) (.cells #[] 3)
  obtain ⟨b, off, hr, hb⟩ := rds_chg h (chg_below hba) hB (.inr rfl)
  obtain ⟨rfl, -⟩ := hr.2 0 h0
  have hO : (w.alloc (.cells #[] 3)).ownsRow w.heap.size 3 1 (.slice (some ⟨w.heap.size, 0, none⟩) 0 0) ([] : List Int).length (([] : List Int).map (Value.int .i64)) :=
    own_block (cap := 0) (xs := []) (Nat.le_refl _) (heap_alloc_new w _) rfl rfl (by simp [maxLen])
  have hz := hba.size
  have HC := Lib.hid (fun j hj => (hr.2 j hj).2)
  clear h hr
  go_enter Try.func78, Try.ntmps78
  go_wp2_with (at_builtin; refine append_many9 w.heap.size off b cap _ _ ([] : List Int) xs rfl _ _ rfl rfl rfl HC.out hO hz (by simp) hl ?_; intro v' w6 ho6 hb6)
  go_ret
  exact ⟨_, rfl, ho6, hba.trans hb6⟩
set_option maxHeartbeats 800000 in
theorem l1Own_nil9 (w : World) :
    Calls Try.prog 78 #[.slice none 0 0] w fun e w' => ∃ v, e = .returned v ∧ w'.ownsRow w.heap.size 3 1 v 0 [] ∧ Below w.heap.size w w' := by
  have hba := balloc (Below.refl w.heap.size w) (.cells #[] 3)
  have hO : (w.alloc (.cells #[] 3)).ownsRow w.heap.size 3 1 (.slice (some ⟨w.heap.size, 0, none⟩) 0 0) 0 [] :=
    own_block (cap := 0) (xs := []) (Nat.le_refl _) (heap_alloc_new w _) rfl rfl (by simp [maxLen])
  go_enter Try.func78, Try.ntmps78
  go_wp2_with fail
  go_ret
  exact ⟨_, rfl, hO, hba⟩
end Go.Proofs.Ytokhpchnnilbaaa
