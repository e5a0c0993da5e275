import Derived.Test.YtcahecohjmahaaaDoorTa
import Derived.Test.YtcahecohjmahaaaDoorZa
import Derived.Shelf.Strings.BuilderK
namespace Go.Proofs.YtcahecohjmahaaaDoor
open Go.RowKit
set_option maxRecDepth 4000
abbrev BldF (w : World) (B b : Nat) (l : List UInt8) : Prop := Lib.IsBuilderF 153 5 B b (Lib.byteCells l) w
theorem bld_at {w w' : World} {B b : Nat} {q : Value} {l : List Value} (h : Lib.BuilderAtF 153 5 B b q l w) (hb : Below w.heap.size w w') : Lib.BuilderAtF 153 5 B b q l w' := by
  have hl := h.lt
  rcases h with ⟨h1, v, h2, h3, h4⟩
  refine ⟨h1, v, (hb.block b hl).trans h2, ?_, h4⟩
  exact h3.kept (row := none) ⟨hb.os, hb.tape, hb.output, hb.size, fun k hk _ => hb.block k hk⟩ (Classical.em _)
theorem bld_now {w w' : World} {B b : Nat} {l : List UInt8} (h : BldF w B b l) (hb : Below w.heap.size w w') : BldF w' B b l := by
  rcases h with h | h
  · exact .inl (bld_at h hb)
  · exact .inr (bld_at h hb)
theorem writeByteK (B b : Nat) (l : List UInt8) (c : UInt8) (w : World) (h : BldF w B b l) (hlen : l.length ≤ 1000) (hBw : B ≤ w.heap.size) :
    Calls Tryd.prog 131 #[.pointer (some ⟨b, 0, none⟩), .int .u8 (c.toNat : Int)] w fun e w' => e = .returned .nilIface ∧ BldF w' B b (l ++ [c]) ∧ Below B w w' ∧ Lib.OthersKept 5 (some b) w w' := by
  refine (Any.Builder_WriteByte_k laysB extraB B b _ _ w h (by rw [Lib.byteCells_length]; omega) hBw).mono ?_
  rintro e w' ⟨he, hb, h1, h2⟩
  refine ⟨he, .inr ?_, h1, h2⟩
  have e2 : Lib.byteCells (l ++ [c]) = Lib.byteCells l ++ [Value.int .u8 (c.toNat : Int)] := by simp [Lib.byteCells]
  rw [e2]
  exact hb
theorem stringK (B b : Nat) (l : List UInt8) (w : World) (h : BldF w B b l) (hBw : B ≤ w.heap.size) :
    Calls Tryd.prog 134 #[.pointer (some ⟨b, 0, none⟩)] w fun e w' => e = .returned (.string ⟨l.toArray⟩) ∧ Below B w w' := by
  refine (Any.Builder_String_any_k laysS extraS B b l w h hBw).mono ?_
  rintro e w' ⟨he, -, h1, -⟩
  exact ⟨he, h1⟩
theorem dgt_nat (x : Int) (h0 : 0 ≤ x) (h2 : x ≤ 2) : ((dgt x).toNat : Int) = 48 + x := by
  have h : x = 0 ∨ x = 1 ∨ x = 2 := by omega
  rcases h with rfl | rfl | rfl <;> rfl
theorem writeDig (x : Int) (h0 : 0 ≤ x) (h2 : x ≤ 2) (B b : Nat) (l : List UInt8) (w : World) (h : BldF w B b l) (hlen : l.length ≤ 1000) (hBw : B ≤ w.heap.size) :
    Calls Tryd.prog 131 #[.pointer (some ⟨b, 0, none⟩), .int .u8 (48 + x)] w fun e w' => e = .returned .nilIface ∧ BldF w' B b (l ++ [dgt x]) ∧ Below B w w' ∧ Lib.OthersKept 5 (some b) w w' := by
  have := writeByteK B b l (dgt x) w h hlen hBw
  rwa [dgt_nat x h0 h2] at this
theorem writeSep (B b : Nat) (l : List UInt8) (w : World) (h : BldF w B b l) (hlen : l.length ≤ 1000) (hBw : B ≤ w.heap.size) :
    Calls Tryd.prog 131 #[.pointer (some ⟨b, 0, none⟩), .int .u8 47] w fun e w' => e = .returned .nilIface ∧ BldF w' B b (l ++ [47]) ∧ Below B w w' ∧ Lib.OthersKept 5 (some b) w w' :=
  writeByteK B b l 47 w h hlen hBw
theorem own_oth {w w' : World} {base n b : Nat} {v : Value} {xs : List Value} (h : w.ownsRow base 3 1 v n xs) (hk : Lib.OthersKept 5 (some b) w w') (hb : b < base) : w'.ownsRow base 3 1 v n xs := own_keep h (fun q hq => by
  rcases h.2 with ⟨rfl, -⟩ | ⟨g, cap, cur, rfl, hg, hh, -⟩
  · cases hq
  · have e : g = q := by simpa [Value.ownBlock] using hq
    subst e
    rw [hh]
    exact hk g _ hh (by simp; omega) (by intro c fz he; simp at he))
theorem bld_lt {w : World} {B b : Nat} {l : List UInt8} (h : BldF w B b l) : b < w.heap.size := by
  rcases h with h | h <;> exact h.lt
end Go.Proofs.YtcahecohjmahaaaDoor
