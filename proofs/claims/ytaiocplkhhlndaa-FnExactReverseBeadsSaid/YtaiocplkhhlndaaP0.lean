import Derived.Lib.ConvBytes
import Derived.Lib.SlBytesRow
import Derived.Test.YtaiocplkhhlndaaZk
import Derived.Test.YtaiocplkhhlndaaN1
namespace Go.Proofs.Ytaiocplkhhlndaa
open Go.RowKit
set_option maxRecDepth 4000
/-- Block g begins with n bytes f. -/
def RB (w : World) (g n : Nat) (f : Nat → Nat) : Prop := ∃ cs : Array Value, w.heap[g]? = some (.cells cs 5 (cs.size, cs.size + 1)) ∧ n ≤ cs.size ∧ ∀ j, j < n → cs[j]? = some (.int .u8 (f j : Nat))
theorem rb_cell {w : World} {g n : Nat} {f : Nat → Nat} (h : RB w g n f) (j : Nat) (hj : j < n) : w.cell? ⟨g, j, none⟩ = some (.int .u8 (f j : Nat)) := by
  obtain ⟨cs, h1, h2, h3⟩ := h
  simp only [World.cell?, h1]
  exact h3 j hj
theorem rb_froz {w : World} {g n : Nat} {f : Nat → Nat} (h : RB w g n f) (j : Nat) (hj : j < n) : w.frozen? ⟨g, j, none⟩ = false := by
  obtain ⟨cs, h1, h2, h3⟩ := h
  simp only [World.frozen?, h1]
  simp; omega
theorem rb_put {w : World} {g n : Nat} {f : Nat → Nat} (h : RB w g n f) (k : Nat) (v : Nat) : RB (w.setCell ⟨g, k, none⟩ (.int .u8 (v : Nat))) g n (fun j => if j = k then v else f j) := by
  obtain ⟨cs, h1, h2, h3⟩ := h
  refine ⟨cs.setIfInBounds k (.int .u8 (v : Nat)), ?_, by simpa using h2, fun j hj => ?_⟩
  · simp only [World.setCell, Array.getElem?_modify, if_pos, h1, Option.map_some, Array.size_setIfInBounds]
    rfl
  · rw [Array.getElem?_setIfInBounds]
    by_cases e : j = k
    · subst e
      simp; omega
    · rw [if_neg (fun h => e h.symm), h3 j hj]; simp [e]
theorem rb_lt {w : World} {g n : Nat} {f : Nat → Nat} (h : RB w g n f) : g < w.heap.size := by
  obtain ⟨cs, h1, -, -⟩ := h
  exact (Array.getElem?_eq_some_iff.1 h1).1
theorem rb_made (w : World) (s : ByteArray) : RB (Lib.bytesWorld w 5 s) w.heap.size s.size (byt s) := by
  refine ⟨Lib.bytesCells w 5 s, Lib.bytesWorld_at_new w _ s, by simp [Lib.bytesCells], fun j hj => ?_⟩
  have h := Lib.bytesWorld_cell w 5 s j hj
  simp only [World.cell?, Lib.bytesWorld_at_new] at h
  exact h
theorem bytes_below (w : World) (s : ByteArray) : Below w.heap.size w (Lib.bytesWorld w 5 s) :=
  ⟨rfl, rfl, rfl, by rw [Lib.bytesWorld_size]; omega, fun j hj => Lib.bytesWorld_at_old w _ s j hj⟩
theorem rb_bytes {w : World} {g : Nat} {s : ByteArray} (h : RB w g s.size (byt s)) : Lib.Bytes w g 0 s := fun i hi => by
  rw [Nat.zero_add, rb_cell h i hi, byt_get s i hi]
theorem rb_congr {w : World} {g n : Nat} {f f' : Nat → Nat} (h : RB w g n f) (e : ∀ j, j < n → f' j = f j) : RB w g n f' := by
  obtain ⟨cs, h1, h2, h3⟩ := h
  exact ⟨cs, h1, h2, fun j hj => by rw [e j hj]; exact h3 j hj⟩
/-- Texts are their bytes. -/
theorem ba_ext {s t : ByteArray} (h : s.data.toList = t.data.toList) : s = t := by
  obtain ⟨⟨l⟩⟩ := s
  obtain ⟨⟨m⟩⟩ := t
  simp at h
  rw [h]
theorem size_lst (s : ByteArray) : s.size = s.data.toList.length := by obtain ⟨⟨l⟩⟩ := s; rfl
end Go.Proofs.Ytaiocplkhhlndaa
