import Derived.Test.YtjbdhgomcchoaaaAl
namespace Go.Proofs.Ytjbdhgomcchoaaa
open Go.RowKit
set_option maxHeartbeats 400000 in
theorem markIntS_only (et : TypeId) (xs : List Int) (a : Option Addr) (base n cap : Nat) (k : Int) (w : World) (ho : w.ownsRow base et 1 (.slice a n cap) n (xs.map (Value.int .i64))) (hk0 : 0 ≤ k) (hk : k + xs.length ≤ 9223372036854775807) :
    Calls Try.prog 23 #[.slice a n cap, .int .i64 k] w fun e w' => e = .returned (.int .i64 (k + n)) ∧ w'.ownsRow base et 1 (.slice a n cap) n ((mkd k n xs).map (Value.int .i64)) ∧ Below base w w' ∧ ∀ k', (a = none ∨ ∃ b, a = some ⟨b, 0, none⟩ ∧ k' ≠ b) → w'.heap[k']? = w.heap[k']? := by
  obtain ⟨hn, a', cap', b, hv, ha, hrd⟩ := own_shape ho
  simp only [Value.slice.injEq] at hv
  obtain ⟨rfl, _, rfl⟩ := hv
  have hm := hrd.1
  unfold maxLen at hm
  rw [← hn] at hm hk
  have HR := Lib.hid hrd
  have HN := Lib.hid hn
  clear hrd hn
  go_enter Try.func23, Try.ntmps23
  go_wp2
  go_loopw [1, 5] (fun v1 v5 wr => ∃ j : Nat, j ≤ n ∧ v5 = .int .i64 j ∧ v1 = .int .i64 (k + j) ∧ wr.ownsRow base et 1 (.slice a n cap) n ((mkd k j xs).map (Value.int .i64)) ∧ Below base w wr ∧ ∀ k', (a = none ∨ ∃ b, a = some ⟨b, 0, none⟩ ∧ k' ≠ b) → wr.heap[k']? = w.heap[k']?) (fun _ v5 _ => n - (intOf v5).toNat)
  case atStart => exact ⟨0, Nat.zero_le _, rfl, by simp, by rw [mkd_zero]; exact ho, Below.refl _ _, fun _ _ => rfl⟩
  case round =>
    obtain ⟨j, hj, rfl, rfl, hw, hb, ho'⟩ := hrel
    have HO := Lib.hid ho'
    clear ho'
    by_cases hlt : j < n
    · have haa : a = some ⟨b, 0, none⟩ := by
        rcases ha with rfl | rfl
        · exact (HR.out.2 j (by have := HN.out; omega)).1
        · rfl
      subst haa
      have hf := hw.frozenAt j
      have hc := hw.cellAt j (by omega)
      have hst := hw.stored j (.int .i64 (k + j))
      rw [mkd_set k j xs (by have := HN.out; omega)] at hst
      have hbase : base ≤ b := (hw.lt b rfl).1
      have HS := Lib.hid hst
      have hl : j < ((mkd k j xs).map (Value.int .i64)).length := by rw [List.length_map, mkd_len _ _ _ (by have := HN.out; omega)]; have := HN.out; omega
      rw [List.getElem?_eq_getElem hl] at hc
      generalize ((mkd k j xs).map (Value.int .i64))[j] = old at hc
      clear hst hw hl ho
      go_wp2
      go_roundw
      case rel => exact ⟨j + 1, by omega, by go_num, by simp; omega, HS.out.1, hb.setCell hbase _, fun k' hk' => (Below.heap_setCell _ _ _ _ (by
          rcases hk' with h | ⟨b', h, hne⟩
          · cases h
          · cases h; exact hne)).trans (HO.out k' hk')⟩
      case measure => simp [intOf]; omega
    · have hj2 : j = n := by omega
      subst hj2
      go_wp2
      go_ret
      exact ⟨rfl, hw, hb, HO.out⟩
theorem own_keep {w w' : World} {base e size n : Nat} {v : Value} {xs : List Value} (h : w.ownsRow base e size v n xs) (hk : ∀ k, v.ownBlock = some k → w'.heap[k]? = w.heap[k]?) : w'.ownsRow base e size v n xs := by
  obtain ⟨h1, h2⟩ := h
  refine ⟨h1, ?_⟩
  rcases h2 with h2 | ⟨g, cap, cur, rfl, hg, hh, r⟩
  · exact .inl h2
  · exact .inr ⟨g, cap, cur, rfl, hg, by rw [hk g rfl]; exact hh, r⟩
end Go.Proofs.Ytjbdhgomcchoaaa
