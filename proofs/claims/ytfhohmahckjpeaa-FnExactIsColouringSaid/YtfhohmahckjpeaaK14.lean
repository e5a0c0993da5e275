import Derived.BigQuiet
import Derived.Test.YtfhohmahckjpeaaK13
namespace Go.Proofs.Ytfhohmahckjpeaa
open Go.RowKit
set_option maxRecDepth 4000
theorem balloc2 (B : Nat) (w : World) (o : Obj) (h : B ≤ w.heap.size) : Below B w (w.alloc o) := (Below.refl B w).alloc h o
set_option maxHeartbeats 3200000 in
theorem knClash_any (l : List Nat) (cs : List Int) (hls : ∀ s ∈ l, s < 256) (hcl : cs.length = l.length) (hlen : l.length ≤ 256) (r : Option (Nat × Nat)) (hr : ResOf (clS l cs) l.length r) (a a' : Option Addr) (cap cap' B B' : Nat) (w : World) (h : RdS w B a (toI l)) (h' : RdS w B' a' cs) :
    Calls Try.prog 50 #[.slice a l.length cap, .slice a' l.length cap'] w fun e w' => ∃ v, e = .returned (.tuple #[v, .bool r.isSome]) ∧ OI w' w.heap.size w'.heap.size v (twoL l r) ∧ Below w.heap.size w w' := by
  obtain ⟨b, off, ⟨hm, hc⟩, hbB⟩ := h
  obtain ⟨b', off', ⟨hm', hc'⟩, hbB'⟩ := h'
  have hlt' := toI_len l
  have HC : Hid (∀ j, j < l.length → a = some ⟨b, off, none⟩ ∧ w.cell? ⟨b, off + j, none⟩ = some (.int .i64 (l.getD j 0 : Nat))) := Lib.hid (fun j hj => by
    have := hc j (by omega)
    rw [toI_at] at this; exact this)
  have HD : Hid (∀ j, j < l.length → a' = some ⟨b', off', none⟩ ∧ w.cell? ⟨b', off' + j, none⟩ = some (.int .i64 (cs.getD j 0))) := Lib.hid (fun j hj => hc' j (by omega))
  have HX := Lib.hid (fun j (hj : j < l.length) => mem_getD hls j hj)
  have HF := Lib.hid (fun i j => @res_found (clS l cs) l.length r hr i j)
  have HN := Lib.hid (res_none hr)
  have HCL : Hid (∀ i j, clS l cs i j = (decide (l.getD i 0 &&& l.getD j 0 = 0) && (cs.getD i 0 == cs.getD j 0))) := Lib.hid (fun i j => rfl)
  have HTW : Hid (∀ i j, twoL l (some (i, j)) = [((l.getD i 0 : Nat) : Int), ((l.getD j 0 : Nat) : Int)]) := Lib.hid (fun i j => rfl)
  clear hc hc' hm hm' hbB hbB' hlt' hls hcl hr
  go_enter Try.func50, Try.ntmps50
  go_wp2_with fail
  go_loopw [11] (fun v11 wr => ∃ i : Nat, i ≤ l.length ∧ v11 = .int .i64 i ∧ (∀ i' j', i' < i → i' < j' → j' < l.length → clS l cs i' j' = false) ∧ Same w wr) (fun v11 _ => l.length - (intOf v11).toNat)
  case atStart => exact ⟨0, Nat.zero_le _, rfl, fun _ _ h => by omega, Same.refl _⟩
  case round =>
    obtain ⟨i, hi, rfl, hrows, hs⟩ := hrel
    obtain ⟨wq, rfl⟩ : ∃ wq : World, wq = wr := ⟨_, rfl⟩
    have HR := Lib.hid hrows
    clear hrows
    by_cases hlt : i < l.length
    · have hii : (i : Int) < (l.length : Int) := by omega
      obtain ⟨ha, c⟩ := HC.out i hlt
      obtain ⟨ha', d⟩ := HD.out i hlt
      have c1 : wq.cell? ⟨b, off + i, none⟩ = some (.int .i64 (l.getD i 0 : Nat)) := (hs.cell _).trans c
      have hx := HX.out i hlt
      subst ha ha'
      obtain ⟨x, hxx⟩ : ∃ x, x = l.getD i 0 := ⟨_, rfl⟩
      obtain ⟨y, hyy⟩ : ∃ y, y = cs.getD i 0 := ⟨_, rfl⟩
      rw [← hxx] at c1 hx
      rw [← hyy] at d
      have HXX := Lib.hid hxx
      have HYY := Lib.hid hyy
      clear c hxx hyy
      go_wp2_with fail
      go_loopw [8] (fun v8 wr => ∃ j : Nat, i < j ∧ j ≤ l.length ∧ v8 = .int .i64 j ∧ (∀ j', i < j' → j' < j → clS l cs i j' = false) ∧ Same w wr) (fun v8 _ => l.length - (intOf v8).toNat)
      case atStart => exact ⟨i + 1, by omega, by omega, by go_num, fun j' h1 h2 => by omega, hs⟩
      case round =>
        clear c1 hs
        obtain ⟨j, hij, hj, rfl, hrow, hs⟩ := hrel
        obtain ⟨wp, rfl⟩ : ∃ wp : World, wp = wr := ⟨_, rfl⟩
        have HW := Lib.hid hrow
        clear hrow
        by_cases hjl : j < l.length
        · have hjj : (j : Int) < (l.length : Int) := by omega
          obtain ⟨-, e⟩ := HC.out j hjl
          obtain ⟨-, f⟩ := HD.out j hjl
          have e1 : wp.cell? ⟨b, off + j, none⟩ = some (.int .i64 (l.getD j 0 : Nat)) := (hs.cell _).trans e
          have f1 : wp.cell? ⟨b', off' + j, none⟩ = some (.int .i64 (cs.getD j 0)) := (hs.cell _).trans f
          have d1 : wp.cell? ⟨b', off' + i, none⟩ = some (.int .i64 y) := (hs.cell _).trans d
          have hz := HX.out j hjl
          have HCB : Hid (clS l cs i j = (decide (x &&& l.getD j 0 = 0) && (y == cs.getD j 0))) := Lib.hid (by rw [HCL.out, HXX.out, HYY.out])
          have HTT : Hid (twoL l (some (i, j)) = [(x : Int), ((l.getD j 0 : Nat) : Int)]) := Lib.hid (by rw [HTW.out, HXX.out])
          clear e f
          generalize l.getD j 0 = x2 at *
          generalize cs.getD j 0 = y2 at *
          have HAP := apart_eq x x2 hx hz
          have HNX : Hid (clS l cs i j = false → ∀ j', i < j' → j' < j + 1 → clS l cs i j' = false) := Lib.hid (fun hc j' h1 h2 => by
            by_cases he : j' = j
            · rw [he]; exact hc
            · exact HW.out j' h1 (by omega))
          cases hap : decide (x &&& x2 = 0)
          · rw [hap] at HAP HCB
            have HK := Lib.hid (HNX.out (by rw [HCB.out]; rfl))
            clear hap
            go_wp2_with fail
            go_quiet (fail)
            go_wp2_with fail
            go_roundw
            case rel => exact ⟨j + 1, by omega, by omega, by go_num, HK.out, hs.drewN _⟩
            case measure => simp [intOf]; omega
          · rw [hap] at HAP HCB
            cases hyb : (y == y2)
            · rw [hyb] at HCB
              have HK := Lib.hid (HNX.out (by rw [HCB.out]; rfl))
              clear hap
              go_wp2_with fail
              go_quiet (fail)
              go_wp2_with fail
              go_roundw
              case rel => exact ⟨j + 1, by omega, by omega, by go_num, HK.out, hs.drewN _⟩
              case measure => simp [intOf]; omega
            · rw [hyb] at HCB
              have HK := Lib.hid (HF.out i j hij hjl (by rw [HCB.out]; rfl) HR.out HW.out)
              clear hap
              go_wp2_with fail
              go_quiet (fail)
              go_wp2_with fail
              go_returns
              rw [HK.out, HTT.out]
              exact ⟨_, rfl, oi_low (own_two _ _ _) (hs w.heap.size).size, ((hs.drewN _) w.heap.size).trans (balloc2 _ _ _ (hs w.heap.size).size)⟩
        · have HK : Hid (∀ i' j', i' < i + 1 → i' < j' → j' < l.length → clS l cs i' j' = false) := Lib.hid (fun i' j' h1 h2 h3 => by
            by_cases he : i' = i
            · subst he; exact HW.out j' h2 (by omega)
            · exact HR.out i' j' (by omega) h2 h3)
          go_wp2_with fail
          go_roundw
          case rel => exact ⟨i + 1, by omega, by go_num, HK.out, hs⟩
          case measure => simp [intOf]; omega
    · have HK := Lib.hid (HN.out (fun i' j' h1 => HR.out i' j' (by omega)))
      go_wp2_with fail
      go_returns
      rw [HK.out]
      exact ⟨_, rfl, oi_nil _ _ _, hs _⟩
end Go.Proofs.Ytfhohmahckjpeaa
