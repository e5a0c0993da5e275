import Derived.Test.YtjohjiknngagiaaK2
namespace Go.Proofs.Ytjohjiknngagiaa
open Go.RowKit
set_option maxRecDepth 4000

set_option maxHeartbeats 1600000 in
theorem numI0_any (xs : List Int) (F : Int → Int) (fid : FuncId) (hcf : ∀ (args : Array Value) (w : World), (callFunc fid args).run Try.prog w = .ok (.enter fid args) w) (a : Option Addr) (cap B : Nat) (w : World) (h : RdS w B a xs) (hB : B ≤ w.heap.size) (hlen : xs.length ≤ 1000)
    (hcl : ∀ j, j < xs.length → ∀ w', Below w.heap.size w w' → Calls Try.prog fid #[.int .i64 (xs.getD j 0)] w' fun e w'' => e = .returned (.int .i64 (F (xs.getD j 0))) ∧ Below w'.heap.size w' w'') :
    Calls Try.prog 70 #[.slice a xs.length cap, .func (.func fid) #[] #[]] w fun e w' => ∃ v, e = .returned v ∧ OI w' w.heap.size w'.heap.size v (xs.map F) ∧ Below w.heap.size w w' := by
  have HCL := Lib.hid hcl
  have HE : Hid (xs.map F = (xs.take xs.length).map F) := Lib.hid (by rw [List.take_length])
  obtain ⟨b, off, ⟨hm, hc⟩, hbB⟩ := h
  have HC := Lib.hid hc
  clear hc hcl hm
  go_enter Try.func70, Try.ntmps70
  go_wp2_with fail
  go_loopw [5, 10] (fun v5 v10 wr => ∃ k : Nat, k ≤ xs.length ∧ v10 = .int .i64 k ∧ wr.ownsRow w.heap.size 3 1 v5 ((xs.take k).map F).length (((xs.take k).map F).map (Value.int .i64)) ∧ Below w.heap.size w wr) (fun _ v10 _ => xs.length - (intOf v10).toNat)
  case atStart => exact ⟨0, Nat.zero_le _, rfl, World.ownsRow_nil _ _ _ _, Below.refl _ _⟩
  case round =>
    obtain ⟨k, hk, rfl, ho, hb⟩ := hrel
    obtain ⟨wq, rfl⟩ : ∃ wq : World, wq = wr := ⟨_, rfl⟩
    have hz := hb.size
    by_cases hlt : k < xs.length
    · have hki : (k : Int) < (xs.length : Int) := by omega
      obtain ⟨ha, c⟩ := HC.out k hlt
      subst ha
      have c1 : wq.cell? ⟨b, off + k, none⟩ = some (.int .i64 (xs.getD k 0)) := (hb.cell (by show b < w.heap.size; omega)).trans c
      have HF := Lib.hid (HCL.out k hlt wq hb)
      have HL : Hid (((xs.take k).map F).length ≤ 1000) := Lib.hid (by rw [List.length_map, List.length_take]; omega)
      have HS : Hid ((xs.take (k + 1)).map F = (xs.take k).map F ++ [F (xs.getD k 0)]) := Lib.hid (by
        rw [List.take_add_one, List.map_append, List.getElem?_eq_getElem hlt, List.getD_eq_getElem?_getD, List.getElem?_eq_getElem hlt]; rfl)
      clear c
      generalize (xs.take k).map F = ys at *
      generalize F (xs.getD k 0) = y at *
      generalize xs.getD k 0 = x at *
      have HO := Lib.hid ho
      clear ho
      go_wp2_with fail
      first | rw [hcf] | simp only [hcf] | skip
      go_wp2_with fail
      refine HF.out.mono ?_
      rintro e w2 ⟨rfl, hb2⟩
      have hz2 := hb2.size
      go_wp2_with (at_builtin; go_loud (refine append_int w.heap.size w2 _ ys _ rfl _ _ rfl rfl rfl (own_now HO.out hb2) (by omega) (by have := HL.out; omega) ?_; intro v' w3 ho3 hb3))
      go_roundw
      case rel => exact ⟨k + 1, by omega, by go_num, by rw [HS.out]; exact ho3, (hb.trans (hb2.mono hz)).trans hb3⟩
      case measure => simp [intOf]; omega
    · have hk2 : k = xs.length := by omega
      rw [hk2, ← HE.out] at ho
      have HK := Lib.hid hk2
      clear hk2
      go_wp2_with fail
      go_ret
      exact ⟨_, rfl, oi_new ho, hb⟩
set_option maxHeartbeats 1600000 in
theorem whrI0_any (xs : List Int) (F : Int → Bool) (fid : FuncId) (hcf : ∀ (args : Array Value) (w : World), (callFunc fid args).run Try.prog w = .ok (.enter fid args) w) (a : Option Addr) (cap B : Nat) (w : World) (h : RdS w B a xs) (hB : B ≤ w.heap.size) (hlen : xs.length ≤ 1000)
    (hcl : ∀ j, j < xs.length → ∀ w', Below w.heap.size w w' → Calls Try.prog fid #[.int .i64 (xs.getD j 0)] w' fun e w'' => e = .returned (.bool (F (xs.getD j 0))) ∧ Below w'.heap.size w' w'') :
    Calls Try.prog 62 #[.slice a xs.length cap, .func (.func fid) #[] #[]] w fun e w' => ∃ v, e = .returned v ∧ OI w' w.heap.size w'.heap.size v (xs.filter F) ∧ Below w.heap.size w w' := by
  have HCL := Lib.hid hcl
  have HE : Hid (xs.filter F = (xs.take xs.length).filter F) := Lib.hid (by rw [List.take_length])
  obtain ⟨b, off, ⟨hm, hc⟩, hbB⟩ := h
  have HC := Lib.hid hc
  clear hc hcl hm
  go_enter Try.func62, Try.ntmps62
  go_wp2_with fail
  go_loopw [5, 10] (fun v5 v10 wr => ∃ k : Nat, k ≤ xs.length ∧ v10 = .int .i64 k ∧ wr.ownsRow w.heap.size 71 1 v5 ((xs.take k).filter F).length (((xs.take k).filter F).map (Value.int .i64)) ∧ Below w.heap.size w wr) (fun _ v10 _ => xs.length - (intOf v10).toNat)
  case atStart => exact ⟨0, Nat.zero_le _, rfl, World.ownsRow_nil _ _ _ _, Below.refl _ _⟩
  case round =>
    obtain ⟨k, hk, rfl, ho, hb⟩ := hrel
    obtain ⟨wq, rfl⟩ : ∃ wq : World, wq = wr := ⟨_, rfl⟩
    have hz := hb.size
    by_cases hlt : k < xs.length
    · have hki : (k : Int) < (xs.length : Int) := by omega
      obtain ⟨ha, c⟩ := HC.out k hlt
      subst ha
      have c1 : wq.cell? ⟨b, off + k, none⟩ = some (.int .i64 (xs.getD k 0)) := (hb.cell (by show b < w.heap.size; omega)).trans c
      have HF := Lib.hid (HCL.out k hlt wq hb)
      have HL : Hid (((xs.take k).filter F).length ≤ 1000) := Lib.hid (by
        have := List.length_filter_le F (xs.take k)
        rw [List.length_take] at this; omega)
      have HS : Hid ((xs.take (k + 1)).filter F = (xs.take k).filter F ++ (if F (xs.getD k 0) then [xs.getD k 0] else [])) := Lib.hid (by
        rw [List.take_add_one, List.filter_append, List.getElem?_eq_getElem hlt, List.getD_eq_getElem?_getD, List.getElem?_eq_getElem hlt]
        simp only [Option.toList_some, Option.getD_some]
        cases hF : F xs[k] <;> simp [hF])
      clear c
      generalize (xs.take k).filter F = ys at *
      cases hy : F (xs.getD k 0)
      · rw [hy] at HS HF
        replace HS : Hid ((xs.take (k + 1)).filter F = ys) := Lib.hid (by rw [HS.out]; simp)
        generalize xs.getD k 0 = x at *
        have HO := Lib.hid ho
        clear ho hy
        go_wp2_with fail
        first | rw [hcf] | simp only [hcf] | skip
        go_wp2_with fail
        refine HF.out.mono ?_
        rintro e w2 ⟨rfl, hb2⟩
        go_wp2_with fail
        go_roundw
        case rel => exact ⟨k + 1, by omega, by go_num, by rw [HS.out]; exact own_now HO.out hb2, hb.trans (hb2.mono hz)⟩
        case measure => simp [intOf]; omega
      · rw [hy] at HS HF
        replace HS : Hid ((xs.take (k + 1)).filter F = ys ++ [xs.getD k 0]) := Lib.hid (by rw [HS.out]; simp)
        generalize xs.getD k 0 = x at *
        have HO := Lib.hid ho
        clear ho hy
        go_wp2_with fail
        first | rw [hcf] | simp only [hcf] | skip
        go_wp2_with fail
        refine HF.out.mono ?_
        rintro e w2 ⟨rfl, hb2⟩
        have hz2 := hb2.size
        go_wp2_with (at_builtin; go_loud (refine append_itm w.heap.size w2 _ ys _ rfl _ _ rfl rfl rfl (own_now HO.out hb2) (by omega) (by have := HL.out; omega) ?_; intro v' w3 ho3 hb3))
        go_roundw
        case rel => exact ⟨k + 1, by omega, by go_num, by rw [HS.out]; exact ho3, (hb.trans (hb2.mono hz)).trans hb3⟩
        case measure => simp [intOf]; omega
    · have hk2 : k = xs.length := by omega
      rw [hk2, ← HE.out] at ho
      have HK := Lib.hid hk2
      clear hk2
      go_wp2_with fail
      go_ret
      exact ⟨_, rfl, oi_new ho, hb⟩

set_option maxHeartbeats 1600000 in
theorem numIP_any (xs : List Int) (F : Int → Int) (fid : FuncId) (c : Value) (hcf : ∀ (args : Array Value) (w : World), (callFunc fid args).run Try.prog w = .ok (.enter fid args) w) (a : Option Addr) (cap B : Nat) (w : World) (h : RdS w B a xs) (hB : B ≤ w.heap.size) (hlen : xs.length ≤ 1000)
    (hcl : ∀ j, j < xs.length → ∀ w', Below w.heap.size w w' → Calls Try.prog fid #[c, .int .i64 (xs.getD j 0)] w' fun e w'' => e = .returned (.int .i64 (F (xs.getD j 0))) ∧ Below w'.heap.size w' w'') :
    Calls Try.prog 70 #[.slice a xs.length cap, .func (.func fid) #[c] #[]] w fun e w' => ∃ v, e = .returned v ∧ OI w' w.heap.size w'.heap.size v (xs.map F) ∧ Below w.heap.size w w' := by
  have HCL := Lib.hid hcl
  have HE : Hid (xs.map F = (xs.take xs.length).map F) := Lib.hid (by rw [List.take_length])
  obtain ⟨b, off, ⟨hm, hc⟩, hbB⟩ := h
  have HC := Lib.hid hc
  clear hc hcl hm
  go_enter Try.func70, Try.ntmps70
  go_wp2_with fail
  go_loopw [5, 10] (fun v5 v10 wr => ∃ k : Nat, k ≤ xs.length ∧ v10 = .int .i64 k ∧ wr.ownsRow w.heap.size 3 1 v5 ((xs.take k).map F).length (((xs.take k).map F).map (Value.int .i64)) ∧ Below w.heap.size w wr) (fun _ v10 _ => xs.length - (intOf v10).toNat)
  case atStart => exact ⟨0, Nat.zero_le _, rfl, World.ownsRow_nil _ _ _ _, Below.refl _ _⟩
  case round =>
    obtain ⟨k, hk, rfl, ho, hb⟩ := hrel
    obtain ⟨wq, rfl⟩ : ∃ wq : World, wq = wr := ⟨_, rfl⟩
    have hz := hb.size
    by_cases hlt : k < xs.length
    · have hki : (k : Int) < (xs.length : Int) := by omega
      obtain ⟨ha, c⟩ := HC.out k hlt
      subst ha
      have c1 : wq.cell? ⟨b, off + k, none⟩ = some (.int .i64 (xs.getD k 0)) := (hb.cell (by show b < w.heap.size; omega)).trans c
      have HF := Lib.hid (HCL.out k hlt wq hb)
      have HL : Hid (((xs.take k).map F).length ≤ 1000) := Lib.hid (by rw [List.length_map, List.length_take]; omega)
      have HS : Hid ((xs.take (k + 1)).map F = (xs.take k).map F ++ [F (xs.getD k 0)]) := Lib.hid (by
        rw [List.take_add_one, List.map_append, List.getElem?_eq_getElem hlt, List.getD_eq_getElem?_getD, List.getElem?_eq_getElem hlt]; rfl)
      clear c
      generalize (xs.take k).map F = ys at *
      generalize F (xs.getD k 0) = y at *
      generalize xs.getD k 0 = x at *
      have HO := Lib.hid ho
      clear ho
      go_wp2_with fail
      first | rw [hcf] | simp only [hcf] | skip
      go_wp2_with fail
      refine HF.out.mono ?_
      rintro e w2 ⟨rfl, hb2⟩
      have hz2 := hb2.size
      go_wp2_with (at_builtin; go_loud (refine append_int w.heap.size w2 _ ys _ rfl _ _ rfl rfl rfl (own_now HO.out hb2) (by omega) (by have := HL.out; omega) ?_; intro v' w3 ho3 hb3))
      go_roundw
      case rel => exact ⟨k + 1, by omega, by go_num, by rw [HS.out]; exact ho3, (hb.trans (hb2.mono hz)).trans hb3⟩
      case measure => simp [intOf]; omega
    · have hk2 : k = xs.length := by omega
      rw [hk2, ← HE.out] at ho
      have HK := Lib.hid hk2
      clear hk2
      go_wp2_with fail
      go_ret
      exact ⟨_, rfl, oi_new ho, hb⟩
set_option maxHeartbeats 1600000 in
theorem whrIP_any (xs : List Int) (F : Int → Bool) (fid : FuncId) (c : Value) (hcf : ∀ (args : Array Value) (w : World), (callFunc fid args).run Try.prog w = .ok (.enter fid args) w) (a : Option Addr) (cap B : Nat) (w : World) (h : RdS w B a xs) (hB : B ≤ w.heap.size) (hlen : xs.length ≤ 1000)
    (hcl : ∀ j, j < xs.length → ∀ w', Below w.heap.size w w' → Calls Try.prog fid #[c, .int .i64 (xs.getD j 0)] w' fun e w'' => e = .returned (.bool (F (xs.getD j 0))) ∧ Below w'.heap.size w' w'') :
    Calls Try.prog 62 #[.slice a xs.length cap, .func (.func fid) #[c] #[]] w fun e w' => ∃ v, e = .returned v ∧ OI w' w.heap.size w'.heap.size v (xs.filter F) ∧ Below w.heap.size w w' := by
  have HCL := Lib.hid hcl
  have HE : Hid (xs.filter F = (xs.take xs.length).filter F) := Lib.hid (by rw [List.take_length])
  obtain ⟨b, off, ⟨hm, hc⟩, hbB⟩ := h
  have HC := Lib.hid hc
  clear hc hcl hm
  go_enter Try.func62, Try.ntmps62
  go_wp2_with fail
  go_loopw [5, 10] (fun v5 v10 wr => ∃ k : Nat, k ≤ xs.length ∧ v10 = .int .i64 k ∧ wr.ownsRow w.heap.size 71 1 v5 ((xs.take k).filter F).length (((xs.take k).filter F).map (Value.int .i64)) ∧ Below w.heap.size w wr) (fun _ v10 _ => xs.length - (intOf v10).toNat)
  case atStart => exact ⟨0, Nat.zero_le _, rfl, World.ownsRow_nil _ _ _ _, Below.refl _ _⟩
  case round =>
    obtain ⟨k, hk, rfl, ho, hb⟩ := hrel
    obtain ⟨wq, rfl⟩ : ∃ wq : World, wq = wr := ⟨_, rfl⟩
    have hz := hb.size
    by_cases hlt : k < xs.length
    · have hki : (k : Int) < (xs.length : Int) := by omega
      obtain ⟨ha, c⟩ := HC.out k hlt
      subst ha
      have c1 : wq.cell? ⟨b, off + k, none⟩ = some (.int .i64 (xs.getD k 0)) := (hb.cell (by show b < w.heap.size; omega)).trans c
      have HF := Lib.hid (HCL.out k hlt wq hb)
      have HL : Hid (((xs.take k).filter F).length ≤ 1000) := Lib.hid (by
        have := List.length_filter_le F (xs.take k)
        rw [List.length_take] at this; omega)
      have HS : Hid ((xs.take (k + 1)).filter F = (xs.take k).filter F ++ (if F (xs.getD k 0) then [xs.getD k 0] else [])) := Lib.hid (by
        rw [List.take_add_one, List.filter_append, List.getElem?_eq_getElem hlt, List.getD_eq_getElem?_getD, List.getElem?_eq_getElem hlt]
        simp only [Option.toList_some, Option.getD_some]
        cases hF : F xs[k] <;> simp [hF])
      clear c
      generalize (xs.take k).filter F = ys at *
      cases hy : F (xs.getD k 0)
      · rw [hy] at HS HF
        replace HS : Hid ((xs.take (k + 1)).filter F = ys) := Lib.hid (by rw [HS.out]; simp)
        generalize xs.getD k 0 = x at *
        have HO := Lib.hid ho
        clear ho hy
        go_wp2_with fail
        first | rw [hcf] | simp only [hcf] | skip
        go_wp2_with fail
        refine HF.out.mono ?_
        rintro e w2 ⟨rfl, hb2⟩
        go_wp2_with fail
        go_roundw
        case rel => exact ⟨k + 1, by omega, by go_num, by rw [HS.out]; exact own_now HO.out hb2, hb.trans (hb2.mono hz)⟩
        case measure => simp [intOf]; omega
      · rw [hy] at HS HF
        replace HS : Hid ((xs.take (k + 1)).filter F = ys ++ [xs.getD k 0]) := Lib.hid (by rw [HS.out]; simp)
        generalize xs.getD k 0 = x at *
        have HO := Lib.hid ho
        clear ho hy
        go_wp2_with fail
        first | rw [hcf] | simp only [hcf] | skip
        go_wp2_with fail
        refine HF.out.mono ?_
        rintro e w2 ⟨rfl, hb2⟩
        have hz2 := hb2.size
        go_wp2_with (at_builtin; go_loud (refine append_itm w.heap.size w2 _ ys _ rfl _ _ rfl rfl rfl (own_now HO.out hb2) (by omega) (by have := HL.out; omega) ?_; intro v' w3 ho3 hb3))
        go_roundw
        case rel => exact ⟨k + 1, by omega, by go_num, by rw [HS.out]; exact ho3, (hb.trans (hb2.mono hz)).trans hb3⟩
        case measure => simp [intOf]; omega
    · have hk2 : k = xs.length := by omega
      rw [hk2, ← HE.out] at ho
      have HK := Lib.hid hk2
      clear hk2
      go_wp2_with fail
      go_ret
      exact ⟨_, rfl, oi_new ho, hb⟩

set_option maxHeartbeats 1600000 in
theorem numIC_any (xs : List Int) (F : Int → Int) (fid : FuncId) (c : Value) (hcf : ∀ (args : Array Value) (w : World), (callFunc fid args).run Try.prog w = .ok (.enter fid args) w) (a : Option Addr) (cap B : Nat) (w : World) (h : RdS w B a xs) (hB : B ≤ w.heap.size) (hlen : xs.length ≤ 1000)
    (hcl : ∀ j, j < xs.length → ∀ w', Below w.heap.size w w' → Calls Try.prog fid #[.int .i64 (xs.getD j 0), c] w' fun e w'' => e = .returned (.int .i64 (F (xs.getD j 0))) ∧ Below w'.heap.size w' w'') :
    Calls Try.prog 70 #[.slice a xs.length cap, .func (.func fid) #[] #[c]] w fun e w' => ∃ v, e = .returned v ∧ OI w' w.heap.size w'.heap.size v (xs.map F) ∧ Below w.heap.size w w' := by
  have HCL := Lib.hid hcl
  have HE : Hid (xs.map F = (xs.take xs.length).map F) := Lib.hid (by rw [List.take_length])
  obtain ⟨b, off, ⟨hm, hc⟩, hbB⟩ := h
  have HC := Lib.hid hc
  clear hc hcl hm
  go_enter Try.func70, Try.ntmps70
  go_wp2_with fail
  go_loopw [5, 10] (fun v5 v10 wr => ∃ k : Nat, k ≤ xs.length ∧ v10 = .int .i64 k ∧ wr.ownsRow w.heap.size 3 1 v5 ((xs.take k).map F).length (((xs.take k).map F).map (Value.int .i64)) ∧ Below w.heap.size w wr) (fun _ v10 _ => xs.length - (intOf v10).toNat)
  case atStart => exact ⟨0, Nat.zero_le _, rfl, World.ownsRow_nil _ _ _ _, Below.refl _ _⟩
  case round =>
    obtain ⟨k, hk, rfl, ho, hb⟩ := hrel
    obtain ⟨wq, rfl⟩ : ∃ wq : World, wq = wr := ⟨_, rfl⟩
    have hz := hb.size
    by_cases hlt : k < xs.length
    · have hki : (k : Int) < (xs.length : Int) := by omega
      obtain ⟨ha, c⟩ := HC.out k hlt
      subst ha
      have c1 : wq.cell? ⟨b, off + k, none⟩ = some (.int .i64 (xs.getD k 0)) := (hb.cell (by show b < w.heap.size; omega)).trans c
      have HF := Lib.hid (HCL.out k hlt wq hb)
      have HL : Hid (((xs.take k).map F).length ≤ 1000) := Lib.hid (by rw [List.length_map, List.length_take]; omega)
      have HS : Hid ((xs.take (k + 1)).map F = (xs.take k).map F ++ [F (xs.getD k 0)]) := Lib.hid (by
        rw [List.take_add_one, List.map_append, List.getElem?_eq_getElem hlt, List.getD_eq_getElem?_getD, List.getElem?_eq_getElem hlt]; rfl)
      clear c
      generalize (xs.take k).map F = ys at *
      generalize F (xs.getD k 0) = y at *
      generalize xs.getD k 0 = x at *
      have HO := Lib.hid ho
      clear ho
      go_wp2_with fail
      first | rw [hcf] | simp only [hcf] | skip
      go_wp2_with fail
      refine HF.out.mono ?_
      rintro e w2 ⟨rfl, hb2⟩
      have hz2 := hb2.size
      go_wp2_with (at_builtin; go_loud (refine append_int w.heap.size w2 _ ys _ rfl _ _ rfl rfl rfl (own_now HO.out hb2) (by omega) (by have := HL.out; omega) ?_; intro v' w3 ho3 hb3))
      go_roundw
      case rel => exact ⟨k + 1, by omega, by go_num, by rw [HS.out]; exact ho3, (hb.trans (hb2.mono hz)).trans hb3⟩
      case measure => simp [intOf]; omega
    · have hk2 : k = xs.length := by omega
      rw [hk2, ← HE.out] at ho
      have HK := Lib.hid hk2
      clear hk2
      go_wp2_with fail
      go_ret
      exact ⟨_, rfl, oi_new ho, hb⟩
set_option maxHeartbeats 1600000 in
theorem whrIC_any (xs : List Int) (F : Int → Bool) (fid : FuncId) (c : Value) (hcf : ∀ (args : Array Value) (w : World), (callFunc fid args).run Try.prog w = .ok (.enter fid args) w) (a : Option Addr) (cap B : Nat) (w : World) (h : RdS w B a xs) (hB : B ≤ w.heap.size) (hlen : xs.length ≤ 1000)
    (hcl : ∀ j, j < xs.length → ∀ w', Below w.heap.size w w' → Calls Try.prog fid #[.int .i64 (xs.getD j 0), c] w' fun e w'' => e = .returned (.bool (F (xs.getD j 0))) ∧ Below w'.heap.size w' w'') :
    Calls Try.prog 62 #[.slice a xs.length cap, .func (.func fid) #[] #[c]] w fun e w' => ∃ v, e = .returned v ∧ OI w' w.heap.size w'.heap.size v (xs.filter F) ∧ Below w.heap.size w w' := by
  have HCL := Lib.hid hcl
  have HE : Hid (xs.filter F = (xs.take xs.length).filter F) := Lib.hid (by rw [List.take_length])
  obtain ⟨b, off, ⟨hm, hc⟩, hbB⟩ := h
  have HC := Lib.hid hc
  clear hc hcl hm
  go_enter Try.func62, Try.ntmps62
  go_wp2_with fail
  go_loopw [5, 10] (fun v5 v10 wr => ∃ k : Nat, k ≤ xs.length ∧ v10 = .int .i64 k ∧ wr.ownsRow w.heap.size 71 1 v5 ((xs.take k).filter F).length (((xs.take k).filter F).map (Value.int .i64)) ∧ Below w.heap.size w wr) (fun _ v10 _ => xs.length - (intOf v10).toNat)
  case atStart => exact ⟨0, Nat.zero_le _, rfl, World.ownsRow_nil _ _ _ _, Below.refl _ _⟩
  case round =>
    obtain ⟨k, hk, rfl, ho, hb⟩ := hrel
    obtain ⟨wq, rfl⟩ : ∃ wq : World, wq = wr := ⟨_, rfl⟩
    have hz := hb.size
    by_cases hlt : k < xs.length
    · have hki : (k : Int) < (xs.length : Int) := by omega
      obtain ⟨ha, c⟩ := HC.out k hlt
      subst ha
      have c1 : wq.cell? ⟨b, off + k, none⟩ = some (.int .i64 (xs.getD k 0)) := (hb.cell (by show b < w.heap.size; omega)).trans c
      have HF := Lib.hid (HCL.out k hlt wq hb)
      have HL : Hid (((xs.take k).filter F).length ≤ 1000) := Lib.hid (by
        have := List.length_filter_le F (xs.take k)
        rw [List.length_take] at this; omega)
      have HS : Hid ((xs.take (k + 1)).filter F = (xs.take k).filter F ++ (if F (xs.getD k 0) then [xs.getD k 0] else [])) := Lib.hid (by
        rw [List.take_add_one, List.filter_append, List.getElem?_eq_getElem hlt, List.getD_eq_getElem?_getD, List.getElem?_eq_getElem hlt]
        simp only [Option.toList_some, Option.getD_some]
        cases hF : F xs[k] <;> simp [hF])
      clear c
      generalize (xs.take k).filter F = ys at *
      cases hy : F (xs.getD k 0)
      · rw [hy] at HS HF
        replace HS : Hid ((xs.take (k + 1)).filter F = ys) := Lib.hid (by rw [HS.out]; simp)
        generalize xs.getD k 0 = x at *
        have HO := Lib.hid ho
        clear ho hy
        go_wp2_with fail
        first | rw [hcf] | simp only [hcf] | skip
        go_wp2_with fail
        refine HF.out.mono ?_
        rintro e w2 ⟨rfl, hb2⟩
        go_wp2_with fail
        go_roundw
        case rel => exact ⟨k + 1, by omega, by go_num, by rw [HS.out]; exact own_now HO.out hb2, hb.trans (hb2.mono hz)⟩
        case measure => simp [intOf]; omega
      · rw [hy] at HS HF
        replace HS : Hid ((xs.take (k + 1)).filter F = ys ++ [xs.getD k 0]) := Lib.hid (by rw [HS.out]; simp)
        generalize xs.getD k 0 = x at *
        have HO := Lib.hid ho
        clear ho hy
        go_wp2_with fail
        first | rw [hcf] | simp only [hcf] | skip
        go_wp2_with fail
        refine HF.out.mono ?_
        rintro e w2 ⟨rfl, hb2⟩
        have hz2 := hb2.size
        go_wp2_with (at_builtin; go_loud (refine append_itm w.heap.size w2 _ ys _ rfl _ _ rfl rfl rfl (own_now HO.out hb2) (by omega) (by have := HL.out; omega) ?_; intro v' w3 ho3 hb3))
        go_roundw
        case rel => exact ⟨k + 1, by omega, by go_num, by rw [HS.out]; exact ho3, (hb.trans (hb2.mono hz)).trans hb3⟩
        case measure => simp [intOf]; omega
    · have hk2 : k = xs.length := by omega
      rw [hk2, ← HE.out] at ho
      have HK := Lib.hid hk2
      clear hk2
      go_wp2_with fail
      go_ret
      exact ⟨_, rfl, oi_new ho, hb⟩
end Go.Proofs.Ytjohjiknngagiaa
