import Derived.Test.YtjohjiknngagiaaK18
namespace Go.Proofs.Ytjohjiknngagiaa
open Go.RowKit
set_option maxRecDepth 4000
def anyB (G : Nat → Bool) (m : Nat) : Bool := (List.range m).any G
theorem anyB_no (G : Nat → Bool) (m : Nat) (h : ∀ j, j < m → G j = false) : anyB G m = false := by
  simp only [anyB, List.any_eq_false, List.mem_range]
  intro j hj; rw [h j hj]; simp
theorem anyB_yes (G : Nat → Bool) (m j : Nat) (hj : j < m) (h : G j = true) : anyB G m = true := by
  simp only [anyB, List.any_eq_true, List.mem_range]
  exact ⟨j, hj, h⟩
set_option maxHeartbeats 1600000 in
theorem idxF0_any (l : List Nat) (cs : List Int) (m : Nat) (hm : m ≤ 1000) (G : Nat → Bool) (fid : FuncId) (hcf : ∀ (args : Array Value) (w : World), (callFunc fid args).run Try.prog w = .ok (.enter fid args) w) (a : Option Addr) (cap B : Nat) (w : World) (h : RdP w B a l cs m) (hB : B ≤ w.heap.size)
    (hcl : ∀ j, j < m → ∀ w', Below w.heap.size w w' → Calls Try.prog fid #[.agg #[.int .i64 (l.getD j 0 : Nat), .int .i64 (cs.getD j 0)]] w' fun e w'' => e = .returned (.bool (G j)) ∧ Below w'.heap.size w' w'') :
    Calls Try.prog 80 #[.slice a m cap, .func (.func fid) #[] #[]] w fun e w' => (∃ r : Int, e = .returned (.int .i64 r) ∧ decide (0 ≤ r) = anyB G m) ∧ Below w.heap.size w w' := by
  obtain ⟨b, hc⟩ := h
  have HC := Lib.hid hc
  have HCL := Lib.hid hcl
  have HNO := Lib.hid (anyB_no G m)
  have HYES := Lib.hid (anyB_yes G m)
  clear hc hcl
  go_enter Try.func80, Try.ntmps80
  go_wp2_with fail
  go_loopw [8] (fun v8 wr => ∃ k : Nat, k ≤ m ∧ v8 = .int .i64 k ∧ (∀ j, j < k → G j = false) ∧ Below w.heap.size w wr) (fun v8 _ => m - (intOf v8).toNat)
  case atStart => exact ⟨0, Nat.zero_le _, rfl, fun _ h => by omega, Below.refl _ _⟩
  case round =>
    obtain ⟨k, hk, rfl, hall, hb⟩ := hrel
    obtain ⟨wq, rfl⟩ : ∃ wq : World, wq = wr := ⟨_, rfl⟩
    have HA := Lib.hid hall
    clear hall
    have hz := hb.size
    by_cases hlt : k < m
    · have hki : (k : Int) < (m : Int) := by omega
      obtain ⟨ha, hbl, c, d⟩ := HC.out k hlt
      subst ha
      have c1 : wq.cell? ⟨b, k * 2, none⟩ = some (.int .i64 (l.getD k 0 : Nat)) := (hb.cell (p := ⟨b, k * 2, none⟩) (by show b < w.heap.size; omega)).trans c
      have d1 : wq.cell? ⟨b, k * 2 + 1, none⟩ = some (.int .i64 (cs.getD k 0)) := (hb.cell (p := ⟨b, k * 2 + 1, none⟩) (by show b < w.heap.size; omega)).trans d
      have HF := Lib.hid (HCL.out k hlt wq hb)
      have HY := Lib.hid (HYES.out k hlt)
      clear c d
      generalize l.getD k 0 = x at *
      generalize cs.getD k 0 = y at *
      cases hg : G k
      · rw [hg] at HF
        have HX : Hid (∀ j, j < k + 1 → G j = false) := Lib.hid (fun j hj => by
          by_cases e : j = k
          · rw [e]; exact hg
          · exact HA.out j (by omega))
        clear hg
        go_wp2_with fail
        first | rw [hcf] | simp only [hcf] | skip
        go_wp2_with fail
        refine HF.out.mono ?_
        rintro e w2 ⟨rfl, hb2⟩
        go_wp2_with fail
        go_roundw
        case rel => exact ⟨k + 1, by omega, by go_num, HX.out, hb.trans (hb2.mono hz)⟩
        case measure => simp [intOf]; omega
      · rw [hg] at HF
        have HX := Lib.hid (HY.out hg)
        clear hg
        go_wp2_with fail
        first | rw [hcf] | simp only [hcf] | skip
        go_wp2_with fail
        refine HF.out.mono ?_
        rintro e w2 ⟨rfl, hb2⟩
        go_wp2_with fail
        go_ret
        exact ⟨⟨_, rfl, by rw [HX.out]; simp⟩, hb.trans (hb2.mono hz)⟩
    · have HX := Lib.hid (HNO.out (fun j hj => HA.out j (by omega)))
      go_wp2_with fail
      go_ret
      exact ⟨⟨_, rfl, by rw [HX.out]; rfl⟩, hb⟩
set_option maxHeartbeats 400000 in
theorem cntF0_any (l : List Nat) (cs : List Int) (m : Nat) (hm : m ≤ 1000) (G : Nat → Bool) (fid : FuncId) (hcf : ∀ (args : Array Value) (w : World), (callFunc fid args).run Try.prog w = .ok (.enter fid args) w) (a : Option Addr) (cap B : Nat) (w : World) (h : RdP w B a l cs m) (hB : B ≤ w.heap.size)
    (hcl : ∀ j, j < m → ∀ w', Below w.heap.size w w' → Calls Try.prog fid #[.agg #[.int .i64 (l.getD j 0 : Nat), .int .i64 (cs.getD j 0)]] w' fun e w'' => e = .returned (.bool (G j)) ∧ Below w'.heap.size w' w'') :
    Calls Try.prog 69 #[.slice a m cap, .func (.func fid) #[] #[]] w fun e w' => e = .returned (.bool (anyB G m)) ∧ Below w.heap.size w w' := by
  have HI := Lib.hid (idxF0_any l cs m hm G fid hcf a cap B w h hB hcl)
  clear h hcl
  go_enter Try.func69, Try.ntmps69
  go_wp2_with fail
  refine HI.out.mono ?_
  rintro e w2 ⟨⟨r, rfl, hr⟩, hb2⟩
  have HR := Lib.hid hr
  clear hr
  go_wp2_with fail
  go_ret
  exact ⟨ret_bool (by first | exact HR.out | (rw [← HR.out]; rfl)), hb2⟩
set_option maxHeartbeats 1600000 in
theorem idxFP_any (l : List Nat) (cs : List Int) (m : Nat) (hm : m ≤ 1000) (G : Nat → Bool) (fid : FuncId) (c : Value) (hcf : ∀ (args : Array Value) (w : World), (callFunc fid args).run Try.prog w = .ok (.enter fid args) w) (a : Option Addr) (cap B : Nat) (w : World) (h : RdP w B a l cs m) (hB : B ≤ w.heap.size)
    (hcl : ∀ j, j < m → ∀ w', Below w.heap.size w w' → Calls Try.prog fid #[c, .agg #[.int .i64 (l.getD j 0 : Nat), .int .i64 (cs.getD j 0)]] w' fun e w'' => e = .returned (.bool (G j)) ∧ Below w'.heap.size w' w'') :
    Calls Try.prog 80 #[.slice a m cap, .func (.func fid) #[c] #[]] w fun e w' => (∃ r : Int, e = .returned (.int .i64 r) ∧ decide (0 ≤ r) = anyB G m) ∧ Below w.heap.size w w' := by
  obtain ⟨b, hc⟩ := h
  have HC := Lib.hid hc
  have HCL := Lib.hid hcl
  have HNO := Lib.hid (anyB_no G m)
  have HYES := Lib.hid (anyB_yes G m)
  clear hc hcl
  go_enter Try.func80, Try.ntmps80
  go_wp2_with fail
  go_loopw [8] (fun v8 wr => ∃ k : Nat, k ≤ m ∧ v8 = .int .i64 k ∧ (∀ j, j < k → G j = false) ∧ Below w.heap.size w wr) (fun v8 _ => m - (intOf v8).toNat)
  case atStart => exact ⟨0, Nat.zero_le _, rfl, fun _ h => by omega, Below.refl _ _⟩
  case round =>
    obtain ⟨k, hk, rfl, hall, hb⟩ := hrel
    obtain ⟨wq, rfl⟩ : ∃ wq : World, wq = wr := ⟨_, rfl⟩
    have HA := Lib.hid hall
    clear hall
    have hz := hb.size
    by_cases hlt : k < m
    · have hki : (k : Int) < (m : Int) := by omega
      obtain ⟨ha, hbl, c, d⟩ := HC.out k hlt
      subst ha
      have c1 : wq.cell? ⟨b, k * 2, none⟩ = some (.int .i64 (l.getD k 0 : Nat)) := (hb.cell (p := ⟨b, k * 2, none⟩) (by show b < w.heap.size; omega)).trans c
      have d1 : wq.cell? ⟨b, k * 2 + 1, none⟩ = some (.int .i64 (cs.getD k 0)) := (hb.cell (p := ⟨b, k * 2 + 1, none⟩) (by show b < w.heap.size; omega)).trans d
      have HF := Lib.hid (HCL.out k hlt wq hb)
      have HY := Lib.hid (HYES.out k hlt)
      clear c d
      generalize l.getD k 0 = x at *
      generalize cs.getD k 0 = y at *
      cases hg : G k
      · rw [hg] at HF
        have HX : Hid (∀ j, j < k + 1 → G j = false) := Lib.hid (fun j hj => by
          by_cases e : j = k
          · rw [e]; exact hg
          · exact HA.out j (by omega))
        clear hg
        go_wp2_with fail
        first | rw [hcf] | simp only [hcf] | skip
        go_wp2_with fail
        refine HF.out.mono ?_
        rintro e w2 ⟨rfl, hb2⟩
        go_wp2_with fail
        go_roundw
        case rel => exact ⟨k + 1, by omega, by go_num, HX.out, hb.trans (hb2.mono hz)⟩
        case measure => simp [intOf]; omega
      · rw [hg] at HF
        have HX := Lib.hid (HY.out hg)
        clear hg
        go_wp2_with fail
        first | rw [hcf] | simp only [hcf] | skip
        go_wp2_with fail
        refine HF.out.mono ?_
        rintro e w2 ⟨rfl, hb2⟩
        go_wp2_with fail
        go_ret
        exact ⟨⟨_, rfl, by rw [HX.out]; simp⟩, hb.trans (hb2.mono hz)⟩
    · have HX := Lib.hid (HNO.out (fun j hj => HA.out j (by omega)))
      go_wp2_with fail
      go_ret
      exact ⟨⟨_, rfl, by rw [HX.out]; rfl⟩, hb⟩
set_option maxHeartbeats 400000 in
theorem cntFP_any (l : List Nat) (cs : List Int) (m : Nat) (hm : m ≤ 1000) (G : Nat → Bool) (fid : FuncId) (c : Value) (hcf : ∀ (args : Array Value) (w : World), (callFunc fid args).run Try.prog w = .ok (.enter fid args) w) (a : Option Addr) (cap B : Nat) (w : World) (h : RdP w B a l cs m) (hB : B ≤ w.heap.size)
    (hcl : ∀ j, j < m → ∀ w', Below w.heap.size w w' → Calls Try.prog fid #[c, .agg #[.int .i64 (l.getD j 0 : Nat), .int .i64 (cs.getD j 0)]] w' fun e w'' => e = .returned (.bool (G j)) ∧ Below w'.heap.size w' w'') :
    Calls Try.prog 69 #[.slice a m cap, .func (.func fid) #[c] #[]] w fun e w' => e = .returned (.bool (anyB G m)) ∧ Below w.heap.size w w' := by
  have HI := Lib.hid (idxFP_any l cs m hm G fid c hcf a cap B w h hB hcl)
  clear h hcl
  go_enter Try.func69, Try.ntmps69
  go_wp2_with fail
  refine HI.out.mono ?_
  rintro e w2 ⟨⟨r, rfl, hr⟩, hb2⟩
  have HR := Lib.hid hr
  clear hr
  go_wp2_with fail
  go_ret
  exact ⟨ret_bool (by first | exact HR.out | (rw [← HR.out]; rfl)), hb2⟩
theorem callNeg : ∀ (args : Array Value) (w : World), (callFunc 68 args).run Try.prog w = .ok (.enter 68 args) w := fun _ _ => rfl
set_option maxHeartbeats 400000 in
theorem isNeg_any (x : Nat) (c : Int) (w : World) :
    Calls Try.prog 68 #[.agg #[.int .i64 x, .int .i64 c]] w fun e w' => e = .returned (.bool (decide (c < 0))) ∧ Below w.heap.size w w' := by
  have hb := balloc (Below.refl w.heap.size w) (.cells #[.int .i64 x, .int .i64 c] 80)
  go_enter Try.func68, Try.ntmps68
  go_wp2_with fail
  go_ret
  exact ⟨rfl, hb⟩
set_option maxHeartbeats 400000 in
theorem firstClash_any (l : List Nat) (cs : List Int) (hls : ∀ s ∈ l, s < 256) (hlen : l.length ≤ 256) (r : Option (Nat × Nat)) (hr : ResOf (clS l cs) l.length r) (a : Option Addr) (cap : Nat) (w : World) (h : RdP w w.heap.size a l cs l.length) (hcap : l.length ≤ cap) (hcm : cap ≤ maxLen) :
    Calls Try.prog 67 #[.agg #[.slice a l.length cap]] w fun e w' => ∃ v, e = .returned (.tuple #[v, .bool r.isSome]) ∧ w'.ownsRow w.heap.size 80 2 v (twN l r).length (prV (twN l r) (twC cs r) (twN l r).length) ∧ Below w.heap.size w w' := by
  have hb := balloc (Below.refl w.heap.size w) (.cells #[.slice a l.length cap] 66)
  have HF := Lib.hid (firstTwo_any l cs hls hlen r hr a cap _ (rdp_mono (rdp_bel h hb) hb.size) hcap hcm)
  clear h hr
  go_enter Try.func67, Try.ntmps67
  go_wp2_with fail
  refine HF.out.mono ?_
  rintro e w2 ⟨v, rfl, ho, hb2⟩
  go_wp2_with fail
  go_returns
  exact ⟨_, rfl, own_base ho hb.size, bnext hb hb2⟩
end Go.Proofs.Ytjohjiknngagiaa
