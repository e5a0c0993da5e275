import Derived.Test.YtokhpchnnilbaaaN18
namespace Go.Proofs.Ytokhpchnnilbaaa
open Go.RowKit
set_option maxRecDepth 4000
theorem fin_loc {wc wz : World} {b7 : Option Nat} {V : Value} (hg : wc.grownBy wz b7) (hloc : V.ownBlock = b7 ∨ ∃ b, V.ownBlock = some b ∧ wc.heap.size ≤ b) {v' : Value} {w5 w6 : World} (h5 : Below wz.heap.size wz w5) (h6 : w5.grownBy w6 V.ownBlock) (hl : v'.ownBlock = V.ownBlock ∨ ∃ b, v'.ownBlock = some b ∧ w5.heap.size ≤ b) :
    wc.grownBy w6 b7 ∧ (v'.ownBlock = b7 ∨ ∃ b, v'.ownBlock = some b ∧ wc.heap.size ≤ b) := by
  have h1 := hg.size
  have h2 := h5.size
  refine ⟨(hg.trans (grown_below h5 b7)).andThen h6 (fun j hj => ?_), ?_⟩
  · rcases hloc with e | ⟨b, e, hb⟩
    · exact .inr (e.symm.trans hj)
    · rw [e] at hj; cases hj; exact .inl hb
  · rcases hl with e | ⟨b, e, hb⟩
    · rw [e]; exact hloc
    · exact .inr ⟨b, e, by omega⟩
set_option maxHeartbeats 6400000 in
theorem cutLists_any (s : ByteArray) (h16 : s.size ≤ 16) : ∀ (k : Nat), k ≤ 4 → ∀ (f : Nat), f ≤ 17 → ∀ w : World,
    Calls Try.prog 79 #[.string s, .int .i64 (k : Nat), .int .i64 (f : Nat)] w fun e w' => ∃ v, e = .returned v ∧ LS w' w.heap.size v (cl s.size k f) ∧ Below w.heap.size w w'
  | 0, _, f, _, w => cutLists_zero s f w
  | k + 1, hk, f, hf, w => by
    have IH : Hid (∀ f : Nat, f ≤ 17 → ∀ w : World, Calls Try.prog 79 #[.string s, .int .i64 (k : Nat), .int .i64 (f : Nat)] w fun e w' => ∃ v, e = .returned v ∧ LS w' w.heap.size v (cl s.size k f) ∧ Below w.heap.size w w') := Lib.hid (cutLists_any s h16 k (by omega))
    have HLN : Hid (∀ x, (cl s.size k x).length ≤ 65536) := Lib.hid (fun x => Nat.le_trans (cl_len s.size h16 k x) (by rcases (by omega : k = 0 ∨ k = 1 ∨ k = 2 ∨ k = 3) with rfl | rfl | rfl | rfl <;> decide))
    have HRL : Hid (∀ x l, l ∈ cl s.size k x → l.length = k) := Lib.hid (cl_row s.size k)
    obtain ⟨g, hgd⟩ : ∃ g : Nat → List (List Int), g = fun x => (cl s.size k (x + 1)).map (fun l => (x : Int) :: l) := ⟨_, rfl⟩
    have HG : Hid (∀ x, g x = (cl s.size k (x + 1)).map (fun l => (x : Int) :: l)) := Lib.hid (fun x => by rw [hgd])
    have HV : Hid (cl s.size (k + 1) f = clF g f (s.size - f)) := Lib.hid (by rw [hgd]; rfl)
    have HFL : Hid (∀ m, m ≤ 16 → (clF g f m).length ≤ 16 * 65536) := Lib.hid (fun m hm => Nat.le_trans (clF_len g f 65536 (fun x => by rw [HG.out x, List.length_map]; exact HLN.out _) m) (Nat.mul_le_mul_right _ hm))
    have HF0 : Hid (clF g f 0 = []) := Lib.hid rfl
    have HFS : Hid (∀ m, clF g f (m + 1) = clF g f m ++ g (f + m)) := Lib.hid (fun m => rfl)
    rw [HV.out]
    clear hgd
    have HV2 : Hid (∀ (m : Nat) {wr : World} (v : Value), LS wr w.heap.size v (clF g f m) → m ≤ s.size - f → ¬ f + m < s.size → LS wr w.heap.size v (clF g f (s.size - f))) := Lib.hid (fun m wr v h h1 h2 => by
      have : m = s.size - f := by omega
      rw [← this]; exact h)
    generalize clF g f = G at *
    have hk1 : (((k + 1 : Nat) : Int)) - 1 = (k : Int) := by omega
    have hk0 : (((k + 1 : Nat) : Int) == 0) = false := by rw [beq_eq_false_iff_ne]; omega
    have hw1 : wrap64 ((((k + 1 : Nat) : Int)) - 1) = (k : Int) := by rw [hk1]; exact IntWalk.wrap64_in _ ⟨by omega, by omega⟩
    have HW1 := Lib.hid hw1
    clear hw1 hk1
    go_enter Try.func79, Try.ntmps79
    go_wp2_with fail
    go_loopw [7, 8] (fun v7 v8 wr => ∃ m : Nat, m ≤ s.size - f ∧ v8 = .int .i64 ((f + m : Nat) : Int) ∧ LS wr w.heap.size v7 (G m) ∧ Below w.heap.size w wr) (fun _ v8 _ => s.size - (intOf v8).toNat)
    case atStart => exact ⟨0, Nat.zero_le _, rfl, by rw [HF0.out]; exact ls_nil _ _, Below.refl _ _⟩
    case round =>
      obtain ⟨m, hm, rfl, hls, hb⟩ := hrel
      obtain ⟨wq, hwq⟩ : ∃ wq : World, wq = wr := ⟨_, rfl⟩
      subst hwq
      obtain ⟨x, hx⟩ : ∃ x, x = f + m := ⟨_, rfl⟩
      rw [← hx]
      by_cases hlt : x < s.size
      · have hxi : (x : Int) < (s.size : Int) := by omega
        have HI := Lib.hid (IH.out (x + 1) (by omega) wq)
        have hGx := HG.out x
        have hFS := HFS.out m
        rw [← hx] at hFS
        have hlen := HLN.out (x + 1)
        have hrl := HRL.out (x + 1)
        have hGl := HFL.out m (by omega)
        have hz := hb.size
        generalize cl s.size k (x + 1) = os at *
        have HGL := Lib.hid hGl
        have HFSx : Hid (G (m + 1) = G m ++ os.map (fun l => (x : Int) :: l)) := Lib.hid (by rw [hFS, hGx])
        have HRLx := Lib.hid hrl
        have HX := Lib.hid hx
        clear hGx hFS hrl hGl hx
        go_wp2_with fail
        refine HI.out.mono ?_
        rintro e wc ⟨vO, rfl, hlo, hbc⟩
        obtain ⟨aO, capO, bO, vs, rfl, hrd⟩ := ls_read hlo
        have HRD := Lib.hid hrd
        have hls0 := ls_now hls hbc
        have hltb := ls_lt hls
        have hzc := hbc.size
        have hbwc := hb.trans (hbc.mono hz)
        obtain ⟨b7, hb7⟩ : ∃ b7, b7 = u7.ownBlock := ⟨_, rfl⟩
        have HB7 : Hid (∀ b, b7 = some b → w.heap.size ≤ b ∧ b < wq.heap.size) := Lib.hid (fun b e => hltb b (hb7.symm.trans e))
        clear hrd hlo hbc hltb hls hb
        go_wp2_with fail
        go_loopw [7, 28] (fun v7 v28 wr => ∃ j : Nat, j ≤ os.length ∧ v28 = .int .i64 (j : Nat) ∧ LS wr w.heap.size v7 (G m ++ (os.take j).map (fun l => (x : Int) :: l)) ∧ wc.grownBy wr b7 ∧ (v7.ownBlock = b7 ∨ ∃ b, v7.ownBlock = some b ∧ wc.heap.size ≤ b)) (fun _ v28 _ => os.length - (intOf v28).toNat)
        case atStart => exact ⟨0, Nat.zero_le _, rfl, by simpa using hls0, World.grownBy.refl _ _, .inl hb7.symm⟩
        case round =>
          clear hls0 hb7
          obtain ⟨j, hj, rfl, hl, hg, hloc⟩ := hrel
          obtain ⟨wz, hwz⟩ : ∃ wz : World, wz = wr := ⟨_, rfl⟩
          subst hwz
          have hzz := hg.size
          by_cases hjl : j < os.length
          · have hji : (j : Int) < (os.length : Int) := by omega
            obtain ⟨rfl, hlo1, hhi1, c1, hrow, hone, hnil⟩ := HRD.out j hjl
            replace c1 := hg.cell c1 (by
              intro e
              have := HB7.out bO e.symm
              omega)
            have hmem := HRLx.out _ (getD_mem9 (d := []) hjl)
            have hrow2 : wz.ownsRow wq.heap.size 3 1 (vs j) (os.getD j []).length ((os.getD j []).map (Value.int .i64)) := hrow.kept hg (by
              cases hn : (vs j).ownBlock with
              | none => exact .inl rfl
              | some b =>
                right
                intro e
                have h1 := HB7.out b e.symm
                have h2 := (hrow.lt b hn).1
                omega)
            have HST : Hid (G m ++ (os.take (j + 1)).map (fun l => (x : Int) :: l) = (G m ++ (os.take j).map (fun l => (x : Int) :: l)) ++ [(x : Int) :: os.getD j []]) := Lib.hid (by rw [take_map_snoc os x j hjl, List.append_assoc])
            have HTL : Hid ((G m ++ (os.take j).map (fun l => (x : Int) :: l)).length < 1000000000) := Lib.hid (by rw [List.length_append, List.length_map, List.length_take]; have := HGL.out; omega)
            have HFL2 := Lib.hid (fun (v' : Value) (w5 w6 : World) h5 h6 h7 => fin_loc (v' := v') (w5 := w5) (w6 := w6) hg hloc h5 h6 h7)
            have HLV := Lib.hid hl
            generalize G m ++ (os.take j).map (fun l => (x : Int) :: l) = acc at *
            have hO1 : (wz.alloc (.cells #[.int .i64 (x : Nat)] 3)).ownsRow wz.heap.size 3 1 (.slice (some ⟨wz.heap.size, 0, none⟩) 1 1) ([(x : Int)] : List Int).length (([(x : Int)] : List Int).map (Value.int .i64)) :=
              own_block (cap := 1) (xs := [(x : Int)]) (Nat.le_refl _) (heap_alloc_new wz _) rfl rfl (by simp [maxLen])
            have hbA : Below wz.heap.size wz (wz.alloc (.cells #[.int .i64 (x : Nat)] 3)) := balloc (Below.refl _ _) _
            have hzA := hbA.size
            rcases Nat.eq_zero_or_pos k with hk00 | hkp
            · have h0 : (os.getD j []).length = 0 := by omega
              have hv0 := hnil h0
              have hel : os.getD j [] = [] := List.eq_nil_of_length_eq_zero h0
              rw [hv0] at c1
              rw [hel] at HST
              clear hl hloc hrow hrow2 hnil hone hmem h0 hv0 hel
              have hu := own_low9 hO1 (show w.heap.size ≤ wz.heap.size by omega)
              have HLA := Lib.hid (ls_now HLV.out hbA)
              go_wp2_with (at_builtin; refine append_ls w.heap.size _ (wz.alloc (.cells #[.int .i64 (x : Nat)] 3)) _ _ acc [(x : Int)] rfl _ _ rfl rfl rfl (by simp) HLA.out hu rfl (fun h => by simp at h) (by omega) HTL.out ?_; intro v' w6 hl6 hg6 hloc6)
              obtain ⟨q1, q2⟩ := HFL2.out _ _ _ hbA hg6 hloc6
              rw [← HST.out] at hl6
              exact ⟨⟨v', _, .int .i64 ((j + 1 : Nat) : Int), ⟨j + 1, by omega, rfl, by simpa using hl6, q1, q2⟩, rfl, rfl, by simp⟩, by simp [intOf]; omega⟩
            · obtain ⟨capR, bR, hvR, hloR, hhiR, hcR⟩ := row_read hrow2 (by omega)
              rw [hvR] at c1
              have HCR := Lib.hid (fun q hq => (hbA.cell (p := ⟨bR, q, none⟩) hhiR).trans (hcR q hq))
              have hyl : (os.getD j []).length ≤ 1000000 := by omega
              have HYL := Lib.hid hyl
              clear hl hloc hrow hrow2 hnil hone hmem hvR hcR hyl
              generalize os.getD j [] = ys at *
              have HCR0 : Hid (∀ q, q < ys.length → (wz.alloc (.cells #[.int .i64 (x : Nat)] 3)).cell? ⟨bR, 0 + q, none⟩ = some (.int .i64 (ys.getD q 0))) := Lib.hid (fun q hq => by rw [Nat.zero_add]; exact HCR.out q hq)
              go_wp2_with (first
                | (at_builtin; refine append_many9 wz.heap.size 0 bR capR _ _ [(x : Int)] ys rfl _ _ rfl rfl rfl HCR0.out hO1 hzA (by simp) HYL.out ?_; intro v5 w5 ho5 hb5; obtain ⟨cV, bV, rfl, -, -, -⟩ := row_read (xs := [(x : Int)] ++ ys) ho5 (by simp); have HLA := Lib.hid (ls_now HLV.out (hbA.trans hb5)); have HO5 := Lib.hid (own_low9 ho5 (show w.heap.size ≤ wz.heap.size by omega)); have hsz5 : w.heap.size ≤ w5.heap.size := (by have := hb5.size; omega); clear ho5)
                | (at_builtin; refine append_ls w.heap.size _ w5 _ _ acc ((x : Int) :: ys) rfl _ _ rfl rfl rfl rfl HLA.out HO5.out rfl (fun h => by simp at h) hsz5 HTL.out ?_; intro v' w6 hl6 hg6 hloc6)
                | fail)
              obtain ⟨q1, q2⟩ := HFL2.out _ _ _ (hbA.trans hb5) hg6 hloc6
              rw [← HST.out] at hl6
              go_roundw
              case rel => exact ⟨j + 1, by omega, by go_num, hl6, q1, q2⟩
              case measure => simp [intOf]; omega
          · have hje : j = os.length := by omega
            have hji : ¬ (j : Int) < (os.length : Int) := by omega
            have HE : Hid (LS wz w.heap.size _ (G (m + 1))) := Lib.hid (by rw [HFSx.out]; rw [hje, List.take_length] at hl; exact hl)
            have HBW := Lib.hid (hbwc.grown hg hbwc.size (fun k hk => (HB7.out k hk).1))
            have HXX := HX.out
            clear hl hje
            go_wp2_with fail
            go_roundw
            case rel => exact ⟨m + 1, by omega, by have := HX.out; omega, HE.out, HBW.out⟩
            case measure => simp [intOf]; omega
      · have hxi : ¬ (x : Int) < (s.size : Int) := by omega
        have HE := Lib.hid (HV2.out m _ hls hm (by omega))
        clear hls hx
        go_wp2_with fail
        go_ret
        exact ⟨_, rfl, HE.out, hb⟩
end Go.Proofs.Ytokhpchnnilbaaa
