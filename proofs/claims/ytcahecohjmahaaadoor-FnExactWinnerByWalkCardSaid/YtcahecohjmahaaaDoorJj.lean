import Derived.Test.YtcahecohjmahaaaDoorJi
namespace Go.Proofs.YtcahecohjmahaaaDoor
open Go.RowKit
set_option maxRecDepth 4000
def hlm (f : Int → Bool) (ps : List Int) : Nat → Int
  | 0 => -1
  | t + 1 => if f (ps.getD t 0) then ps.getD t 0 else hlm f ps t
theorem hgetD_mem (ps : List Int) (t : Nat) (h : t < ps.length) : ps.getD t 0 ∈ ps := by
  rw [List.getD_eq_getElem?_getD, List.getElem?_eq_getElem h]
  exact List.getElem_mem h
/-- The last one of all that are so is the first one, if there is one at most. -/
theorem hlm_all (f : Int → Bool) (ps : List Int) (hu : ∀ x ∈ ps, ∀ y ∈ ps, f x = true → f y = true → x = y) : hlm f ps ps.length = (ps.find? f).getD (-1) := by
  cases hf : ps.find? f with
  | none =>
    have all := List.find?_eq_none.1 hf
    have go : ∀ t, t ≤ ps.length → hlm f ps t = -1 := by
      intro t
      induction t with
      | zero => intro _; rfl
      | succ t ih =>
        intro ht
        have := all _ (hgetD_mem ps t (by omega))
        unfold hlm
        rw [if_neg this]
        exact ih (by omega)
    exact go _ (Nat.le_refl _)
  | some x =>
    have hx := List.find?_some hf
    have hm := List.mem_of_find?_eq_some hf
    obtain ⟨i, hi, hix⟩ := List.getElem_of_mem hm
    have hgi : ps.getD i 0 = x := by rw [List.getD_eq_getElem?_getD, List.getElem?_eq_getElem hi, ← hix]; rfl
    have go : ∀ t, t ≤ ps.length → i < t → hlm f ps t = x := by
      intro t
      induction t with
      | zero => intro _ h; omega
      | succ t ih =>
        intro ht hit
        unfold hlm
        split
        · rename_i h
          exact hu _ (hgetD_mem ps t (by omega)) x hm h hx
        · rename_i h
          refine ih (by omega) ?_
          rcases Nat.lt_or_eq_of_le (Nat.le_of_lt_succ hit) with h2 | h2
          · exact h2
          · subst h2
            rw [hgi] at h
            exact absurd hx h
    exact go _ (Nat.le_refl _) hi
theorem cells_slen {w : World} {base : Nat} {v : Value} {cs : List (List Int)} (h : CellsV w base v cs) : hslen v = cs.length := by
  obtain ⟨vs, h1, -⟩ := h
  rcases h1.2 with ⟨rfl, h⟩ | ⟨g, cap, cur, rfl, -⟩
  · rw [h]; rfl
  · rfl
theorem cells_one {w : World} {base g u : Nat} {x y : Int} (hg : base ≤ g) (hu : base ≤ u) (hgh : w.heap[g]? = some (.cells #[.slice (some ⟨u, 0, none⟩) 2 2] 22 (0, 0))) (huh : w.heap[u]? = some (.cells #[.int .i64 x, .int .i64 y] 3 (0, 0))) :
    CellsV w base (.slice (some ⟨g, 0, none⟩) 1 1) [[x, y]] :=
  ⟨[.slice (some ⟨u, 0, none⟩) 2 2], ⟨rfl, .inr ⟨g, 1, _, rfl, hg, hgh, Nat.le_refl _, by simp [maxLen], rfl, rfl⟩⟩, fun k hk => by
    match k, hk with
    | 0, _ => exact ⟨rfl, .inr ⟨u, 2, _, rfl, hu, huh, Nat.le_refl _, by simp [maxLen], rfl, rfl⟩⟩, fun i j hij hj => by simp at hj; omega⟩
set_option maxHeartbeats 6400000 in
theorem hxWalk_any (N M S n m s L : Nat) (z : Int × Int × Int) (xs : List Int) (C : HCtx N M S n m s xs L z) (a : Option Addr) (b len cap : Nat) (w : World) (hn : xs.length = len) (h : Rd w a b 0 xs) (hb0 : len = 0 ∨ b < w.heap.size) :
    Calls Tryd.prog 70 #[.int .i64 n, .int .i64 m, .slice a len cap] w fun e w' => ∃ v, e = .returned v ∧ CellsV w' w.heap.size v ((hdl N M (hown n m xs) (L + 1)).map lst) ∧ Below w.heap.size w w' := by
  have hM1 : 1 ≤ M := by have := C.hM; omega
  have HGO := Lib.hid (fun k hk p q l h => hctx_go C k hk p q l h)
  have HIN := Lib.hid (fun k t h => hctx_inv C k t h)
  have HRIM := Lib.hid (hxRim_any N M S n m s xs a b len cap C.hN C.hM C.hNM C.hS C.hnm C.hs C.h1 C.h2 C.hl hn w h hb0)
  have HNA := Lib.hid (fun (p : Nat) (hp : p < S) w => hxAround_any N M S p hM1 C.hNM C.hS hp w)
  have HLB := C.hLb
  have hSb := C.hS
  have HD := Lib.hid (fun k => hdl_succ (n := (N : Int)) (m := (M : Int)) (own := hown n m xs) k)
  have HDL := Lib.hid (fun k => hdl_len (n := (N : Int)) (m := (M : Int)) (own := hown n m xs) k)
  have HLS := Lib.hid (hrl_len (hown n m xs) S)
  have HRA := Lib.hid (fun i hi => hrl_at (hown n m xs) S i hi)
  have hst0 : hst (N : Int) (M : Int) (hown n m xs) 0 = some (((0 : Nat) : Int), (M : Int), -1) := rfl
  have HD1 : Hid ((hdl (N : Int) (M : Int) (hown n m xs) 1).map lst = [[(0 : Int), (M : Int)]]) := Lib.hid rfl
  have HST0 := Lib.hid hst0
  have hN := C.hN
  have hM := C.hM
  have hnb : n ≤ 1000 := by have := C.hs; have := C.hnm; have := Nat.le_mul_of_pos_right n (show 0 < m from C.h2); omega
  have hmb : m ≤ 1000 := by have := C.hs; have := C.hnm; have := Nat.le_mul_of_pos_left m (show 0 < n from C.h1); omega
  have HM2 : Hid ((1 : Int) < (M : Int)) := Lib.hid (by omega)
  clear h hb0 C hst0
  generalize hown n m xs = own at *
  go_enter Tryd.func70, Tryd.ntmps70
  go_wp2_with fail
  refine HRIM.out.mono ?_
  rintro e w1 ⟨v, rfl, ho1, hb1⟩
  rw [HLS.out] at ho1
  obtain ⟨-, ra, rc, rb, rfl, hrx, hrr⟩ := own_shape ho1
  have hrlt := own_lt ho1
  have HRR : Hid (∀ w' (x : Nat), Below w1.heap.size w1 w' → x < S → ra = some ⟨rb, 0, none⟩ ∧ w'.cell? ⟨rb, x, none⟩ = some (.int .i64 (own (x : Int)))) := Lib.hid (fun w' x hb hx => by
    obtain ⟨e1, e2⟩ := hrr.2 x (by rw [HLS.out]; exact hx)
    have hlt : rb < w1.heap.size := hrlt rb (by rw [e1]; rfl)
    rw [HRA.out x hx, Nat.zero_add] at e2
    exact ⟨e1, (hb.cell (p := ⟨rb, x, none⟩) hlt).trans e2⟩)
  clear ho1 hrx hrr hrlt
  go_wp2_with fail
  have hB2 : Below w1.heap.size w1 ((w1.alloc (.cells #[.int .i64 0, .int .i64 M] 3)).alloc (.cells #[.slice (some ⟨w1.heap.size, 0, none⟩) 2 2] 22)) := balloc (balloc (Below.refl _ _) _) _
  have hc0 : CellsV ((w1.alloc (.cells #[.int .i64 0, .int .i64 M] 3)).alloc (.cells #[.slice (some ⟨w1.heap.size, 0, none⟩) 2 2] 22)) w1.heap.size (.slice (some ⟨w1.heap.size + 1, 0, none⟩) 1 1) [[(0 : Int), (M : Int)]] := cells_one (by omega) (Nat.le_refl _) (alloc_at _ _ _ (by simp)) (alloc_keep _ (alloc_at _ _ _ rfl))
  generalize (w1.alloc (.cells #[.int .i64 0, .int .i64 M] 3)).alloc (.cells #[.slice (some ⟨w1.heap.size, 0, none⟩) 2 2] 22) = w2 at hB2 hc0 ⊢
  go_loopw [9, 10, 11, 12] (fun v9 v10 v11 v12 wr => ∃ k : Nat, k ≤ L ∧ ∃ (p q : Nat) (l : Int), hst (N : Int) M own k = some ((p : Int), (q : Int), l) ∧ v9 = .int .i64 p ∧ v10 = .int .i64 q ∧ v11 = .int .i64 l ∧ CellsV wr w1.heap.size v12 ((hdl N M own (k + 1)).map lst) ∧ Below w1.heap.size w1 wr) (fun _ _ _ v12 _ => L + 1 - hslen v12)
  case atStart => exact ⟨0, Nat.zero_le _, 0, M, -1, HST0.out, rfl, rfl, rfl, by rw [HD1.out]; exact hc0, hB2⟩
  case round =>
    clear hB2 hc0
    obtain ⟨k, hk, p, q, l, hst, rfl, rfl, rfl, hcv, hB⟩ := hrel
    obtain ⟨hp, hq, hcase⟩ := HGO.out k hk p q l hst
    obtain ⟨wo, hwo⟩ : ∃ wo : World, wo = wr := ⟨_, rfl⟩
    subst hwo
    obtain ⟨ga, gn, gc, rfl⟩ := cells_shape hcv
    have hgn := cells_slen hcv
    simp only [hslen, List.length_map] at hgn
    have HGN := Lib.hid hgn
    have HP := Lib.hid (fun w => HNA.out p hp w)
    have HQ := Lib.hid (fun w => HNA.out q hq w)
    have HU : Hid (∀ x ∈ hxa (N : Int) M p, ∀ y ∈ hxa (N : Int) M p, (x != l && hasB (hxa (N : Int) M q) x) = true → (y != l && hasB (hxa (N : Int) M q) y) = true → x = y) := Lib.hid (fun x hx y hy fx fy => by
      simp only [Bool.and_eq_true, bne_iff_ne, ne_eq, hasB, decide_eq_true_eq] at fx fy
      exact hthr_uniq HM2.out (HIN.out k _ hst) hx fx.2 fx.1 hy fy.2 fy.1)
    have HTH : Hid (hthr (N : Int) M ((p : Int), (q : Int), l) = (hxa (N : Int) M p).find? (fun x => x != l && hasB (hxa (N : Int) M q) x)) := Lib.hid rfl
    have hl1 := hxa_len (N : Int) (M : Int) (p : Int)
    have hl2 := hxa_len (N : Int) (M : Int) (q : Int)
    have HST := Lib.hid hst
    have HCASE := Lib.hid hcase
    have HD2 := Lib.hid (HD.out (k + 1))
    have HDL2 := Lib.hid (HDL.out (k + 1))
    clear hgn hst hcase
    generalize hxa (N : Int) M p = ps at HP HTH hl1 HU
    generalize hxa (N : Int) M q = qs at HQ HTH hl2 HU
    go_wp2_with fail
    refine (HP.out _).mono ?_
    rintro e w3 ⟨v, rfl, hop, hb3⟩
    obtain ⟨-, pa, pc, pb, rfl, hpx, hrp⟩ := own_shape hop
    have hplt := own_lt hop
    have HRP : Hid (∀ w' (t : Nat), Below w3.heap.size w3 w' → t < ps.length → pa = some ⟨pb, 0, none⟩ ∧ w'.cell? ⟨pb, t, none⟩ = some (.int .i64 (ps.getD t 0))) := Lib.hid (fun w' t hb ht => by
      obtain ⟨e1, e2⟩ := hrp.2 t ht
      have hlt : pb < w3.heap.size := hplt pb (by rw [e1]; rfl)
      rw [Nat.zero_add] at e2
      exact ⟨e1, (hb.cell (p := ⟨pb, t, none⟩) hlt).trans e2⟩)
    have hB3 := hB.trans (hb3.mono hB.size)
    have hcv3 := cells_now hcv hb3
    clear hop hpx hrp hplt hcv hB hb3
    go_wp2_with fail
    go_loopw [13, 33] (fun v13 v33 wr => ∃ t : Nat, t ≤ ps.length ∧ v33 = .int .i64 t ∧ v13 = .int .i64 (hlm (fun x => x != l && hasB qs x) ps t) ∧ Below w3.heap.size w3 wr) (fun _ v33 _ => ps.length - (intOf v33).toNat)
    case atStart => exact ⟨0, Nat.zero_le _, rfl, rfl, Below.refl _ _⟩
    case round =>
      obtain ⟨t, ht, rfl, rfl, hbi⟩ := hrel
      obtain ⟨wi, hwi⟩ : ∃ wi : World, wi = wr := ⟨_, rfl⟩
      subst hwi
      by_cases hlt : t < ps.length
      · obtain ⟨hpa, c⟩ := HRP.out wi t hbi hlt
        subst hpa
        have hti : (t : Int) < (ps.length : Int) := by omega
        have HSTEP : Hid (hlm (fun x => x != l && hasB qs x) ps (t + 1) = if (ps.getD t 0 != l && hasB qs (ps.getD t 0)) = true then ps.getD t 0 else hlm (fun x => x != l && hasB qs x) ps t) := Lib.hid rfl
        generalize ps.getD t 0 = x at c HSTEP
        generalize hcur : hlm (fun x => x != l && hasB qs x) ps t = cur at HSTEP ⊢
        clear hcur
        cases hx : (x != l)
        · have HS2 : Hid (hlm (fun x => x != l && hasB qs x) ps (t + 1) = cur) := Lib.hid (by rw [HSTEP.out, hx, Bool.false_and]; rfl)
          go_wp2_with fail
          go_roundw
          case rel => exact ⟨t + 1, by omega, by go_num, by rw [HS2.out], hbi⟩
          case measure => simp [intOf]; omega
        · go_wp2_with fail
          refine (HQ.out _).mono ?_
          rintro e w4 ⟨v, rfl, hoq, hb4⟩
          obtain ⟨-, qa, qc, qb, rfl, -, hrq⟩ := own_shape hoq
          have hbi4 := bnext hbi hb4
          go_wp2_with fail
          refine (l1Has_any qs x qa qb 0 _ qc w4 rfl hrq).mono ?_
          rintro e w5 ⟨rfl, rfl⟩
          clear hoq hrq hb4
          cases hm : hasB qs x
          · have HS2 : Hid (hlm (fun x => x != l && hasB qs x) ps (t + 1) = cur) := Lib.hid (by rw [HSTEP.out, hx, hm]; rfl)
            clear hm
            go_wp2_with fail
            go_roundw
            case rel => exact ⟨t + 1, by omega, by go_num, by rw [HS2.out], hbi4⟩
            case measure => simp [intOf]; omega
          · have HS2 : Hid (hlm (fun x => x != l && hasB qs x) ps (t + 1) = x) := Lib.hid (by rw [HSTEP.out, hx, hm]; rfl)
            clear hm
            go_wp2_with fail
            go_roundw
            case rel => exact ⟨t + 1, by omega, by go_num, by rw [HS2.out], hbi4⟩
            case measure => simp [intOf]; omega
      · have ht2 : t = ps.length := by omega
        have hnlt : ¬ (t : Int) < (ps.length : Int) := by omega
        have hval : hlm (fun x => x != l && hasB qs x) ps t = (hthr (N : Int) M ((p : Int), (q : Int), l)).getD (-1) := by rw [ht2, hlm_all _ _ HU.out, HTH.out]
        rw [hval]
        have hB6 := hB3.trans (hbi.mono hB3.size)
        have hcv6 := cells_now hcv3 hbi
        clear hval ht2 hbi
        rcases HCASE.out with ⟨rfl, hno⟩ | ⟨hltk, x, hxS, hsome, hnext⟩
        · rw [hno]
          simp only [Option.getD_none]
          clear hno
          go_wp2_with fail
          go_ret
          exact ⟨_, rfl, cells_base hcv6 (by have := hb1.size; omega), hb1.trans (hB6.mono hb1.size)⟩
        · rw [hsome]
          simp only [Option.getD_some]
          obtain ⟨hra, cx⟩ := HRR.out wi x hB6 hxS
          subst hra
          have hxi : (x : Int) < (S : Int) := by omega
          have HNX := Lib.hid hnext
          clear hsome hnext
          have hz6 := hB6.size
          have hcl : ((hdl (N : Int) M own (k + 1)).map lst).length < 1000000000 := by rw [List.length_map, HDL2.out]; omega
          have HCL := Lib.hid hcl
          clear hcl
          rcases HNX.out with ⟨hox, hn⟩ | ⟨hox, hn⟩
          · rw [hox] at cx
            have HN := Lib.hid hn
            have HDN : Hid ((hdl (N : Int) M own (k + 1 + 1)).map lst = (hdl N M own (k + 1)).map lst ++ [[(x : Int), (q : Int)]]) := Lib.hid (by rw [HD2.out, HN.out, List.map_append]; rfl)
            have hbw := balloc (Below.refl wi.heap.size wi) (.cells #[.int .i64 (x : Int), .int .i64 (q : Int)] 3)
            have hu : (wi.alloc (.cells #[.int .i64 (x : Int), .int .i64 (q : Int)] 3)).ownsRow wi.heap.size 3 1 (.slice (some ⟨wi.heap.size, 0, none⟩) 2 2) [(x : Int), (q : Int)].length ([(x : Int), (q : Int)].map (Value.int .i64)) :=
              own_block (Nat.le_refl _) (heap_alloc_new _ _) (by simp) rfl (by simp [maxLen])
            clear hox hn
            go_wp2_with (at_builtin; refine append_row w1.heap.size _ wi _ _ _ ((hdl (N : Int) M own (k + 1)).map lst) _ rfl _ _ rfl rfl rfl (by simp) hcv6 hbw hu rfl hz6 HCL.out ?_; intro v' w7 hc7 hb7)
            go_roundw
            case rel => exact ⟨k + 1, by omega, _, _, _, HN.out, rfl, rfl, rfl, by rw [HDN.out]; exact hc7, (balloc hB6 _).trans hb7⟩
            case measure =>
              have e := HGN.out
              have e2 := HDL2.out
              rw [cells_slen hc7, List.length_append, List.length_map]
              show L + 1 - (_ + 1) < L + 1 - gn
              omega
          · rw [hox] at cx
            have HN := Lib.hid hn
            have HDN : Hid ((hdl (N : Int) M own (k + 1 + 1)).map lst = (hdl N M own (k + 1)).map lst ++ [[(p : Int), (x : Int)]]) := Lib.hid (by rw [HD2.out, HN.out, List.map_append]; rfl)
            have hbw := balloc (Below.refl wi.heap.size wi) (.cells #[.int .i64 (p : Int), .int .i64 (x : Int)] 3)
            have hu : (wi.alloc (.cells #[.int .i64 (p : Int), .int .i64 (x : Int)] 3)).ownsRow wi.heap.size 3 1 (.slice (some ⟨wi.heap.size, 0, none⟩) 2 2) [(p : Int), (x : Int)].length ([(p : Int), (x : Int)].map (Value.int .i64)) :=
              own_block (Nat.le_refl _) (heap_alloc_new _ _) (by simp) rfl (by simp [maxLen])
            clear hox hn
            go_wp2_with (at_builtin; refine append_row w1.heap.size _ wi _ _ _ ((hdl (N : Int) M own (k + 1)).map lst) _ rfl _ _ rfl rfl rfl (by simp) hcv6 hbw hu rfl hz6 HCL.out ?_; intro v' w7 hc7 hb7)
            go_roundw
            case rel => exact ⟨k + 1, by omega, _, _, _, HN.out, rfl, rfl, rfl, by rw [HDN.out]; exact hc7, (balloc hB6 _).trans hb7⟩
            case measure =>
              have e := HGN.out
              have e2 := HDL2.out
              rw [cells_slen hc7, List.length_append, List.length_map]
              show L + 1 - (_ + 1) < L + 1 - gn
              omega
end Go.Proofs.YtcahecohjmahaaaDoor
