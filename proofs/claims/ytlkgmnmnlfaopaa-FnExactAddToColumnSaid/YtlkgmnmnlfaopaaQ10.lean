import Derived.LoopN
import Derived.BigRegion
import Derived.BigQuiet
import Derived.Test.YtlkgmnmnlfaopaaQ9
namespace Go.Proofs.Ytlkgmnmnlfaopaa
open Go.RowKit
set_option maxRecDepth 4000
theorem ok_abs {rs : List (List Int)} {m n : Nat} (h : GOk rs m n) (k : Nat) (hk : k < m) (j : Nat) : ((rs.getD k []).getD j 0).natAbs ≤ 9 :=
  getD_abs (fun i hi => by have := h.bd k hk i (by rw [h.len k hk] at hi; exact hi); omega) j
theorem wt_abs {y : List Int} {hi : Nat} (h : allB 0 (hi : Int) y = true) (j : Nat) : (y.getD j 0).natAbs ≤ hi :=
  getD_abs (fun i hi => by have := allB_at h i hi; omega) j
set_option maxHeartbeats 3200000 in
theorem rowPays_any (rs : List (List Int)) (m n : Nat) (ok : GOk rs m n) (y : List Int) (hi : Nat) (hy : allB 0 (hi : Int) y = true) (hh : hi ≤ 1000000) (hyn : y.length = n) (ar ay : Option Addr) (cr cy B : Nat) (v2 : Value) (w : World)
    (h : RdSS w B ar rs) (h' : RdS w B ay y) (hB : B ≤ w.heap.size) :
    Calls Try.prog 69 #[.agg #[.slice ar rs.length cr, v2], .slice ay y.length cy] w fun e w' => ∃ v, e = .returned v ∧ OI w' w.heap.size w'.heap.size v (payL rs y n) ∧ Below w.heap.size w w' := by
  obtain ⟨i0, hin, hz0, hz1, hz2⟩ := info_parts intInfo
  have hmr := ok.rows
  subst hmr
  subst hyn
  have hm1 := ok.m1
  have hm3 := ok.m3
  have hn3 := ok.n3
  obtain ⟨w1, hw1⟩ : ∃ w1, w1 = (w.alloc (.cells #[.slice ar rs.length cr, v2] 27)) := ⟨_, rfl⟩
  have hb1 : Below w.heap.size w w1 := by rw [hw1]; exact balloc (Below.refl w.heap.size w) _
  have g1 : w1.heap[w.heap.size]? = some (.cells #[.slice ar rs.length cr, v2] 27 (0, 0)) := by rw [hw1]; exact heap_alloc_new w _
  have c0 := blk_cell g1 0 _ rfl
  have c1 := blk_cell g1 1 _ rfl
  have hz1' : w1.heap.size = w.heap.size + 1 := by rw [hw1]; simp
  have HR := Lib.hid (rdss_chg h (chg_below hb1) hB (.inr rfl))
  have HY := Lib.hid (rds_chg h' (chg_below hb1) hB (.inr rfl))
  have HW := Lib.hid hw1
  have HPL := Lib.hid (payL_len rs y y.length)
  have HPA := Lib.hid (fun k hk => payL_at rs y y.length k hk)
  have HSP := Lib.hid (fun k (hk : k < rs.length) a' a'' cap cap' w' (h1 : RdS w' B a' (rs.getD k [])) (h2 : RdS w' B a'' y) => show Calls Try.prog 68 #[.slice a' (rs.getD k []).length cap, .slice a'' y.length cap'] w' fun e w'' => e = .returned (.int .i64 (dotK (rs.getD k []) y y.length)) ∧ w' = w'' from
    (sop_any (rs.getD k []) y 9 hi (ok_abs ok k (by omega)) (wt_abs hy) (by omega) (by rw [ok.len k (by omega)]; omega) (by rw [ok.len k (by omega)]; omega) a' a'' cap cap' B B w' h1 h2).mono (by rintro e w'' ⟨rfl, rfl⟩; exact ⟨by rw [ok.len k hk], rfl⟩))
  clear hw1 h h' hy ok
  go_enter Try.func69, Try.ntmps69
  go_wp2_with fail
  rw [← HW.out]
  refine (rowCount_any rs ar cr v2 _).mono ?_
  rintro e w2 ⟨rfl, hb2⟩
  have hz2' := hb2.size
  go_wp2_with (at_make; refine wpList_make_full _ rfl _ _ 31 rfl w2.heap.size 3 i0 (.int .i64 0) 1 Try.underlying31 hin hz0 hz1 _ _ _ _ rs.length rfl rfl ?hC ?hL ?hb2 ?hb3 ?hb4 ?_)
  case hC => rfl
  case hL => rfl
  case hb2 => rw [hz2]; omega
  case hb3 => unfold maxLen; omega
  case hb4 => exact Nat.le_refl _
  intro w3 ho1 hg1
  have ho3 : w3.ownsRow w2.heap.size 3 1 (.slice (some ⟨w2.heap.size, 0, none⟩) rs.length rs.length) rs.length ((cpy (payL rs y y.length) 0).map (Value.int .i64)) := by
    rw [cpy_zero, List.map_replicate, HPL.out]
    first | exact made_ints rs.length ▸ ho1 | exact made_ints' rs.length ▸ ho1
  have hb3 : Below w2.heap.size w2 w3 := (Below.refl _ _).grown hg1 (Nat.le_refl _) (fun k hk => by cases hk)
  have hz3 := hb3.size
  have g3 := hp_later (hp_later g1 hb2) hb3
  have d0 := blk_cell g3 0 _ rfl
  have HR3 := Lib.hid (rdss_chg (rdss_chg HR.out (chg_below hb2) (by omega) (.inr rfl)) (chg_below hb3) (by omega) (.inr rfl))
  have HY3 := Lib.hid (rds_chg (rds_chg HY.out (chg_below hb2) (by omega) (.inr rfl)) (chg_below hb3) (by omega) (.inr rfl))
  have hB3 := bnext (bnext hb1 hb2) hb3
  clear ho1 hg1 c0 c1 hb2 hb3
  go_wp2_with fail
  go_loopw [14] (fun v14 wr => ∃ k : Nat, k ≤ rs.length ∧ v14 = .int .i64 k ∧ wr.ownsRow w2.heap.size 3 1 (.slice (some ⟨w2.heap.size, 0, none⟩) rs.length rs.length) rs.length ((cpy (payL rs y y.length) k).map (Value.int .i64)) ∧ Below w2.heap.size w3 wr) (fun v14 _ => rs.length - (intOf v14).toNat)
  case atStart => exact ⟨0, Nat.zero_le _, rfl, ho3, Below.refl _ _⟩
  case round =>
    clear ho3
    obtain ⟨k, hk, rfl, ho, hb⟩ := hrel
    obtain ⟨wq, rfl⟩ : ∃ wq : World, wq = wr := ⟨_, rfl⟩
    have hBq : B ≤ w2.heap.size := by omega
    by_cases hlt : k < rs.length
    · have hki : (k : Int) < (rs.length : Int) := by omega
      have hch : Chg w2.heap.size w3.heap.size w3 wq := ⟨hb.os, hb.tape, hb.output, hb.size, fun i hi hx => hb.block i (by omega)⟩
      have hrr := rdss_chg HR3.out hch (by omega) (.inl hBq)
      have HYq := Lib.hid (rds_chg HY3.out hch (by omega) (.inl hBq))
      obtain ⟨-, b, off, hx⟩ := hrr
      obtain ⟨rfl, -, ra, rc, k0, hrk⟩ := hx k hlt
      have HRK := Lib.hid hrk
      have HSK := Lib.hid (HSP.out k hlt)
      have hst := (ho.stored k (.int .i64 ((payL rs y y.length).getD k 0))).1
      rw [cpy_set (payL rs y y.length) k (by rw [HPL.out]; exact hlt), HPA.out k hlt] at hst
      have hf := ho.frozenAt k
      have hcc := ho.cellAt k (by omega)
      have hl : k < ((cpy (payL rs y y.length) k).map (Value.int .i64)).length := by rw [List.length_map, cpy_len _ _ (by rw [HPL.out]; omega), HPL.out]; exact hlt
      rw [List.getElem?_eq_getElem hl] at hcc
      generalize ((cpy (payL rs y y.length) k).map (Value.int .i64))[k] = old at hcc
      have HS := Lib.hid hst
      clear hst ho hl hx hrk hch
      generalize rs.getD k [] = r at *
      go_wp2_with fail
      refine (HSK.out _ _ _ _ _ HRK.out HYq.out).mono ?_
      rintro e w' ⟨rfl, rfl⟩
      go_wp2_with fail
      go_roundw
      case rel => exact ⟨k + 1, by omega, by go_num, HS.out, hb.setCell (p := ⟨w2.heap.size, k, none⟩) (Nat.le_refl _) _⟩
      case measure => simp [intOf]; omega
    · have hk2 : k = rs.length := by omega
      have e : cpy (payL rs y y.length) k = payL rs y y.length := by rw [hk2, ← HPL.out]; exact cpy_all _
      rw [e] at ho
      have ho' : OI wq w.heap.size wq.heap.size (.slice (some ⟨w2.heap.size, 0, none⟩) rs.length rs.length) (payL rs y y.length) := ⟨_, own_base (by rw [HPL.out]; exact ho) (by omega), own_lt ho⟩
      have hE := hB3.trans (hb.mono (by omega))
      clear ho hk2 e
      go_wp2_with fail
      go_ret
      exact ⟨_, rfl, ho', hE⟩
end Go.Proofs.Ytlkgmnmnlfaopaa
