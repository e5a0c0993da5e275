import Derived.LoopN
import Derived.BigRegion
import Derived.BigQuiet
import Derived.RegionTactic
import Derived.Test.YtlkgmnmnlfaopaaQ14
namespace Go.Proofs.Ytlkgmnmnlfaopaa
open Go.RowKit
set_option maxRecDepth 4000
theorem gridL_take (a b : Nat) (f : Nat → Nat → Int) (k : Nat) (hk : k < a) : (gridL a b f).take (k + 1) = (gridL a b f).take k ++ [rowL b (f k)] := by
  rw [List.take_add_one]
  congr 1
  simp [gridL, hk]
theorem rowL_succ (f : Nat → Int) (k : Nat) : rowL (k + 1) f = rowL k f ++ [f k] := by simp [rowL, List.range_succ]
theorem gridL_takelen (a b : Nat) (f : Nat → Nat → Int) (k : Nat) (hk : k ≤ a) : ((gridL a b f).take k).length = k := by
  rw [List.length_take, gridL_len]; omega
set_option maxHeartbeats 3200000 in
theorem gmTurned_any (rs : List (List Int)) (m n : Nat) (ok : GOk rs m n) (ar : Option Addr) (cr B : Nat) (w : World) (h : RdSS w B ar rs) (hB : B ≤ w.heap.size) :
    Calls Try.prog 62 #[.slice ar rs.length cr] w fun e w' => ∃ v, e = .returned v ∧ CellsV w' w.heap.size v (trL rs m n) ∧ Below w.heap.size w w' := by
  have hmr := ok.rows
  subst hmr
  have hm1 := ok.m1
  have hm3 := ok.m3
  have hn3 := ok.n3
  have hl0 := ok.len 0 (by omega)
  have HLN := Lib.hid (fun k (hk : k < rs.length) => ok.len k hk)
  obtain ⟨-, b, off, hx⟩ := h
  obtain ⟨hae, hbB, ra0, rc0, k0, -⟩ := hx 0 (by omega)
  subst hae
  rw [Nat.add_zero, hl0] at k0
  have HX := Lib.hid (fun k (hk : k < rs.length) => (hx k hk).2)
  obtain ⟨f, hf⟩ : ∃ f : Nat → Nat → Int, f = (fun j i => (rs.getD i []).getD j 0) := ⟨_, rfl⟩
  have HF : Hid (∀ j i, f j i = (rs.getD i []).getD j 0) := Lib.hid (fun j i => by rw [hf])
  have HTK := Lib.hid (fun k hk => gridL_take n rs.length f k hk)
  have HTL := Lib.hid (fun k hk => gridL_takelen n rs.length f k hk)
  have HRS := Lib.hid (fun j k => rowL_succ (f j) k)
  have HRL := Lib.hid (fun j k => rowL_len k (f j))
  have HEND : Hid ((gridL n rs.length f).take n = trL rs rs.length n) := Lib.hid (by
    rw [List.take_of_length_le (by rw [gridL_len]; omega), hf]; rfl)
  have hrn : 0 < rs.length := by omega
  clear hx hl0 ok hf
  go_enter Try.func62, Try.ntmps62
  go_wp2_with fail
  go_loopw [3, 11] (fun v3 v11 wr => ∃ k : Nat, k ≤ n ∧ v11 = .int .i64 k ∧ CellsV wr w.heap.size v3 ((gridL n rs.length f).take k) ∧ Below w.heap.size w wr) (fun _ v11 _ => n - (intOf v11).toNat)
  case atStart => exact ⟨0, Nat.zero_le _, rfl, cells_nil _ _, Below.refl _ _⟩
  case round =>
    obtain ⟨k, hk, rfl, hc, hb⟩ := hrel
    obtain ⟨wq, rfl⟩ : ∃ wq : World, wq = wr := ⟨_, rfl⟩
    have hzq := hb.size
    by_cases hlt : k < n
    · have hki : (k : Int) < (n : Int) := by omega
      have HTKk := Lib.hid (HTK.out k hlt)
      have hlk := HTL.out k (by omega)
      have HRSk := Lib.hid (HRS.out k)
      have HRLk := Lib.hid (HRL.out k)
      have hlq : ((gridL n rs.length f).take k).length ≤ 3 := by omega
      have HCQ := Lib.hid hc
      have HBQ := Lib.hid hb
      clear hlk hc hb
      go_wp2_with fail
      go_loopw [5, 16] (fun v5 v16 wr => ∃ i : Nat, i ≤ rs.length ∧ v16 = .int .i64 i ∧ wr.ownsRow wq.heap.size 3 1 v5 (rowL i (f k)).length ((rowL i (f k)).map (Value.int .i64)) ∧ Below wq.heap.size wq wr) (fun _ v16 _ => rs.length - (intOf v16).toNat)
      case atStart => exact ⟨0, Nat.zero_le _, rfl, World.ownsRow_nil _ _ _ _, Below.refl _ _⟩
      case round =>
        obtain ⟨i, hi, rfl, ho, hb⟩ := hrel
        obtain ⟨wm, rfl⟩ : ∃ wm : World, wm = wr := ⟨_, rfl⟩
        have hzm := hb.size
        by_cases hil : i < rs.length
        · have hii : (i : Int) < (rs.length : Int) := by omega
          obtain ⟨-, ra, rc, ci, rb, ro, hr, hrb⟩ := HX.out i hil
          have hln := HLN.out i hil
          obtain ⟨ha, c1⟩ := hr.2 k (by omega)
          subst ha
          have hrbB : rb < B := by
            rcases hrb with h0 | h0
            · omega
            · exact h0
          have hBm := HBQ.out.trans (hb.mono hzq)
          have d0 := (hBm.cell (p := ⟨b, off + i, none⟩) (by show b < _; omega)).trans ci
          have d1 := (hBm.cell (p := ⟨rb, ro + k, none⟩) (by show rb < _; omega)).trans c1
          rw [hln] at d0
          rw [← HF.out] at d1
          have HE := Lib.hid (HRSk.out i)
          have hll := HRLk.out i
          have hll2 : (rowL i (f k)).length ≤ 3 := by omega
          clear hll hln hr ci c1 hrb hBm
          generalize f k i = x at *
          go_wp2_with (at_builtin; refine append_int wq.heap.size wm _ (rowL i (f k)) x rfl _ _ rfl rfl rfl ho hzm (by omega) ?_; intro v' w3 ho3 hb3)
          go_roundw
          case rel => exact ⟨i + 1, by omega, by go_num, by rw [HE.out]; exact ho3, hb.trans hb3⟩
          case measure => simp [intOf]; omega
        · have hi2 : i = rs.length := by omega
          rw [hi2] at ho
          have hil' : ¬ (i : Int) < (rs.length : Int) := by omega
          obtain ⟨-, ua, uc, ub, rfl, -, -⟩ := own_shape ho
          clear hi2 hil hi
          go_wp2_with (at_builtin; refine append_row w.heap.size _ wq wm _ _ ((gridL n rs.length f).take k) (rowL rs.length (f k)) rfl _ _ rfl rfl rfl rfl HCQ.out hb ho rfl hzq (by omega) ?_; intro v' w5 hc5 hb5)
          go_roundw
          case rel => exact ⟨k + 1, by omega, by go_num, by rw [HTKk.out]; exact hc5, (HBQ.out.trans (hb.mono hzq)).trans hb5⟩
          case measure => simp [intOf]; omega
    · have hk2 : k = n := by omega
      rw [hk2, HEND.out] at hc
      have hkn : ¬ (k : Int) < (n : Int) := by omega
      clear hk2 hk hlt
      go_wp2_with fail
      go_ret
      exact ⟨_, rfl, hc, hb⟩
end Go.Proofs.Ytlkgmnmnlfaopaa
