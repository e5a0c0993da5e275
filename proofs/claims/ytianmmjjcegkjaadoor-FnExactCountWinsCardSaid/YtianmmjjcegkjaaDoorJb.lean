import Derived.Test.YtianmmjjcegkjaaDoorJp
import Derived.Test.YtianmmjjcegkjaaDoorHc
import Derived.Test.YtianmmjjcegkjaaDoorZc
import Derived.Test.YtianmmjjcegkjaaDoorMc
import Derived.Test.YtianmmjjcegkjaaDoorZa
import Derived.Test.YtianmmjjcegkjaaDoorMa
namespace Go.Proofs.YtianmmjjcegkjaaDoor
open Go.RowKit
set_option maxRecDepth 4000
/-- The rows of steps that the model lays. -/
def StV (w : World) (B : Nat) : Prop := ∀ k, k < 6 → w.cell? ⟨B + 6, k, none⟩ = some (.slice (some ⟨B + k, 0, none⟩) 2 2) ∧ w.cell? ⟨B + k, 0, none⟩ = some (.int .i64 (stR k)) ∧ w.cell? ⟨B + k, 1, none⟩ = some (.int .i64 (stC k))
theorem stv_lit (w0 : World) : StV (((((((w0.alloc (.cells #[.int .i64 (-1), .int .i64 0] 3)).alloc (.cells #[.int .i64 (-1), .int .i64 1] 3)).alloc (.cells #[.int .i64 0, .int .i64 (-1)] 3)).alloc (.cells #[.int .i64 0, .int .i64 1] 3)).alloc (.cells #[.int .i64 1, .int .i64 (-1)] 3)).alloc (.cells #[.int .i64 1, .int .i64 0] 3)).alloc (.cells #[.slice (some ⟨w0.heap.size, 0, none⟩) 2 2, .slice (some ⟨w0.heap.size + 1, 0, none⟩) 2 2, .slice (some ⟨w0.heap.size + 2, 0, none⟩) 2 2, .slice (some ⟨w0.heap.size + 3, 0, none⟩) 2 2, .slice (some ⟨w0.heap.size + 4, 0, none⟩) 2 2, .slice (some ⟨w0.heap.size + 5, 0, none⟩) 2 2] 27)) w0.heap.size := by
  intro k hk
  have h0 := blk_cell (alloc_keep (.cells #[.slice (some ⟨w0.heap.size, 0, none⟩) 2 2, .slice (some ⟨w0.heap.size + 1, 0, none⟩) 2 2, .slice (some ⟨w0.heap.size + 2, 0, none⟩) 2 2, .slice (some ⟨w0.heap.size + 3, 0, none⟩) 2 2, .slice (some ⟨w0.heap.size + 4, 0, none⟩) 2 2, .slice (some ⟨w0.heap.size + 5, 0, none⟩) 2 2] 27) (alloc_keep (.cells #[.int .i64 1, .int .i64 0] 3) (alloc_keep (.cells #[.int .i64 1, .int .i64 (-1)] 3) (alloc_keep (.cells #[.int .i64 0, .int .i64 1] 3) (alloc_keep (.cells #[.int .i64 0, .int .i64 (-1)] 3) (alloc_keep (.cells #[.int .i64 (-1), .int .i64 1] 3) (alloc_at (w0) (.cells #[.int .i64 (-1), .int .i64 0] 3) (w0.heap.size + 0) (by simp))))))))
  have h1 := blk_cell (alloc_keep (.cells #[.slice (some ⟨w0.heap.size, 0, none⟩) 2 2, .slice (some ⟨w0.heap.size + 1, 0, none⟩) 2 2, .slice (some ⟨w0.heap.size + 2, 0, none⟩) 2 2, .slice (some ⟨w0.heap.size + 3, 0, none⟩) 2 2, .slice (some ⟨w0.heap.size + 4, 0, none⟩) 2 2, .slice (some ⟨w0.heap.size + 5, 0, none⟩) 2 2] 27) (alloc_keep (.cells #[.int .i64 1, .int .i64 0] 3) (alloc_keep (.cells #[.int .i64 1, .int .i64 (-1)] 3) (alloc_keep (.cells #[.int .i64 0, .int .i64 1] 3) (alloc_keep (.cells #[.int .i64 0, .int .i64 (-1)] 3) (alloc_at (w0.alloc (.cells #[.int .i64 (-1), .int .i64 0] 3)) (.cells #[.int .i64 (-1), .int .i64 1] 3) (w0.heap.size + 1) (by simp)))))))
  have h2 := blk_cell (alloc_keep (.cells #[.slice (some ⟨w0.heap.size, 0, none⟩) 2 2, .slice (some ⟨w0.heap.size + 1, 0, none⟩) 2 2, .slice (some ⟨w0.heap.size + 2, 0, none⟩) 2 2, .slice (some ⟨w0.heap.size + 3, 0, none⟩) 2 2, .slice (some ⟨w0.heap.size + 4, 0, none⟩) 2 2, .slice (some ⟨w0.heap.size + 5, 0, none⟩) 2 2] 27) (alloc_keep (.cells #[.int .i64 1, .int .i64 0] 3) (alloc_keep (.cells #[.int .i64 1, .int .i64 (-1)] 3) (alloc_keep (.cells #[.int .i64 0, .int .i64 1] 3) (alloc_at ((w0.alloc (.cells #[.int .i64 (-1), .int .i64 0] 3)).alloc (.cells #[.int .i64 (-1), .int .i64 1] 3)) (.cells #[.int .i64 0, .int .i64 (-1)] 3) (w0.heap.size + 2) (by simp))))))
  have h3 := blk_cell (alloc_keep (.cells #[.slice (some ⟨w0.heap.size, 0, none⟩) 2 2, .slice (some ⟨w0.heap.size + 1, 0, none⟩) 2 2, .slice (some ⟨w0.heap.size + 2, 0, none⟩) 2 2, .slice (some ⟨w0.heap.size + 3, 0, none⟩) 2 2, .slice (some ⟨w0.heap.size + 4, 0, none⟩) 2 2, .slice (some ⟨w0.heap.size + 5, 0, none⟩) 2 2] 27) (alloc_keep (.cells #[.int .i64 1, .int .i64 0] 3) (alloc_keep (.cells #[.int .i64 1, .int .i64 (-1)] 3) (alloc_at (((w0.alloc (.cells #[.int .i64 (-1), .int .i64 0] 3)).alloc (.cells #[.int .i64 (-1), .int .i64 1] 3)).alloc (.cells #[.int .i64 0, .int .i64 (-1)] 3)) (.cells #[.int .i64 0, .int .i64 1] 3) (w0.heap.size + 3) (by simp)))))
  have h4 := blk_cell (alloc_keep (.cells #[.slice (some ⟨w0.heap.size, 0, none⟩) 2 2, .slice (some ⟨w0.heap.size + 1, 0, none⟩) 2 2, .slice (some ⟨w0.heap.size + 2, 0, none⟩) 2 2, .slice (some ⟨w0.heap.size + 3, 0, none⟩) 2 2, .slice (some ⟨w0.heap.size + 4, 0, none⟩) 2 2, .slice (some ⟨w0.heap.size + 5, 0, none⟩) 2 2] 27) (alloc_keep (.cells #[.int .i64 1, .int .i64 0] 3) (alloc_at ((((w0.alloc (.cells #[.int .i64 (-1), .int .i64 0] 3)).alloc (.cells #[.int .i64 (-1), .int .i64 1] 3)).alloc (.cells #[.int .i64 0, .int .i64 (-1)] 3)).alloc (.cells #[.int .i64 0, .int .i64 1] 3)) (.cells #[.int .i64 1, .int .i64 (-1)] 3) (w0.heap.size + 4) (by simp))))
  have h5 := blk_cell (alloc_keep (.cells #[.slice (some ⟨w0.heap.size, 0, none⟩) 2 2, .slice (some ⟨w0.heap.size + 1, 0, none⟩) 2 2, .slice (some ⟨w0.heap.size + 2, 0, none⟩) 2 2, .slice (some ⟨w0.heap.size + 3, 0, none⟩) 2 2, .slice (some ⟨w0.heap.size + 4, 0, none⟩) 2 2, .slice (some ⟨w0.heap.size + 5, 0, none⟩) 2 2] 27) (alloc_at (((((w0.alloc (.cells #[.int .i64 (-1), .int .i64 0] 3)).alloc (.cells #[.int .i64 (-1), .int .i64 1] 3)).alloc (.cells #[.int .i64 0, .int .i64 (-1)] 3)).alloc (.cells #[.int .i64 0, .int .i64 1] 3)).alloc (.cells #[.int .i64 1, .int .i64 (-1)] 3)) (.cells #[.int .i64 1, .int .i64 0] 3) (w0.heap.size + 5) (by simp)))
  have h6 := blk_cell (alloc_at ((((((w0.alloc (.cells #[.int .i64 (-1), .int .i64 0] 3)).alloc (.cells #[.int .i64 (-1), .int .i64 1] 3)).alloc (.cells #[.int .i64 0, .int .i64 (-1)] 3)).alloc (.cells #[.int .i64 0, .int .i64 1] 3)).alloc (.cells #[.int .i64 1, .int .i64 (-1)] 3)).alloc (.cells #[.int .i64 1, .int .i64 0] 3)) (.cells #[.slice (some ⟨w0.heap.size, 0, none⟩) 2 2, .slice (some ⟨w0.heap.size + 1, 0, none⟩) 2 2, .slice (some ⟨w0.heap.size + 2, 0, none⟩) 2 2, .slice (some ⟨w0.heap.size + 3, 0, none⟩) 2 2, .slice (some ⟨w0.heap.size + 4, 0, none⟩) 2 2, .slice (some ⟨w0.heap.size + 5, 0, none⟩) 2 2] 27) (w0.heap.size + 6) (by simp))
  match k, hk with
  | 0, _ => exact ⟨h6 0 _ rfl, h0 0 _ rfl, h0 1 _ rfl⟩
  | 1, _ => exact ⟨h6 1 _ rfl, h1 0 _ rfl, h1 1 _ rfl⟩
  | 2, _ => exact ⟨h6 2 _ rfl, h2 0 _ rfl, h2 1 _ rfl⟩
  | 3, _ => exact ⟨h6 3 _ rfl, h3 0 _ rfl, h3 1 _ rfl⟩
  | 4, _ => exact ⟨h6 4 _ rfl, h4 0 _ rfl, h4 1 _ rfl⟩
  | 5, _ => exact ⟨h6 5 _ rfl, h5 0 _ rfl, h5 1 _ rfl⟩
theorem hxRC2 {n m i s : Nat} (h2 : 1 ≤ m) (hnm : n * m = s) (hi : i < s) : ∃ r c p : Nat, r = i / m ∧ c = i % m ∧ r < n ∧ c < m ∧ m * r = p ∧ p + c = i := by
  refine ⟨i / m, i % m, m * (i / m), rfl, rfl, Nat.div_lt_of_lt_mul (by rw [Nat.mul_comm]; omega), Nat.mod_lt _ (by omega), rfl, Nat.div_add_mod i m⟩
theorem hxk_eq2 (n m r c : Int) (k : Nat) (p : Int) (hp : m * (r + stR k) = p) : hxk n m r c k = if (0 ≤ r + stR k ∧ r + stR k ≤ n - 1) ∧ (0 ≤ c + stC k ∧ c + stC k ≤ m - 1) then [p + c + stC k] else [] := by
  rw [hxk, hp]
  by_cases h : 0 ≤ r + stR k ∧ r + stR k ≤ n - 1 ∧ 0 ≤ c + stC k ∧ c + stC k ≤ m - 1
  · rw [if_pos h, if_pos ⟨⟨h.1, h.2.1⟩, h.2.2⟩, Int.add_assoc]
  · rw [if_neg h, if_neg (fun e => h ⟨e.1.1, e.1.2, e.2⟩)]
set_option maxHeartbeats 3200000 in
theorem hxAround_any (n m s i : Nat) (h2 : 1 ≤ m) (hnm : n * m = s) (hs : s ≤ 1000) (hi : i < s) (w : World) :
    Calls Tryd.prog 15 #[.int .i64 n, .int .i64 m, .int .i64 i] w fun e w' => ∃ v, e = .returned v ∧ w'.ownsRow w.heap.size 3 1 v (hxa n m i).length ((hxa n m i).map (Value.int .i64)) ∧ Below w.heap.size w w' := by
  obtain ⟨r, c, p, hr, hc, hrn, hcm, hp, hpi⟩ := hxRC2 h2 hnm hi
  have HA : Hid (hxa (n : Int) (m : Int) (i : Int) = hxn n m r c 6) := Lib.hid (by rw [hxa, hr, hc, Int.natCast_ediv, Int.natCast_emod])
  have HN := Lib.hid (hxn_succ (n : Int) (m : Int) (r : Int) (c : Int))
  have HL := Lib.hid (hxn_len (n : Int) (m : Int) (r : Int) (c : Int))
  have hnm2 : n ≤ s := by rw [← hnm]; exact Nat.le_mul_of_pos_right n (by omega)
  have hmn : m ≤ s := by rw [← hnm]; exact Nat.le_mul_of_pos_left m (by omega)
  have hps : p ≤ 1000 := by omega
  have HP : Hid ((m : Int) * (r : Int) = (p : Int)) := Lib.hid (by rw [← hp]; exact (Int.natCast_mul m r).symm)
  have e1 : Int.tdiv (i : Int) (m : Int) = (r : Int) := by rw [hr]; exact (Int.ofNat_tdiv i m).symm
  have e2 : Int.tmod (i : Int) (m : Int) = (c : Int) := by rw [hc]; exact (Int.ofNat_tmod i m).symm
  have e3 : IntKind.i64.wrap (r : Int) = (r : Int) := IntWalk.i64_in _ ⟨by omega, by omega⟩
  have e4 : IntKind.i64.wrap (c : Int) = (c : Int) := IntWalk.i64_in _ ⟨by omega, by omega⟩
  have hm0 : (m : Int) ≠ 0 := by omega
  have hm0n : ¬ m = 0 := by omega
  rw [HA.out]
  clear hr hc hp hpi hnm
  go_enter Tryd.func15, Tryd.ntmps15
  go_wp2_with fail
  refine wp_region_below (by kernel_rfl) (by kernel_rfl) ?_
  intro ι hne f hbf hcl
  repeat (go_big_quiet_step (fail))
  refine wpQuiet_nil ?_
  rintro _ ⟨t, rfl⟩
  have hB0 := hbf t
  clear hcl hbf
  generalize f t = w0 at hB0 ⊢
  clear f hne e1 e2 e3 e4
  (try clear t)
  have hST := stv_lit w0
  have hB7 : Below w0.heap.size w0 (((((((w0.alloc (.cells #[.int .i64 (-1), .int .i64 0] 3)).alloc (.cells #[.int .i64 (-1), .int .i64 1] 3)).alloc (.cells #[.int .i64 0, .int .i64 (-1)] 3)).alloc (.cells #[.int .i64 0, .int .i64 1] 3)).alloc (.cells #[.int .i64 1, .int .i64 (-1)] 3)).alloc (.cells #[.int .i64 1, .int .i64 0] 3)).alloc (.cells #[.slice (some ⟨w0.heap.size, 0, none⟩) 2 2, .slice (some ⟨w0.heap.size + 1, 0, none⟩) 2 2, .slice (some ⟨w0.heap.size + 2, 0, none⟩) 2 2, .slice (some ⟨w0.heap.size + 3, 0, none⟩) 2 2, .slice (some ⟨w0.heap.size + 4, 0, none⟩) 2 2, .slice (some ⟨w0.heap.size + 5, 0, none⟩) 2 2] 27)) := balloc (balloc (balloc (balloc (balloc (balloc (balloc (Below.refl _ _) _) _) _) _) _) _) _
  have hz7 : (((((((w0.alloc (.cells #[.int .i64 (-1), .int .i64 0] 3)).alloc (.cells #[.int .i64 (-1), .int .i64 1] 3)).alloc (.cells #[.int .i64 0, .int .i64 (-1)] 3)).alloc (.cells #[.int .i64 0, .int .i64 1] 3)).alloc (.cells #[.int .i64 1, .int .i64 (-1)] 3)).alloc (.cells #[.int .i64 1, .int .i64 0] 3)).alloc (.cells #[.slice (some ⟨w0.heap.size, 0, none⟩) 2 2, .slice (some ⟨w0.heap.size + 1, 0, none⟩) 2 2, .slice (some ⟨w0.heap.size + 2, 0, none⟩) 2 2, .slice (some ⟨w0.heap.size + 3, 0, none⟩) 2 2, .slice (some ⟨w0.heap.size + 4, 0, none⟩) 2 2, .slice (some ⟨w0.heap.size + 5, 0, none⟩) 2 2] 27)).heap.size = w0.heap.size + 7 := by simp
  go_wp2_with fail
  generalize ((((((w0.alloc (.cells #[.int .i64 (-1), .int .i64 0] 3)).alloc (.cells #[.int .i64 (-1), .int .i64 1] 3)).alloc (.cells #[.int .i64 0, .int .i64 (-1)] 3)).alloc (.cells #[.int .i64 0, .int .i64 1] 3)).alloc (.cells #[.int .i64 1, .int .i64 (-1)] 3)).alloc (.cells #[.int .i64 1, .int .i64 0] 3)).alloc (.cells #[.slice (some ⟨w0.heap.size, 0, none⟩) 2 2, .slice (some ⟨w0.heap.size + 1, 0, none⟩) 2 2, .slice (some ⟨w0.heap.size + 2, 0, none⟩) 2 2, .slice (some ⟨w0.heap.size + 3, 0, none⟩) 2 2, .slice (some ⟨w0.heap.size + 4, 0, none⟩) 2 2, .slice (some ⟨w0.heap.size + 5, 0, none⟩) 2 2] 27) = w1 at hST hB7 hz7 ⊢
  go_loopw [9, 26] (fun v9 v26 wr => ∃ k : Nat, k ≤ 6 ∧ v26 = .int .i64 k ∧ wr.ownsRow w1.heap.size 3 1 v9 (hxn n m r c k).length ((hxn n m r c k).map (Value.int .i64)) ∧ Below w1.heap.size w1 wr) (fun _ v26 _ => 6 - (intOf v26).toNat)
  case atStart => exact ⟨0, Nat.zero_le _, rfl, World.ownsRow_nil _ _ _ _, Below.refl _ _⟩
  case round =>
    obtain ⟨k, hk, rfl, ho, hB⟩ := hrel
    obtain ⟨wi, hwi⟩ : ∃ wi : World, wi = wr := ⟨_, rfl⟩
    subst hwi
    by_cases hk6 : k < 6
    · have hki : (k : Int) < 6 := by omega
      have sb := hst_bd k
      have HE : Hid (∀ q, (m : Int) * ((r : Int) + stR k) = q → hxk (n : Int) m r c k = if (0 ≤ (r : Int) + stR k ∧ (r : Int) + stR k ≤ (n : Int) - 1) ∧ (0 ≤ (c : Int) + stC k ∧ (c : Int) + stC k ≤ (m : Int) - 1) then [q + (c : Int) + stC k] else []) := Lib.hid (fun q hq => hxk_eq2 _ _ _ _ _ q hq)
      have HN1 := Lib.hid (HN.out k)
      have hlen := HL.out k
      have HLEN : Hid ((hxn (n : Int) (m : Int) (r : Int) (c : Int) k).length ≤ 6) := Lib.hid (by omega)
      obtain ⟨s6, s0, s1⟩ := hST k hk6
      have c6 := (hB.cell (p := ⟨w0.heap.size + 6, k, none⟩) (by show w0.heap.size + 6 < _; omega)).trans s6
      have c0 := (hB.cell (p := ⟨w0.heap.size + k, 0, none⟩) (by show w0.heap.size + k < _; omega)).trans s0
      have c1 := (hB.cell (p := ⟨w0.heap.size + k, 1, none⟩) (by show w0.heap.size + k < _; omega)).trans s1
      have hzB := hB.size
      clear s6 s0 s1 hlen
      generalize stR k = sr at c0 sb HE
      generalize stC k = sc at c1 sb HE
      obtain ⟨g, hg⟩ : ∃ g : Nat, w0.heap.size + k = g := ⟨_, rfl⟩
      obtain ⟨u, hu⟩ : ∃ u : Nat, w0.heap.size + 6 = u := ⟨_, rfl⟩
      have hgu2 : g < w1.heap.size := by omega
      have hgu : g < wi.heap.size := by omega
      rw [hg] at c6 c0 c1
      rw [hu] at c6
      clear hg
      rw [hu]
      clear hu
      go_wp2_with fail
      by_cases h1 : 0 ≤ (r : Int) + sr ∧ (r : Int) + sr ≤ (n : Int) - 1
      · (try go_wp2_with fail)
        refine (l1In_yes ((r : Int) + sr) 0 ((n : Int) - 1) h1 _).mono ?_
        rintro e w3 ⟨rfl, rfl⟩
        go_wp2_with fail
        by_cases h3 : 0 ≤ (c : Int) + sc ∧ (c : Int) + sc ≤ (m : Int) - 1
        · obtain ⟨q, hq⟩ : ∃ q : Int, (m : Int) * ((r : Int) + sr) = q := ⟨_, rfl⟩
          have hqb : -1000 ≤ q ∧ q ≤ 2000 := by
            have e : q = (p : Int) + (m : Int) * sr := by rw [← hq, Int.mul_add, HP.out]
            rcases (by omega : sr = -1 ∨ sr = 0 ∨ sr = 1) with h | h | h <;> rw [h] at e <;> omega
          have HE1 : Hid (hxk (n : Int) m r c k = [q + (c : Int) + sc]) := Lib.hid (by rw [HE.out q hq, if_pos ⟨h1, h3⟩])
          have h3' := h3
          have e1 : IntKind.i64.wrap ((r : Int) + sr) = (r : Int) + sr := IntWalk.i64_in _ ⟨by omega, by omega⟩
          have e2 : IntKind.i64.wrap ((m : Int) * ((r : Int) + sr)) = q := by rw [hq, IntWalk.i64_in _ ⟨by omega, by omega⟩]
          have e3 : IntKind.i64.wrap (q + (c : Int)) = q + (c : Int) := IntWalk.i64_in _ ⟨by omega, by omega⟩
          have e4 : IntKind.i64.wrap (q + (c : Int) + sc) = q + (c : Int) + sc := IntWalk.i64_in _ ⟨by omega, by omega⟩
          refine (l1In_yes ((c : Int) + sc) 0 ((m : Int) - 1) h3' _).mono ?_
          rintro e w4 ⟨rfl, rfl⟩
          clear hq h1 h3 h3'
          go_wp2_with fail
          refine wp_region_mix (fun w' => w'.cell? ⟨g, 0, none⟩ = some (.int .i64 sr) ∧ w'.cell? ⟨g, 1, none⟩ = some (.int .i64 sc)) [14, 15] [0, 1, 2, 3, 4, 5, 6, 7, 8, 9, 10, 11, 12, 13, 14, 15, 16] (by kernel_rfl) (by kernel_rfl) (fun _ _ d _ _ h => by cases d <;> exact h) (by kernel_rfl) rfl ⟨c0, c1⟩ ?_
          refine mix_take 0 _ ?_ rfl rfl rfl (some 48) rfl (fun w' hw' => ?hv0) ?_
          case hv0 =>
            obtain ⟨q0, q1⟩ := hw'
            go_simp
            with_reducible rfl
          simp only [Act.put, List.setIfInBounds_toArray, List.set_cons_zero, List.set_cons_succ]
          refine mix_take 1 _ ?_ rfl rfl rfl (some 49) rfl (fun w' hw' => ?hv1) ?_
          case hv1 =>
            obtain ⟨q0, q1⟩ := hw'
            go_simp
            with_reducible rfl
          simp only [Act.put, List.setIfInBounds_toArray, List.set_cons_zero, List.set_cons_succ]
          refine mix_take 2 _ ?_ rfl rfl rfl (some 50) rfl (fun w' hw' => ?hv2) ?_
          case hv2 =>
            obtain ⟨q0, q1⟩ := hw'
            go_simp
            with_reducible rfl
          simp only [Act.put, List.setIfInBounds_toArray, List.set_cons_zero, List.set_cons_succ]
          refine mix_take 3 _ ?_ rfl rfl rfl (some 51) rfl (fun w' hw' => ?hv3) ?_
          case hv3 =>
            obtain ⟨q0, q1⟩ := hw'
            go_simp
            with_reducible rfl
          simp only [Act.put, List.setIfInBounds_toArray, List.set_cons_zero, List.set_cons_succ]
          refine mix_take 4 _ ?_ rfl rfl rfl (some 52) rfl (fun w' hw' => ?hv4) ?_
          case hv4 =>
            obtain ⟨q0, q1⟩ := hw'
            go_simp
            with_reducible rfl
          simp only [Act.put, List.setIfInBounds_toArray, List.set_cons_zero, List.set_cons_succ]
          refine mix_take 5 _ ?_ rfl rfl rfl (some 53) rfl (fun w' hw' => ?hv5) ?_
          case hv5 =>
            obtain ⟨q0, q1⟩ := hw'
            go_simp
            with_reducible rfl
          simp only [Act.put, List.setIfInBounds_toArray, List.set_cons_zero, List.set_cons_succ]
          refine mix_take 6 _ ?_ rfl rfl rfl (some 54) rfl (fun w' hw' => ?hv6) ?_
          case hv6 =>
            obtain ⟨q0, q1⟩ := hw'
            go_simp
            with_reducible rfl
          simp only [Act.put, List.setIfInBounds_toArray, List.set_cons_zero, List.set_cons_succ]
          refine mix_take 7 _ ?_ rfl rfl rfl (some 55) rfl (fun w' hw' => ?hv7) ?_
          case hv7 =>
            obtain ⟨q0, q1⟩ := hw'
            go_simp
            with_reducible rfl
          simp only [Act.put, List.setIfInBounds_toArray, List.set_cons_zero, List.set_cons_succ]
          refine mix_take 8 _ ?_ rfl rfl rfl (some 56) rfl (fun w' hw' => ?hv8) ?_
          case hv8 =>
            obtain ⟨q0, q1⟩ := hw'
            go_simp
            with_reducible rfl
          simp only [Act.put, List.setIfInBounds_toArray, List.set_cons_zero, List.set_cons_succ]
          refine mix_take 9 _ ?_ rfl rfl rfl (some 57) rfl (fun w' hw' => ?hv9) ?_
          case hv9 =>
            obtain ⟨q0, q1⟩ := hw'
            go_simp
            with_reducible rfl
          simp only [Act.put, List.setIfInBounds_toArray, List.set_cons_zero, List.set_cons_succ]
          refine mix_take 10 _ ?_ rfl rfl rfl (some 58) rfl (fun w' hw' => ?hv10) ?_
          case hv10 =>
            obtain ⟨q0, q1⟩ := hw'
            go_simp
            with_reducible rfl
          simp only [Act.put, List.setIfInBounds_toArray, List.set_cons_zero, List.set_cons_succ]
          refine mix_take 11 _ ?_ rfl rfl rfl (some 59) rfl (fun w' hw' => ?hv11) ?_
          case hv11 =>
            obtain ⟨q0, q1⟩ := hw'
            go_simp
            with_reducible rfl
          simp only [Act.put, List.setIfInBounds_toArray, List.set_cons_zero, List.set_cons_succ]
          refine mix_take 12 _ ?_ rfl rfl rfl (some 60) rfl (fun w' hw' => ?hv12) ?_
          case hv12 =>
            obtain ⟨q0, q1⟩ := hw'
            go_simp
            with_reducible rfl
          simp only [Act.put, List.setIfInBounds_toArray, List.set_cons_zero, List.set_cons_succ]
          refine mix_take 13 _ ?_ rfl rfl rfl (some 61) rfl (fun w' hw' => ?hv13) ?_
          case hv13 =>
            obtain ⟨q0, q1⟩ := hw'
            go_simp
            with_reducible rfl
          simp only [Act.put, List.setIfInBounds_toArray, List.set_cons_zero, List.set_cons_succ]
          generalize q + (c : Int) + sc = o at HE1 ⊢
          have hod := own_now ho ((Below.refl wi.heap.size wi).drew)
          have hBd := hB.drew
          have hz4 := hBd.size
          have d0 : wi.drew.cell? ⟨g, 0, none⟩ = some (.int .i64 sr) := c0
          have d1 : wi.drew.cell? ⟨g, 1, none⟩ = some (.int .i64 sc) := c1
          have hgu3 : g < wi.drew.heap.size := hgu
          generalize wi.drew = w5 at hod hBd hz4 d0 d1 hgu3 ⊢
          have hba := balloc (Below.refl w5.heap.size w5) (.cells #[.int .i64 o] 3)
          refine mix_build_int 14 _ rfl rfl rfl _ rfl (some 62) rfl o rfl ⟨⟨(hba.cell (p := ⟨g, 0, none⟩) hgu3).trans d0, (hba.cell (p := ⟨g, 1, none⟩) hgu3).trans d1⟩, ?_⟩
          simp only [Act.put, List.setIfInBounds_toArray, List.set_cons_zero, List.set_cons_succ]
          refine mix_append_int 15 _ rfl rfl w1.heap.size w5.heap.size _ (hxn (n : Int) (m : Int) (r : Int) (c : Int) k) o rfl _ _ rfl (some 63) rfl rfl rfl (World.cell?_alloc_at _ _ _ _ rfl) (own_now hod hba) (by simp only [World.size_alloc]; omega) (by have := HLEN.out; omega) ?_
          intro v' w6 ho6 hb6 _
          have hB6 := (hBd.trans (hba.mono hz4)).trans hb6
          refine ⟨⟨(hB6.cell (p := ⟨g, 0, none⟩) hgu2).trans ?_, (hB6.cell (p := ⟨g, 1, none⟩) hgu2).trans ?_⟩, ?_⟩
          · exact (hBd.cell (p := ⟨g, 0, none⟩) hgu2).symm.trans d0
          · exact (hBd.cell (p := ⟨g, 1, none⟩) hgu2).symm.trans d1
          simp only [Act.put, List.setIfInBounds_toArray, List.set_cons_zero, List.set_cons_succ]
          refine mix_take 16 _ ?_ rfl rfl rfl (some 9) rfl (fun w' hw' => ?hv16) ?_
          case hv16 =>
            go_simp
            with_reducible rfl
          simp only [Act.put, List.setIfInBounds_toArray, List.set_cons_zero, List.set_cons_succ]
          refine mix_done ?_
          clear e1 e2 e3 e4 c6 c0 c1 ho hB d0 d1 hod hBd
          go_wp2_with fail
          go_roundw
          case rel => exact ⟨k + 1, by omega, by go_num, by rw [HN1.out, HE1.out]; exact ho6, hB6⟩
          case measure => simp [intOf]; omega
        · have HE1 : Hid (hxk (n : Int) m r c k = []) := Lib.hid (by rw [HE.out _ rfl, if_neg (fun e => h3 e.2)])
          refine (l1In_no ((c : Int) + sc) 0 ((m : Int) - 1) h3 _).mono ?_
          rintro e w4 ⟨rfl, rfl⟩
          clear h1 h3
          go_wp2_with fail
          go_roundw
          case rel => exact ⟨k + 1, by omega, by go_num, by rw [HN1.out, HE1.out, List.append_nil]; exact ho, hB⟩
          case measure => simp [intOf]; omega
      · have HE1 : Hid (hxk (n : Int) m r c k = []) := Lib.hid (by rw [HE.out _ rfl, if_neg (fun e => h1 e.1)])
        (try go_wp2_with fail)
        refine (l1In_no ((r : Int) + sr) 0 ((n : Int) - 1) h1 _).mono ?_
        rintro e w3 ⟨rfl, rfl⟩
        clear h1
        go_wp2_with fail
        go_roundw
        case rel => exact ⟨k + 1, by omega, by go_num, by rw [HN1.out, HE1.out, List.append_nil]; exact ho, hB⟩
        case measure => simp [intOf]; omega
    · have hk2 : k = 6 := by omega
      rw [hk2] at ho
      rw [hk2]
      clear hk2
      obtain ⟨-, sa, sc, sb, rfl, -⟩ := own_shape ho
      have hzB := hB0.size
      go_wp2_with fail
      go_ret
      exact ⟨_, rfl, own_base ho (by omega), hB0.trans (hB7.trans (hB.mono (by omega)) |>.mono (by omega))⟩
end Go.Proofs.YtianmmjjcegkjaaDoor
