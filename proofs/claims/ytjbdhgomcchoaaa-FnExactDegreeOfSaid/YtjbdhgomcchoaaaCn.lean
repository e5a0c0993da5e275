import Derived.Test.YtjbdhgomcchoaaaRw
namespace Go.Proofs.Ytjbdhgomcchoaaa
open Go.RowKit
/-- How many numbers the first j rows have together. -/
def offs (ls : List Nat) : Nat → Nat
  | 0 => 0
  | j + 1 => offs ls j + ls.getD j 0
theorem offs_le (ls : List Nat) (h : ∀ i, ls.getD i 0 ≤ 1000) : ∀ j, offs ls j ≤ 1000 * j
  | 0 => Nat.le_refl _
  | j + 1 => by have := offs_le ls h j; have := h j; simp only [offs]; omega
/-- Rows of these lengths. -/
def Lens (ls : List Nat) (cs : List (List Int)) : Prop := cs.length = ls.length ∧ ∀ i, (cs.getD i []).length = ls.getD i 0
theorem lens_self (cs : List (List Int)) : Lens (cs.map List.length) cs := ⟨by simp, fun i => by
  simp only [List.getD, List.getElem?_map]
  cases cs[i]? <;> rfl⟩
/-- The first j rows hold the numbers from k on. -/
def Mkd (k : Int) (ls : List Nat) (j : Nat) (cs : List (List Int)) : Prop := Lens ls cs ∧ ∀ i, i < j → ∀ t : Nat, t < ls.getD i 0 → (cs.getD i []).getD t 0 = k + (offs ls i : Nat) + t
theorem mkd_row (k : Int) (ls : List Nat) (j : Nat) (cs : List (List Int)) (h : Mkd k ls j cs) (hj : j < ls.length) : Mkd k ls (j + 1) (cs.set j (mkd (k + (offs ls j : Nat)) (cs.getD j []).length (cs.getD j []))) := by
  obtain ⟨⟨h1, h2⟩, h3⟩ := h
  have hn : ∀ i, i ≠ j → (cs.set j (mkd (k + (offs ls j : Nat)) (cs.getD j []).length (cs.getD j []))).getD i [] = cs.getD i [] := fun i hi => by
    simp [List.getD, Ne.symm hi]
  have he : (cs.set j (mkd (k + (offs ls j : Nat)) (cs.getD j []).length (cs.getD j []))).getD j [] = mkd (k + (offs ls j : Nat)) (cs.getD j []).length (cs.getD j []) := by
    simp [List.getD, h1, hj]
  refine ⟨⟨by simp [h1], fun i => ?_⟩, fun i hi t ht => ?_⟩
  · by_cases e : i = j
    · subst e; rw [he, mkd_len _ _ _ (Nat.le_refl _)]; exact h2 i
    · rw [hn i e]; exact h2 i
  · by_cases e : i = j
    · subst e; rw [he]; exact mkd_all _ _ t (by rw [h2]; exact ht)
    · rw [hn i e]; exact h3 i (by omega) t ht
set_option maxHeartbeats 800000 in
theorem markIntSS_any (ls : List Nat) (cs : List (List Int)) (hls : Lens ls cs) (hsmall : ∀ i, ls.getD i 0 ≤ 1000) (hlen : ls.length ≤ 100000) (a : Option Addr) (base n cap : Nat) (w : World) (ho : CellsV w base (.slice a n cap) cs) :
    Calls Try.prog 18 #[.slice a n cap, .int .i64 1] w fun e w' => e = .returned (.int .i64 (1 + (offs ls ls.length : Nat))) ∧ (∃ cs', Mkd 1 ls ls.length cs' ∧ CellsV w' base (.slice a n cap) cs') ∧ Below base w w' := by
  obtain ⟨hn, hm, -⟩ := cells_row ho
  rw [hls.1] at hn hm
  subst hn
  have HO := Lib.hid (offs_le ls hsmall)
  have HS := Lib.hid hsmall
  have hst : Mkd 1 ls 0 cs := ⟨hls, fun i hi => by omega⟩
  clear hls hm hsmall
  go_enter Try.func18, Try.ntmps18
  go_wp2_with fail
  go_loopw [1, 5] (fun v1 v5 wr => ∃ j : Nat, ∃ cs' : List (List Int), j ≤ ls.length ∧ v5 = .int .i64 j ∧ v1 = .int .i64 (1 + (offs ls j : Nat)) ∧ Mkd 1 ls j cs' ∧ CellsV wr base (.slice a ls.length cap) cs' ∧ Below base w wr) (fun _ v5 _ => ls.length - (intOf v5).toNat)
  case atStart => exact ⟨0, cs, Nat.zero_le _, rfl, by simp [offs], hst, ho, Below.refl _ _⟩
  case round =>
    obtain ⟨j, cs', hj, rfl, rfl, hmk, hw, hb⟩ := hrel
    clear ho hst
    by_cases hlt : j < ls.length
    · obtain ⟨hn, -, hrows⟩ := cells_row hw
      obtain ⟨g, ra, rc, rb, rfl, hbg, hgl, c1, hx, hr, hown, hset⟩ := hrows j (by omega)
      have hol := HO.out j
      have hos := HS.out j
      have hl := hmk.1.2 j
      have HN := Lib.hid (mkd_row 1 ls j cs' hmk hlt)
      have HB := Lib.hid hbg
      have HT := Lib.hid hset
      have HE : Hid (offs ls (j + 1) = offs ls j + ls.getD j 0) := rfl
      clear hrows hmk hw hset hbg hr hx hn
      rw [← hl] at HE hos
      generalize offs ls j = o at hol HN HE
      generalize ls.getD j 0 = lj at hl
      clear hl lj
      generalize cs'.getD j [] = c at c1 hown HT HN HE hos
      go_wp2_with fail
      refine (markIntS_only 3 c ra base c.length rc _ wr hown (by omega) (by omega)).mono ?_
      rintro e w1 ⟨rfl, ho1, hb1, hk1⟩
      have hnew := HT.out w1 (mkd (1 + (o : Nat)) c.length c) (by rw [mkd_len _ _ _ (Nat.le_refl _)]; exact ho1) hk1
      clear ho1 hk1 hown HT c1
      go_wp2_with fail
      go_roundw
      case rel => exact ⟨j + 1, cs'.set j (mkd (1 + (o : Nat)) c.length c), by omega, by go_num, by rw [HE.out]; simp only [Value.int.injEq, true_and]; omega, HN.out, hnew, hb.trans hb1⟩
      case measure => simp [intOf]; omega
    · have hj2 : j = ls.length := by omega
      subst hj2
      go_wp2_with fail
      go_ret
      exact ⟨rfl, ⟨_, hmk, hw⟩, hb⟩
set_option maxHeartbeats 800000 in
theorem heldIntSS_yes (ls : List Nat) (cs : List (List Int)) (hmk : Mkd 1 ls ls.length cs) (hsmall : ∀ i, ls.getD i 0 ≤ 1000) (hlen : ls.length ≤ 100000) (a : Option Addr) (base n cap : Nat) (w : World) (ho : CellsV w base (.slice a n cap) cs) :
    Calls Try.prog 19 #[.slice a n cap, .int .i64 1] w fun e w' => e = .returned (.int .i64 (1 + (offs ls ls.length : Nat))) ∧ w = w' := by
  obtain ⟨hn, hm, hrows⟩ := cells_row ho
  rw [hmk.1.1] at hn hm
  subst hn
  have HO := Lib.hid (offs_le ls hsmall)
  have HS := Lib.hid hsmall
  have HM := Lib.hid hmk
  have HR := Lib.hid hrows
  clear hm hsmall hmk hrows ho
  go_enter Try.func19, Try.ntmps19
  go_wp2_with fail
  go_loop [1, 5] (fun v1 v5 => ∃ j : Nat, j ≤ ls.length ∧ v5 = .int .i64 j ∧ v1 = .int .i64 (1 + (offs ls j : Nat))) (fun _ v5 => ls.length - (intOf v5).toNat)
  case atStart => exact ⟨0, Nat.zero_le _, rfl, by simp [offs]⟩
  case round =>
    obtain ⟨j, hj, rfl, rfl⟩ := hrel
    by_cases hlt : j < ls.length
    · obtain ⟨g, ra, rc, rb, rfl, -, hgl, c1, hx, hr, -, -⟩ := HR.out j (by have := HM.out.1.1; omega)
      have hol := HO.out j
      have hos := HS.out j
      have hl := HM.out.1.2 j
      have HV := Lib.hid (HM.out.2 j hlt)
      have HE : Hid (offs ls (j + 1) = offs ls j + ls.getD j 0) := rfl
      rw [← hl] at HE HV hos
      generalize offs ls j = o at hol HE HV
      generalize cs.getD j [] = c at c1 hr HE HV hos
      clear hl hx
      go_wp2_with fail
      refine (heldIntS_yes c ra rb 0 _ rc _ _ rfl hr (by omega) (by omega) (fun t ht => HV.out t ht)).mono ?_
      rintro e w1 ⟨rfl, rfl⟩
      go_wp2_with fail
      go_round
      case rel => exact ⟨j + 1, by omega, by go_num, by rw [HE.out]; simp only [Value.int.injEq, true_and]; omega⟩
      case measure => simp [intOf]; omega
    · have hj2 : j = ls.length := by omega
      subst hj2
      go_wp2_with fail
      go_ret
      exact ⟨rfl, rfl⟩
end Go.Proofs.Ytjbdhgomcchoaaa
