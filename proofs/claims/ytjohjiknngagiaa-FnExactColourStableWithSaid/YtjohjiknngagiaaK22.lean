import Derived.Test.YtjohjiknngagiaaK21
import Derived.Test.YtjohjiknngagiaaKp
import Derived.Test.YtjohjiknngagiaaK6b
namespace Go.Proofs.Ytjohjiknngagiaa
open Go.RowKit
set_option maxRecDepth 4000
def apS (l : List Nat) (i j : Nat) : Bool := decide (l.getD i 0 &&& l.getD j 0 = 0)
/-- No colour among the first k ones does harm. -/
def fitK (ap : Nat → Nat → Bool) (list : List Nat) (x k : Nat) : Bool := (List.range k).all (fun i => !((list.getD i 0 == x) && ap i list.length))
theorem fitK_succ (ap : Nat → Nat → Bool) (list : List Nat) (x k : Nat) : fitK ap list x (k + 1) = (fitK ap list x k && !((list.getD k 0 == x) && ap k list.length)) := by
  simp [fitK, List.range_succ, List.all_append]
def GS (ap : Nat → Nat → Bool) (m count f : Nat) (list : List Nat) (y : Nat) : Option (List Nat) := if fitB ap list y then impS ap m count f (list ++ [y]) else none
/-- What a search hands back. -/
def SOut (w : World) (lo : Nat) (r : Option (List Nat)) (e : Ending) (w' : World) : Prop :=
  Below w.heap.size w w' ∧ match r with
    | none => e = .returned (.tuple #[.slice none 0 0, .bool false])
    | some o => ∃ v, e = .returned (.tuple #[v, .bool true]) ∧ OI w' lo w'.heap.size v (toI o)
theorem can_eq {t x : Nat} {list : List Nat} (h : Can t list) (h1 : ∀ y, y < x → y ∈ list) (h2 : x ∉ list) : t = x := by
  rcases Nat.lt_trichotomy t x with hlt | he | hgt
  · have := h.1 t (h1 t hlt); omega
  · exact he
  · exact absurd (h.2 x hgt) h2
theorem toI_mem (list : List Nat) (x : Nat) : ((x : Int) ∈ toI list) ↔ x ∈ list := by
  simp only [toI, List.mem_map]
  constructor
  · rintro ⟨a, ha, e⟩
    obtain rfl : a = x := by omega
    exact ha
  · intro h; exact ⟨x, h, rfl⟩
theorem toI_at8 (l : List Nat) (j : Nat) : (toI l).getD j 0 = ((l.getD j 0 : Nat) : Int) := toI_at l j
theorem toI_snoc8b (l : List Nat) (x : Nat) : toI (l ++ [x]) = toI l ++ [(x : Int)] := by simp [toI]
theorem oi_low8 {w : World} {lo lo' hi : Nat} {v : Value} {xs : List Int} (h : OI w lo hi v xs) (hl : lo' ≤ lo) : OI w lo' hi v xs := by
  obtain ⟨et, h1, h2⟩ := h
  exact ⟨et, own_base h1 hl, h2⟩
theorem l1Own_all8 (list : List Nat) (a : Option Addr) (cap : Nat) (w : World) {B : Nat} (hl : (toI list).length = list.length) (h : RdS w B a (toI list)) (hB : B ≤ w.heap.size) (hnil : list.length = 0 → a = none ∧ cap = 0) (hlen : list.length ≤ 1000) :
    Calls Try.prog 56 #[.slice a list.length cap] w fun e w' => ∃ v, e = .returned v ∧ w'.ownsRow w.heap.size 3 1 v (toI list).length ((toI list).map (Value.int .i64)) ∧ Below w.heap.size w w' := by
  by_cases h0 : 0 < list.length
  · have := l1Own_pos (toI list) (by omega) (by omega) a cap B w h hB
    rw [← hl]
    exact this
  · obtain ⟨rfl, rfl⟩ := hnil (by omega)
    obtain rfl : list = [] := List.eq_nil_of_length_eq_zero (by omega)
    exact l1Own_nil w
set_option maxHeartbeats 3200000 in
theorem knColour_any (l : List Nat) (hls : ∀ s ∈ l, s < 256) (hlen : l.length ≤ 256) (count : Nat) (hcount : count ≤ 8) (aS : Option Addr) (cS BS : Nat) : ∀ (f : Nat) (list : List Nat) (t lo : Nat) (a : Option Addr) (cap : Nat) (w : World), Can t list → list.length + f = l.length → (list.length = 0 → a = none ∧ cap = 0) → RdS w BS aS (toI l) → BS ≤ w.heap.size → OI w lo w.heap.size (.slice a list.length cap) (toI list) → lo ≤ w.heap.size →
    Calls Try.prog 33 #[.slice aS l.length cS, .slice a list.length cap, .int .i64 count] w (SOut w lo (impS (apS l) l.length count f list))
  | 0, list, t, lo, a, cap, w, hcan, hf, hnil, hrd, hBS, hoi, hlo => by
    have he : list.length = l.length := by omega
    rw [impS_full _ _ _ _ _ he]
    have heb : ((list.length : Int) == (l.length : Int)) = true := by simp [he]
    have HO := Lib.hid hoi
    rw [he] at HO ⊢
    clear hf hnil hrd hoi hcan heb
    have heb : ((l.length : Int) == (l.length : Int)) = true := by simp
    go_enter Try.func33, Try.ntmps33
    go_wp2_with fail
    go_returns
    exact ⟨Below.refl _ _, _, rfl, HO.out⟩
  | f + 1, list, t, lo, a, cap, w, hcan, hf, hnil, hrd, hBS, hoi, hlo => by
    have hlt0 : list.length < l.length := by omega
    have hne0 : list.length ≠ l.length := by omega
    have hneb : ((list.length : Int) == (l.length : Int)) = false := by simp; omega
    have hl1 : (toI list).length = list.length := toI_len list
    have hl2 := toI_len l
    obtain ⟨la, lc, lb, hlv, hlr, hls'⟩ := oi_shape hoi
    simp only [Value.slice.injEq] at hlv
    obtain ⟨rfl, -, rfl⟩ := hlv
    have HIH := Lib.hid (fun list' t' a' cap' w' hcan' hf' hnil' hrd' hBS' hoi' hlo' => knColour_any l hls hlen count hcount aS cS BS f list' t' w.heap.size a' cap' w' hcan' hf' hnil' hrd' hBS' hoi' hlo')
    have HRD := Lib.hid (fun w' (hb : Below w.heap.size w w') => rds_chg hrd (chg_below hb) hBS (.inr rfl))
    have HLR := Lib.hid (fun w' (hb : Below w.heap.size w w') => rds_chg hls' (chg_below hb) (Nat.le_refl _) (.inr rfl))
    have HOI := Lib.hid hoi
    obtain ⟨sb, so, ⟨hsm, hsc⟩, hsB⟩ := id hrd
    have HSC : Hid (∀ j, j < l.length → aS = some ⟨sb, so, none⟩ ∧ sb < w.heap.size ∧ w.cell? ⟨sb, so + j, none⟩ = some (.int .i64 (l.getD j 0 : Nat))) := Lib.hid (fun j hj => by
      have := hsc j (by omega)
      rw [toI_at] at this
      exact ⟨this.1, by omega, this.2⟩)
    have HLC : Hid (∀ j, j < list.length → a = some ⟨lb, 0, none⟩ ∧ lb < w.heap.size ∧ w.cell? ⟨lb, j, none⟩ = some (.int .i64 (list.getD j 0 : Nat))) := Lib.hid (fun j hj => by
      have := hlr.2 j (by omega)
      rw [toI_at, Nat.zero_add] at this
      refine ⟨this.1, ?_, this.2⟩
      obtain ⟨b2, o2, q1, q2⟩ := hls'
      have q3 := (q1.2 j (by omega)).1
      rw [this.1] at q3
      simp only [Option.some.injEq, Addr.mk.injEq] at q3
      omega)
    have HX := Lib.hid (fun j (hj : j < l.length) => mem_getD hls j hj)
    have HCAN := Lib.hid hcan
    have HNIL := Lib.hid hnil
    have HFL := Lib.hid hf
    have HFK : Hid (∀ x, fitK (apS l) list x list.length = fitB (apS l) list x) := Lib.hid (fun x => rfl)
    have HF0 : Hid (∀ x, fitK (apS l) list x 0 = true) := Lib.hid (fun x => rfl)
    have HFS := Lib.hid (fitK_succ (apS l) list)
    have HAP : Hid (∀ i, apS l i list.length = decide (l.getD i 0 &&& l.getD list.length 0 = 0)) := Lib.hid (fun i => rfl)
    have HFN := Lib.hid (fit_new (apS l) list)
    have HHIT := Lib.hid (imp_hit (apS l) l.length count f list hne0)
    have HBRK := Lib.hid (fun x hx => imp_break (apS l) l.length count f list x hx hne0)
    have HALL := Lib.hid (imp_all (apS l) l.length count f list hne0)
    have HGD : Hid (∀ y, GS (apS l) l.length count f list y = if fitB (apS l) list y then impS (apS l) l.length count f (list ++ [y]) else none) := Lib.hid (fun y => rfl)
    clear hcan hf hnil hrd hoi hlr hls' hsc hsm hsB hne0 hls
    go_enter Try.func33, Try.ntmps33
    go_wp2_with fail
    go_loopw [9] (fun v9 wr => ∃ x : Nat, x ≤ count ∧ v9 = .int .i64 x ∧ (∀ y, y < x → GS (apS l) l.length count f list y = none) ∧ (∀ y, y < x → y ∈ list) ∧ Below w.heap.size w wr) (fun v9 _ => count - (intOf v9).toNat)
    case atStart => exact ⟨0, Nat.zero_le _, rfl, fun _ h => by omega, fun _ h => by omega, Below.refl _ _⟩
    case round =>
      obtain ⟨x, hx, rfl, hG, hM, hb⟩ := hrel
      obtain ⟨wq, rfl⟩ : ∃ wq : World, wq = wr := ⟨_, rfl⟩
      have HG := Lib.hid hG
      have HM := Lib.hid hM
      clear hG hM
      have hz := hb.size
      by_cases hxc : x < count
      · have hxi : (x : Int) < (count : Int) := by omega
        have HB := Lib.hid hb
        go_wp2_with fail
        go_loopw [10, 29] (fun v10 v29 wr => ∃ i : Nat, i ≤ list.length ∧ v29 = .int .i64 i ∧ v10 = .bool (fitK (apS l) list x i) ∧ Same wq wr) (fun _ v29 _ => list.length - (intOf v29).toNat)
        case atStart => exact ⟨0, Nat.zero_le _, rfl, by rw [HF0.out], Same.refl _⟩
        case round =>
          clear hb
          obtain ⟨i, hi, rfl, rfl, hs⟩ := hrel
          obtain ⟨wp, rfl⟩ : ∃ wp : World, wp = wr := ⟨_, rfl⟩
          by_cases hil : i < list.length
          · have hii : (i : Int) < (list.length : Int) := by omega
            obtain ⟨ha, hbl, c⟩ := HLC.out i hil
            obtain ⟨hsa, hsl, d⟩ := HSC.out i (by omega)
            obtain ⟨-, -, d'⟩ := HSC.out list.length hlt0
            have c1 : wp.cell? ⟨lb, i, none⟩ = some (.int .i64 (list.getD i 0 : Nat)) := (hs.cell _).trans ((HB.out.cell (p := ⟨lb, i, none⟩) hbl).trans c)
            have d1 : wp.cell? ⟨sb, so + i, none⟩ = some (.int .i64 (l.getD i 0 : Nat)) := (hs.cell _).trans ((HB.out.cell (p := ⟨sb, so + i, none⟩) hsl).trans d)
            have d2 : wp.cell? ⟨sb, so + list.length, none⟩ = some (.int .i64 (l.getD list.length 0 : Nat)) := (hs.cell _).trans ((HB.out.cell (p := ⟨sb, so + list.length, none⟩) hsl).trans d')
            have HSI := Lib.hid (HFS.out x i)
            have HAI := Lib.hid (HAP.out i)
            have h1 := HX.out i (by omega)
            have h2 := HX.out list.length hlt0
            have HBE := apart_eq (l.getD i 0) (l.getD list.length 0) h1 h2
            have hll : (list.length : Int) < (l.length : Int) := by omega
            have hil2 : (i : Int) < (l.length : Int) := by omega
            subst ha hsa
            clear c d d'
            rw [HAI.out, ← HBE] at HSI
            generalize l.getD i 0 = p at *
            generalize l.getD list.length 0 = q at *
            generalize list.getD i 0 = y at *
            cases hfk : fitK (apS l) list x i
            · have HK : Hid (fitK (apS l) list x (i + 1) = false) := Lib.hid (by rw [HSI.out, hfk]; rfl)
              clear HBE
              go_wp2_with fail
              go_quiet (fail)
              go_wp2_with fail
              go_roundw
              case rel => exact ⟨i + 1, by omega, by go_num, by rw [HK.out], hs.drewN _⟩
              case measure => simp [intOf]; omega
            · by_cases hyx : y = x
              · have hyb : ((x : Int) != (y : Int)) = false := by simp [hyx]
                cases hap : (bits BinOp.and IntKind.i64 (p : Int) (q : Int) == 0)
                · have HK : Hid (fitK (apS l) list x (i + 1) = true) := Lib.hid (by rw [HSI.out, hfk, hap]; simp)
                  have hapn : (bits BinOp.and IntKind.i64 (p : Int) (q : Int) != 0) = true := by simpa using hap
                  clear HBE hyx hap
                  go_wp2_with fail
                  go_quiet (fail)
                  go_wp2_with fail
                  go_roundw
                  case rel => exact ⟨i + 1, by omega, by go_num, by rw [HK.out], hs.drewN _⟩
                  case measure => simp [intOf]; omega
                · have HK : Hid (fitK (apS l) list x (i + 1) = false) := Lib.hid (by rw [HSI.out, hfk, hap, hyx]; simp)
                  have hapn : (bits BinOp.and IntKind.i64 (p : Int) (q : Int) != 0) = false := by simpa using hap
                  clear HBE hyx hap
                  go_wp2_with fail
                  go_quiet (fail)
                  go_wp2_with fail
                  go_roundw
                  case rel => exact ⟨i + 1, by omega, by go_num, by rw [HK.out], hs.drewN _⟩
                  case measure => simp [intOf]; omega
              · have hyb : ((x : Int) != (y : Int)) = true := by simp; omega
                have HK : Hid (fitK (apS l) list x (i + 1) = true) := Lib.hid (by
                  have : (y == x) = false := beq_eq_false_iff_ne.2 hyx
                  rw [HSI.out, hfk, this]; rfl)
                clear HBE hyx
                go_wp2_with fail
                go_quiet (fail)
                go_wp2_with fail
                go_roundw
                case rel => exact ⟨i + 1, by omega, by go_num, by rw [HK.out], hs.drewN _⟩
                case measure => simp [intOf]; omega
          · obtain rfl : i = list.length := by omega
            have HBP : Hid (Below w.heap.size w wp) := Lib.hid (HB.out.trans (hs _))
            have HFX := Lib.hid (HFK.out x)
            have hBP := HBP.out
            have hzp := hBP.size
            rw [HFX.out]
            have HGX := Lib.hid (HGD.out x)
            cases hfb : fitB (apS l) list x
            · have HG1 : Hid (GS (apS l) l.length count f list x = none) := Lib.hid (by rw [HGX.out, hfb]; rfl)
              have hxm : x ∈ list := Classical.byContradiction (fun hc => by have := HFN.out x hc; rw [hfb] at this; cases this)
              have HXM := Lib.hid hxm
              have HGG : Hid (∀ y, y < x + 1 → GS (apS l) l.length count f list y = none) := Lib.hid (fun y hy => by
                by_cases e : y = x
                · rw [e]; exact HG1.out
                · exact HG.out y (by omega))
              have HMM : Hid (∀ y, y < x + 1 → y ∈ list) := Lib.hid (fun y hy => by
                by_cases e : y = x
                · rw [e]; exact HXM.out
                · exact HM.out y (by omega))
              clear hxm hfb
              go_wp2_with fail
              go_roundw
              case rel => exact ⟨x + 1, by omega, by go_num, HGG.out, HMM.out, hBP⟩
              case measure => simp [intOf]; omega
            · have HFB := Lib.hid hfb
              have HGF : Hid (GS (apS l) l.length count f list x = impS (apS l) l.length count f (list ++ [x])) := Lib.hid (by rw [HGX.out, hfb]; rfl)
              have HOW := Lib.hid (l1Own_all8 list a cap wp hl1 (HLR.out wp hBP) hzp HNIL.out (by omega))
              have HCN : Hid (∃ t', Can t' (list ++ [x])) := Lib.hid (by
                by_cases hm : x ∈ list
                · exact ⟨t, can_old HCAN.out hm⟩
                · have e := can_eq HCAN.out HM.out hm
                  subst e
                  exact ⟨_, can_new HCAN.out⟩)
              have HSN := Lib.hid (toI_snoc8b list x)
              have HLN : Hid ((toI (list ++ [x])).length = list.length + 1) := Lib.hid (by rw [toI_len]; simp)
              have HL8 : Hid ((toI list).length ≤ 256) := Lib.hid (by rw [hl1]; omega)
              clear hfb
              go_wp2_with fail
              refine HOW.out.mono ?_
              rintro e w4 ⟨v4, rfl, ho4, hb4⟩
              have hz4 := hb4.size
              go_wp2_with (at_builtin; go_loud (refine append_int w.heap.size w4 _ (toI list) _ rfl _ _ rfl rfl rfl (own_base ho4 hzp) (by omega) (by have := HL8.out; omega) ?_; intro v' w5 ho5 hb5; rw [← HSN.out] at ho5; obtain ⟨-, na, nc, nb, rfl, -, -⟩ := own_shape ho5))
              rw [HLN.out]
              have hB5 : Below w.heap.size w w5 := (hBP.trans (hb4.mono hzp)).trans hb5
              have hz5 := hB5.size
              have hoi5 : OI w5 w.heap.size w5.heap.size (.slice na (toI (list ++ [x])).length nc) (toI (list ++ [x])) := ⟨_, ho5, own_lt ho5⟩
              have HREC : Hid (Calls Try.prog 33 #[.slice aS l.length cS, .slice na (list.length + 1) nc, .int .i64 count] w5 (SOut w5 w.heap.size (impS (apS l) l.length count f (list ++ [x])))) := Lib.hid (by
                obtain ⟨t', hc⟩ := HCN.out
                have := HIH.out (list ++ [x]) t' na nc w5 hc (by have := HFL.out; simp; omega) (by simp) (HRD.out w5 hB5) (by omega) (by rw [HLN.out] at hoi5; simpa using hoi5) hz5
                simpa using this)
              clear ho4 ho5 hb5 hoi5
              cases him : impS (apS l) l.length count f (list ++ [x])
              · rw [him] at HREC HGF
                have HG1 := Lib.hid HGF.out
                have HIM := Lib.hid him
                clear him
                refine HREC.out.mono ?_
                rintro e w6 ⟨hb6, rfl⟩
                have hB6 := hB5.trans (hb6.mono hz5)
                have HGG : Hid (∀ y, y < x + 1 → GS (apS l) l.length count f list y = none) := Lib.hid (fun y hy => by
                  by_cases e : y = x
                  · rw [e]; exact HG1.out
                  · exact HG.out y (by omega))
                obtain ⟨b6, o6, hr6, -⟩ := HLR.out w6 hB6
                have HHA := Lib.hid (l1H_any (toI list) (x : Int) a b6 o6 list.length cap w6 hl1 hr6)
                clear hr6 hb6
                by_cases hm : x ∈ list
                · have HH : Hid (haB (toI list) (x : Int) = true) := Lib.hid (by simp only [haB, decide_eq_true_eq]; exact (toI_mem _ _).2 hm)
                  rw [HH.out] at HHA
                  have HXM := Lib.hid hm
                  have HMM : Hid (∀ y, y < x + 1 → y ∈ list) := Lib.hid (fun y hy => by
                    by_cases e : y = x
                    · rw [e]; exact HXM.out
                    · exact HM.out y (by omega))
                  clear hm
                  go_wp2_with fail
                  refine HHA.out.mono ?_
                  rintro e w7 ⟨rfl, rfl⟩
                  go_wp2_with fail
                  go_roundw
                  case rel => exact ⟨x + 1, by omega, by go_num, HGG.out, HMM.out, hB6⟩
                  case measure => simp [intOf]; omega
                · have HH : Hid (haB (toI list) (x : Int) = false) := Lib.hid (by simp only [haB, decide_eq_false_iff_not]; exact fun h => hm ((toI_mem _ _).1 h))
                  rw [HH.out] at HHA
                  have HR : Hid (impS (apS l) l.length count (f + 1) list = none) := Lib.hid (by
                    have e := can_eq HCAN.out HM.out hm
                    subst e
                    exact HBRK.out t HCAN.out hxc (fun y hy => by rw [← HGD.out]; exact HGG.out y (by omega)) HFB.out)
                  clear hm
                  go_wp2_with fail
                  refine HHA.out.mono ?_
                  rintro e w7 ⟨rfl, rfl⟩
                  go_wp2_with fail
                  go_returns
                  rw [HR.out]
                  exact ⟨hB6, rfl⟩
              · rename_i o
                rw [him] at HREC
                have HR : Hid (impS (apS l) l.length count (f + 1) list = some o) := Lib.hid (HHIT.out x o hxc (fun y hy => by rw [← HGD.out]; exact HG.out y hy) HFB.out him)
                clear him
                refine HREC.out.mono ?_
                rintro e w6 ⟨hb6, v6, rfl, ho6⟩
                have hB6 := hB5.trans (hb6.mono hz5)
                go_wp2_with fail
                go_returns
                rw [HR.out]
                exact ⟨hB6, _, rfl, oi_low8 ho6 hlo⟩
      · have HR : Hid (impS (apS l) l.length count (f + 1) list = none) := Lib.hid (HALL.out (fun y hy => by rw [← HGD.out]; exact HG.out y (by omega)))
        go_wp2_with fail
        go_returns
        rw [HR.out]
        exact ⟨hb, rfl⟩
end Go.Proofs.Ytjohjiknngagiaa
