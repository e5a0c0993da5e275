import Derived.Test.YtokhpchnnilbaaaN4
import Derived.Test.YtokhpchnnilbaaaZk
namespace Go.Proofs.Ytokhpchnnilbaaa
open Go.RowKit
set_option maxRecDepth 4000
def OutIsNecklace (w : World) (r0 : Bool) (e : Ending) (w' : World) : Prop := e = .returned (.bool r0) ∧ Below w.heap.size w w'
set_option maxHeartbeats 3200000 in
theorem lawOf_IsNecklace (s : ByteArray) (w : World) (r0 : Bool)
    (hs : ∀  (w' : World), s.size ≤ 1048576 → Calls Try.prog 15 #[.string s] w' (OutIsNecklace w' r0))
    (hi : ∀  (w' : World), s.size ≤ 1048576 → Calls Try.prog 16 #[.string s] w' (OutIsNecklace w' r0)) :
    Calls Try.prog 3 #[.string s] w fun e w' => e = .returned (.bool true) ∧ Below w.heap.size w w' := by
  have HS := Lib.hid hs
  have HI := Lib.hid hi
  clear hs hi
  have hne0 : (r0 != r0) = false := by simp
  have hB0 : Below w.heap.size w w := Below.refl _ _
  by_cases hbig_s : (1048576 : Int) < (s.size : Int)
  · go_enter Try.func3, Try.ntmps3
    go_wp2_with fail
    go_ret
    exact ⟨rfl, Below.refl _ _⟩
  have hsz_s : s.size ≤ 1048576 := by omega
  go_enter Try.func3, Try.ntmps3
  go_wp2_with fail
  refine (HS.out  _ hsz_s ).mono ?_
  rintro e w1 ⟨rfl, hb⟩
  have hc := chg_below hb
  clear hb
  have z1 := hc.size
  replace hB0 := below_chg hB0 hc (by omega) (by omega)
  clear hc
  go_wp2_with fail
  refine (HI.out  _ hsz_s ).mono ?_
  rintro e w2 ⟨rfl, hb⟩
  have hc := chg_below hb
  clear hb
  have z2 := hc.size
  replace hB0 := below_chg hB0 hc (by omega) (by omega)
  clear hc
  go_wp2_with fail
  go_ret
  exact ⟨rfl, hB0⟩
set_option maxHeartbeats 400000 in
theorem specIsNecklace_any (s : ByteArray) (w : World) : Calls Try.prog 15 #[.string s] w (OutIsNecklace w (goodS s)) := by
  have HG := Lib.hid (nlGood_any s w)
  go_enter Try.func15, Try.ntmps15
  go_wp2_with fail
  refine HG.out.mono ?_
  rintro e w' ⟨rfl, rfl⟩
  go_wp2_with fail
  go_ret
  exact ⟨rfl, Below.refl _ _⟩
set_option maxHeartbeats 400000 in
theorem implIsNecklace_any (s : ByteArray) (w : World) : Calls Try.prog 16 #[.string s] w (OutIsNecklace w (goodS s)) := by
  have HG := Lib.hid (neckOf_any s w)
  go_enter Try.func16, Try.ntmps16
  go_wp2_with fail
  refine HG.out.mono ?_
  rintro e w' ⟨rfl, rfl⟩
  go_wp2_with fail
  go_ret
  exact ⟨rfl, Below.refl _ _⟩
theorem law_IsNecklace (w : World) (s : ByteArray) (wf_s : s.size ≤ maxLen) :
    Calls Try.prog 3 #[.string s] w fun e w' => e = .returned (.bool true) ∧ Below w.heap.size w w' :=
  lawOf_IsNecklace s w (goodS s) (fun w' _ => specIsNecklace_any s w') (fun w' _ => implIsNecklace_any s w')
end Go.Proofs.Ytokhpchnnilbaaa
