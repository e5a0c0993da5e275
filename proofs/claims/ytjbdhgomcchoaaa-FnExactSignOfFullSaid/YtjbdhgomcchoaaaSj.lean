import Derived.Test.YtjbdhgomcchoaaaSi
namespace Go.Proofs.Ytjbdhgomcchoaaa
open Go.RowKit
set_option maxHeartbeats 1600000 in
theorem implSignOfFull (n : Int) (xs : List Int) (k : Int) (a : Option Addr) (b len cap : Nat) (w : World) (hn : xs.length = len) (hsm : len ≤ 1048576) (h : Rd w a b 0 xs) (hb0 : len = 0 ∨ b < w.heap.size) :
    Calls Try.prog 41 #[.int .i64 n, .slice a len cap, .int .i64 k] w fun e w' => e = .returned (.tuple #[.int .i64 (valSignOfFull n xs k), .bool (okSignOfFull n xs k)]) ∧ Below w.heap.size w w' := by
  cases hL : labB n xs
  · have H1 : Hid (valSignOfFull n xs k = 0 ∧ okSignOfFull n xs k = false) := Lib.hid (by simp [valSignOfFull, okSignOfFull, okCell, hL])
    have HR := Lib.hid (roomsOf_no n xs a b len cap w hn hsm h hb0 hL)
    rw [H1.out.1, H1.out.2]
    clear hL hn h hb0
    go_enter Try.func41, Try.ntmps41
    go_wp2_with fail
    refine HR.out.mono ?_
    rintro e w1 ⟨rfl, hb1⟩
    go_wp2_with (first | (with_reducible refine alloc_rm rfl rfl ?_) | ((with_reducible refine store_rm rfl _ _ rfl w1.heap.size zeroR zeroR ?_ ?_ ?_ zeroR_size zeroR_size zeroR_one w1.heap.size (Nat.le_refl _) ?_); exact rfl; exact rfl; exact heap_alloc_new _ _; intro w3 hg3 hb3; have hB3 := bnext hb1 ((balloc (Below.refl w1.heap.size w1) (.cells zeroR 66)).trans hb3)))
    go_ret2
    exact ⟨rfl, hB3⟩
  · obtain ⟨n, rfl⟩ := labB_nat hL
    obtain ⟨h1, h2, hl, hA⟩ := labB_yes hL
    have hnn64 : n * n ≤ 64 := Nat.mul_le_mul h2 h2
    obtain ⟨hlen, -⟩ := ci_cq n (by omega)
    have HR := Lib.hid (roomsOf_yes n xs a b len cap w hn hsm h hb0 hL)
    have HL := Lib.hid hL
    cases hp : okCell n xs k
    · have H1 : Hid (valSignOfFull n xs k = 0 ∧ okSignOfFull n xs k = false) := Lib.hid (by simp [valSignOfFull, okSignOfFull, hp])
      have hk : ¬ (0 ≤ k ∧ k < ((ci n).length : Nat)) := by simpa [okCell, hL] using hp
      have HK := Lib.hid (fun r ca cc w' hr => hasRoom_no n k r ca cc w' hr hk (by omega))
      rw [H1.out.1, H1.out.2]
      clear hL hp hn h hb0 hl hA hk hlen
      go_enter Try.func41, Try.ntmps41
      go_wp2_with fail
      refine HR.out.mono ?_
      rintro e w1 ⟨r, rfl, hrv, hb1⟩
      obtain ⟨hsz, hone, -, -, g, ca, cc, r46, -⟩ := rooms_row HL.out hrv
      go_wp2_with (first | (with_reducible refine alloc_rm rfl rfl ?_) | ((with_reducible refine store_rm rfl _ _ rfl w1.heap.size r zeroR ?_ ?_ ?_ zeroR_size hsz hone w1.heap.size (Nat.le_refl _) ?_); exact rfl; exact rfl; exact heap_alloc_new _ _; intro w3 hg3 hb3; have hB13 := ((balloc (Below.refl w1.heap.size w1) (.cells zeroR 66)).trans hb3)) | ((with_reducible refine not_op rfl _ rfl true ?_ ?_); exact rfl; (with_reducible refine move_op rfl _ rfl ?_); (with_reducible refine load_rm_g ?_ _ rfl w1.heap.size ?_ r hg3 hsz ?_); exact rfl; exact rfl; simp only [Act.put, Act.eval, List.setIfInBounds_toArray, List.set_cons_zero, List.set_cons_succ]))
      refine (HK.out r ca cc _ r46).mono ?_
      rintro e w4 ⟨rfl, hb4⟩
      go_wp2_with fail
      go_ret2
      exact ⟨rfl, bnext (bnext hb1 hB13) hb4⟩
    · obtain ⟨n', k, e1, rfl, -, hk⟩ := okCell_yes hp
      have : n = n' := by omega
      subst this
      have HK := Lib.hid (fun r ca cc w' hr => hasRoom_yes n k r ca cc w' hr hk (by omega))
      cases hfu : fullB xs n k
      · have H1 : Hid (valSignOfFull n xs k = 0 ∧ okSignOfFull n xs k = false) := Lib.hid (by simp [valSignOfFull, okSignOfFull, hfu])
        have HFU := Lib.hid hfu
        rw [H1.out.1, H1.out.2]
        clear hL hp hn h hb0 hl hA e1 hlen hfu
        go_enter Try.func41, Try.ntmps41
        go_wp2_with fail
        refine HR.out.mono ?_
        rintro e w1 ⟨r, rfl, hrv, hb1⟩
        obtain ⟨hsz, hone, -, -, g, ca, cc, r46, -⟩ := rooms_row HL.out hrv
        go_wp2_with (first | (with_reducible refine alloc_rm rfl rfl ?_) | ((with_reducible refine store_rm rfl _ _ rfl w1.heap.size r zeroR ?_ ?_ ?_ zeroR_size hsz hone w1.heap.size (Nat.le_refl _) ?_); exact rfl; exact rfl; exact heap_alloc_new _ _; intro w3 hg3 hb3; have hB13 := ((balloc (Below.refl w1.heap.size w1) (.cells zeroR 66)).trans hb3)) | ((with_reducible refine not_op rfl _ rfl true ?_ ?_); exact rfl; (with_reducible refine move_op rfl _ rfl ?_); (with_reducible refine load_rm_g ?_ _ rfl w1.heap.size ?_ r hg3 hsz ?_); exact rfl; exact rfl; simp only [Act.put, Act.eval, List.setIfInBounds_toArray, List.set_cons_zero, List.set_cons_succ]))
        refine (HK.out r ca cc _ r46).mono ?_
        rintro e w4 ⟨rfl, hb4⟩
        have hz3 : w1.heap.size < w3.heap.size := by have := hb3.size; simp at this; omega
        have hg4 : Hid (w4.heap[w1.heap.size]? = some (.cells r 66 (0, 0))) := Lib.hid ((hb4.block _ hz3).trans hg3)
        have hB14 := bnext hB13 hb4
        have hrv4 := rooms_now hrv hB14
        clear hg3 hb3 hB13 hrv r46
        go_wp2_with ((with_reducible refine not_op_g ?_ _ rfl true ?_ ?_); exact rfl; exact rfl; (with_reducible refine pick_op rfl _ _ _ rfl ?_ ?_); exact rfl; (with_reducible refine move_op rfl _ rfl ?_); (with_reducible refine load_rm_g ?_ _ rfl w1.heap.size ?_ r hg4.out hsz ?_); exact rfl; exact rfl; simp only [Act.put, Act.eval, List.setIfInBounds_toArray, List.set_cons_zero, List.set_cons_succ])
        refine (isFull_any n xs _ r k _ HL.out hrv4 hk).mono ?_
        rintro e w5 ⟨rfl, hb5⟩
        rw [HFU.out]
        go_wp2_with fail
        go_ret2
        exact ⟨rfl, bnext (bnext hb1 hB14) hb5⟩
      · have H1 : Hid (valSignOfFull n xs k = signB xs n k ∧ okSignOfFull n xs k = true) := Lib.hid (by simp [valSignOfFull, okSignOfFull, hfu, hp])
        have HFU := Lib.hid hfu
        rw [H1.out.1, H1.out.2]
        clear hL hp hn h hb0 hl hA e1 hlen hfu
        go_enter Try.func41, Try.ntmps41
        go_wp2_with fail
        refine HR.out.mono ?_
        rintro e w1 ⟨r, rfl, hrv, hb1⟩
        obtain ⟨hsz, hone, -, -, g, ca, cc, r46, -⟩ := rooms_row HL.out hrv
        go_wp2_with (first | (with_reducible refine alloc_rm rfl rfl ?_) | ((with_reducible refine store_rm rfl _ _ rfl w1.heap.size r zeroR ?_ ?_ ?_ zeroR_size hsz hone w1.heap.size (Nat.le_refl _) ?_); exact rfl; exact rfl; exact heap_alloc_new _ _; intro w3 hg3 hb3; have hB13 := ((balloc (Below.refl w1.heap.size w1) (.cells zeroR 66)).trans hb3)) | ((with_reducible refine not_op rfl _ rfl true ?_ ?_); exact rfl; (with_reducible refine move_op rfl _ rfl ?_); (with_reducible refine load_rm_g ?_ _ rfl w1.heap.size ?_ r hg3 hsz ?_); exact rfl; exact rfl; simp only [Act.put, Act.eval, List.setIfInBounds_toArray, List.set_cons_zero, List.set_cons_succ]))
        refine (HK.out r ca cc _ r46).mono ?_
        rintro e w4 ⟨rfl, hb4⟩
        have hz3 : w1.heap.size < w3.heap.size := by have := hb3.size; simp at this; omega
        have hg4 : Hid (w4.heap[w1.heap.size]? = some (.cells r 66 (0, 0))) := Lib.hid ((hb4.block _ hz3).trans hg3)
        have hB14 := bnext hB13 hb4
        have hrv4 := rooms_now hrv hB14
        clear hg3 hb3 hB13 hrv r46
        go_wp2_with ((with_reducible refine not_op_g ?_ _ rfl true ?_ ?_); exact rfl; exact rfl; (with_reducible refine pick_op rfl _ _ _ rfl ?_ ?_); exact rfl; (with_reducible refine move_op rfl _ rfl ?_); (with_reducible refine load_rm_g ?_ _ rfl w1.heap.size ?_ r hg4.out hsz ?_); exact rfl; exact rfl; simp only [Act.put, Act.eval, List.setIfInBounds_toArray, List.set_cons_zero, List.set_cons_succ])
        refine (isFull_any n xs _ r k _ HL.out hrv4 hk).mono ?_
        rintro e w5 ⟨rfl, hb5⟩
        rw [HFU.out]
        have hz4 : w1.heap.size < w4.heap.size := by have := hb4.size; omega
        have hg5 : Hid (w5.heap[w1.heap.size]? = some (.cells r 66 (0, 0))) := Lib.hid ((hb5.block _ hz4).trans hg4.out)
        have hB15 := bnext hB14 hb5
        have hrv5 := rooms_now hrv4 hb5
        clear hrv4 hb4
        go_wp2_with ((with_reducible refine load_rm_g ?_ _ rfl w1.heap.size ?_ r hg5.out hsz ?_); exact rfl; exact rfl; simp only [Act.put, List.setIfInBounds_toArray, List.set_cons_zero, List.set_cons_succ])
        refine (signOf_any n xs _ r k _ HL.out hrv5 hk).mono ?_
        rintro e w6 ⟨rfl, hb6⟩
        go_wp2_with fail
        go_ret2
        exact ⟨rfl, bnext (bnext hb1 hB15) hb6⟩
end Go.Proofs.Ytjbdhgomcchoaaa
