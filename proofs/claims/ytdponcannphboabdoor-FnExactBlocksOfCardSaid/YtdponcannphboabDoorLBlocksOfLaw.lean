/- What this text proves: the law of BlocksOf: program and model return the same texts and the same number, and the program's texts lie in memory of their own, at each call anew. -/
import Derived.Test.YtdponcannphboabDoorBlkS
namespace Go.Proofs.YtdponcannphboabDoor
open Go.ChangeShapes Go.WideShapes Go.ChangeAt Go.RowKit
set_option linter.unusedVariables false

set_option maxHeartbeats 4000000 in
theorem law_blocks (s : ByteArray) (n : Int) (hs : s.size ≤ maxLen) (_ : -9223372036854775808 ≤ n ∧ n ≤ 9223372036854775807) (w : World) (hT : BitW w) :
    Calls Tryd.prog 7 #[.string s, .int .i64 n] w fun e w' => e = .returned (.bool true) ∧ Below w.heap.size w w' := by
  have hs' : s.size ≤ 9223372036854775807 := by unfold maxLen at hs; omega
  by_cases hbig : 1048576 < s.size
  · clear hT
    have hd0 : decide ((1048576 : Int) < (s.size : Int)) = true := by simp; omega
    go_enter Tryd.func7, Tryd.ntmps7
    go_wp2
    go_ret
    exact ⟨rfl, Below.refl _ _⟩
  · have hd0 : decide ((1048576 : Int) < (s.size : Int)) = false := by simp; omega
    have HT := Lib.hid (fun W (hb : Below w.heap.size w W) => hT.more hb)
    clear hT
    have H1 := Lib.hid (blocks_spec s (by omega) n)
    have H2 := Lib.hid (blocks_impl s (by omega) n)
    have hl24 := Nat.le_trans (textsF_len s n (findV s n)) (findV_len s n)
    have hc24 := Nat.le_trans (badF_len s n (findV s n)) (findV_len s n)
    generalize textsF s n (findV s n) = l at *
    generalize badF s n (findV s n) = cb at *
    go_enter Tryd.func7, Tryd.ntmps7
    go_wp2_with fail
    refine (H1.out _).mono ?_
    rintro e w1 ⟨v0, rfl, o0, hb1⟩
    have O0 := Lib.hid (show OwnS w1 w.heap.size v0 l from o0)
    have B1 := Lib.hid hb1
    clear o0 hb1
    go_wp2_with fail
    refine (H2.out _ (HT.out _ B1.out)).mono ?_
    rintro e w2 ⟨v1, rfl, o1, hb2⟩
    have O1 := Lib.hid (show OwnS w2 w1.heap.size v1 l from o1)
    have C2 := Lib.hid (show Below w1.heap.size w1 w2 from hb2)
    clear o1 hb2
    go_wp2_with fail
    refine (eq_any _ _ _ v1 v0 l (by omega) O1.out (O0.out.more C2.out)).mono ?_
    rintro e w3 ⟨rfl, d, hw3⟩
    have O13 := Lib.hid (show OwnS w3 w1.heap.size v1 l by rw [hw3]; exact O1.out)
    have C3 := Lib.hid (show Below w1.heap.size w1 w3 by rw [hw3]; exact below_draws C2.out d)
    clear hw3
    obtain ⟨N, hN⟩ : ∃ N, 1 + l.length = N := ⟨_, rfl⟩
    have HM := Lib.hid (mark_any w3 w1.heap.size v1 l (by omega) O13.out C3.out.size)
    have HH := Lib.hid (fun w' => held_any w' w1.heap.size l.length v1 (by omega))
    rw [hN] at HM HH
    have hq : decide ((N : Int) < 0) = false := by simp
    clear hN
    go_wp2_with fail
    refine HM.out.mono ?_
    rintro e w4 ⟨rfl, om, hb4, hz4⟩
    have O4 := Lib.hid om
    have C4 := Lib.hid (C3.out.trans hb4)
    clear om hb4 hz4
    go_wp2_with fail
    refine (HH.out _ O4.out).mono ?_
    rintro e w5 ⟨rfl, hb5⟩
    have D5 := Lib.hid hb5
    have C5 := Lib.hid (C4.out.trans (hb5.mono C4.out.size))
    clear hb5
    go_wp2_with fail
    refine (H2.out _ (HT.out _ (B1.out.trans (C5.out.mono B1.out.size)))).mono ?_
    rintro e w6 ⟨v2, rfl, o2, hb6⟩
    have O2 := Lib.hid (show OwnS w6 w5.heap.size v2 l from o2)
    have D6 := Lib.hid (show Below w4.heap.size w4 w6 from D5.out.trans (hb6.mono D5.out.size))
    have C6 := Lib.hid (C5.out.trans (hb6.mono C5.out.size))
    clear o2 hb6
    go_wp2_with fail
    refine (eq_any _ _ _ v2 v0 l (by omega) O2.out (O0.out.more C6.out)).mono ?_
    rintro e w7 ⟨rfl, d7, hw7⟩
    have O7 := Lib.hid (show OwnS w7 w1.heap.size v1 (marksL 1 l.length) by rw [hw7]; exact O4.out.more (below_draws D6.out d7))
    have C7 := Lib.hid (show Below w1.heap.size w1 w7 by rw [hw7]; exact below_draws C6.out d7)
    clear hw7
    go_wp2_with fail
    refine (HH.out _ O7.out).mono ?_
    rintro e w8 ⟨rfl, hb8⟩
    have C8 := Lib.hid (C7.out.trans (hb8.mono C7.out.size))
    clear hb8
    go_wp2
    go_ret
    exact ⟨rfl, B1.out.trans (C8.out.mono B1.out.size)⟩
end Go.Proofs.YtdponcannphboabDoor
