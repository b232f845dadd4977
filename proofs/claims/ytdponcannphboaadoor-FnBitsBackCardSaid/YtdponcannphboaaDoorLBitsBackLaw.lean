/- What this text proves: the law that bits that are spread are gathered again, that scrambling twice is not scrambling, and that blocks can be decoded. -/
import Derived.Test.YtdponcannphboaaDoorOnesum
import Derived.Test.YtdponcannphboaaDoorDraw
import Derived.Test.YtdponcannphboaaDoorAt
import Derived.Test.YtdponcannphboaaDoorEmp
import Derived.Test.YtdponcannphboaaDoorLnkK
import Derived.Test.YtdponcannphboaaDoorLnkM
import Derived.Test.YtdponcannphboaaDoorLnkN
import Derived.Test.YtdponcannphboaaDoorLnkP
import Derived.Test.YtdponcannphboaaDoorLnkQ
import Derived.Deep.QuietTactic
import Derived.BigQuiet
import Derived.Deep.RegionLaw
namespace Go.Proofs.YtdponcannphboaaDoor
open Go.ChangeShapes Go.WideShapes Go.ChangeAt Go.RowKit
set_option linter.unusedVariables false

set_option maxHeartbeats 1000000 in
theorem law_bits_back (A : Option Addr) (n c : Nat) (hm : n ≤ maxLen) (w : World) (hc : CodeOk w w.heap.size A n) (hT : BitW w) :
    Calls Tryd.prog 8 #[.slice A n c] w fun e w' => e = .returned (.bool true) ∧ Below w.heap.size w w' := by
  by_cases hbig : 1048576 < n
  · clear hT
    go_enter Tryd.func8, Tryd.ntmps8
    go_wp2_with (go_at_call 13; refine (big_yes _ _ _ hbig hm _).mono ?_; rintro e w' ⟨rfl, rfl⟩)
    go_ret
    exact ⟨rfl, Below.refl _ _⟩
  · have hn : n ≤ 1048576 := by omega
    have Hd := Lib.hid (draw_bytes A n c hn w hc)
    have HT := Lib.hid (fun W (hb : Below w.heap.size w W) => hT.more hb)
    clear hc hbig hT
    go_enter Tryd.func8, Tryd.ntmps8
    go_wp2_with (go_at_call 13; refine (big_no _ _ _ hn _).mono ?_; rintro e w' ⟨rfl, rfl⟩)
    refine Hd.out.mono ?_
    rintro e w1 ⟨s, hs, rfl, hb1⟩
    have B1 := Lib.hid hb1
    clear hb1
    have zt := spreadT_size s
    have ze := encT_size s
    have zs := scrT_size s
    have HS := Lib.hid (spread_impl s (by omega))
    have h1 := block_impl s (by omega)
    rw [show encS s = encT s by unfold encS; rw [if_pos (by omega)]] at h1
    have HE := Lib.hid h1
    have h2 := unblock_impl (encT s) (by omega)
    rw [dec_enc_block s (by omega)] at h2
    simp only [retB] at h2
    have HD := Lib.hid h2
    have h3 := gather_impl (spreadT s) (by omega)
    rw [gather_spread s] at h3
    have HG := Lib.hid h3
    have HC1 := Lib.hid (scram_impl s (by omega))
    have h4 := scram_impl (scrT s) (by omega)
    rw [scr_scr s] at h4
    have HC2 := Lib.hid h4
    have HO := Lib.hid (onesT_spread s)
    have hself := self_text s
    clear h1 h2 h3 h4
    generalize spreadT s = t at *
    generalize encT s = x at *
    generalize scrT s = y at *
    go_wp2_with fail
    refine (HS.out _).mono ?_
    rintro e w2 ⟨rfl, hb2⟩
    have B2 := Lib.hid (B1.out.trans (hb2.mono B1.out.size))
    clear hb2
    go_wp2_with fail
    refine (HE.out _ (HT.out _ B2.out)).mono ?_
    rintro e w3 ⟨rfl, hb3⟩
    have B3 := Lib.hid (B2.out.trans (hb3.mono B2.out.size))
    clear hb3
    go_wp2_with fail
    refine (HD.out _ (HT.out _ B3.out)).mono ?_
    rintro e w4 ⟨rfl, hb4⟩
    have B4 := Lib.hid (B3.out.trans (hb4.mono B3.out.size))
    clear hb4
    go_wp2
    go_loopg [8, 9] s.size (fun g v8 v9 wx => ∃ k : Nat, k ≤ s.size ∧ g = s.size - k ∧ v9 = .int .i64 (k : Int) ∧ v8 = .int .i64 ((onesT s k : Int) - (onesT t k : Int)) ∧ ∃ d, wx = w4.drewN d)
    case atStart => exact ⟨0, by omega, rfl, rfl, rfl, 0, rfl⟩
    case round =>
      obtain ⟨k, hk, rfl, rfl, rfl, d, rfl⟩ := hrel
      have l1 := onesT_le s k
      have l2 := onesT_le t k
      by_cases hlt : k < s.size
      · have hd : decide (k < s.size) = true := by simp; omega
        have hlt2 : k < t.size := by omega
        have b1 := byteAt_lt s k
        have b2 := byteAt_lt t k
        have o1 := ones_le 32 (byteAt s k)
        have o2 := ones_le 32 (byteAt t k)
        have s1 := Lib.hid (onesT_succ s k)
        have s2 := Lib.hid (onesT_succ t k)
        have e1 := byteAt_of s k hlt
        have e2 := byteAt_of t k hlt2
        have C1 := Lib.hid (show ∀ W, Calls Tryd.prog 15 #[.int .i64 ((s[k]'hlt).toNat : Int)] W fun e w' => e = .returned (.int .i64 (ones 32 (byteAt s k) : Int)) ∧ w' = W from fun W => by
          have c1 := count_impl ((byteAt s k : Nat) : Int) W
          rw [countN_in _ (by omega)] at c1
          rw [e1]
          exact c1.mono fun e w' h => ⟨h.1, h.2.symm⟩)
        have C2 := Lib.hid (show ∀ W, Calls Tryd.prog 15 #[.int .i64 ((t[k]'hlt2).toNat : Int)] W fun e w' => e = .returned (.int .i64 (ones 32 (byteAt t k) : Int)) ∧ w' = W from fun W => by
          have c1 := count_impl ((byteAt t k : Nat) : Int) W
          rw [countN_in _ (by omega)] at c1
          rw [e2]
          exact c1.mono fun e w' h => ⟨h.1, h.2.symm⟩)
        have hw1 : IntKind.i64.wrap ((s[k]'hlt).toNat : Int) = ((s[k]'hlt).toNat : Int) := IntWalk.i64_in _ (by omega)
        have hw2 : IntKind.i64.wrap ((t[k]'hlt2).toNat : Int) = ((t[k]'hlt2).toNat : Int) := IntWalk.i64_in _ (by omega)
        clear e1 e2
        generalize ones 32 (byteAt s k) = p1 at *
        generalize ones 32 (byteAt t k) = p2 at *
        have hw3 : IntKind.i64.wrap ((onesT s k : Int) - (onesT t k : Int) + (p1 : Int)) = (onesT s k : Int) - (onesT t k : Int) + (p1 : Int) := IntWalk.i64_in _ (by omega)
        have hw4 : IntKind.i64.wrap ((onesT s k : Int) - (onesT t k : Int) + (p1 : Int) - (p2 : Int)) = (onesT s k : Int) - (onesT t k : Int) + (p1 : Int) - (p2 : Int) := IntWalk.i64_in _ (by omega)
        go_wp2
        go_region_law ((go_simp; go_at_call 15; (first | (with_reducible refine (C1.out _).mono ?_) | (with_reducible refine (C2.out _).mono ?_)); rintro e w' ⟨rfl, rfl⟩))
        all_goals go_wp2
        all_goals
          go_roundg (s.size - (k + 1))
          case measure => omega
          case rel =>
            refine ⟨k + 1, by omega, rfl, by go_num, ?_, _, rfl⟩
            have h1 := s1.out
            have h2 := s2.out
            rw [show ((onesT s (k + 1) : Nat) : Int) - ((onesT t (k + 1) : Nat) : Int) = (onesT s k : Int) - (onesT t k : Int) + (p1 : Int) - (p2 : Int) from by omega]
      · obtain rfl : k = s.size := by omega
        have hd : decide (s.size < s.size) = false := by simp
        have h0 : (onesT s s.size : Int) - (onesT t s.size : Int) = 0 := by have := HO.out; omega
        have hlen : ((t.size : Int) == (s.size : Int)) = true := by simp; omega
        rw [h0]
        have B5 := Lib.hid (below_draws B4.out d)
        generalize w4.drewN d = w5 at *
        go_wp2_with fail
        refine (HG.out _).mono ?_
        rintro e w6 ⟨rfl, hb6⟩
        have B6 := Lib.hid (B5.out.trans (hb6.mono B5.out.size))
        clear hb6
        go_wp2_with fail
        refine (HC1.out _).mono ?_
        rintro e w7 ⟨rfl, hb7⟩
        have B7 := Lib.hid (B6.out.trans (hb7.mono B6.out.size))
        clear hb7
        go_wp2_with fail
        refine (HC2.out _).mono ?_
        rintro e w8 ⟨rfl, hb8⟩
        have B8 := Lib.hid (B7.out.trans (hb8.mono B7.out.size))
        clear hb8
        go_wp2
        go_ret
        exact ⟨rfl, B8.out⟩
end Go.Proofs.YtdponcannphboaaDoor
