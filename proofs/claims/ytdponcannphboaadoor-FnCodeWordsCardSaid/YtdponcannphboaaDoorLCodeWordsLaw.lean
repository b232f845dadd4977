/- What this text proves: the law of code words: each is found again with any bit changed, and with two bits changed it is noticed. -/
import Derived.Test.YtdponcannphboaaDoorLnkO
import Derived.Test.YtdponcannphboaaDoorCwm
import Derived.Test.YtdponcannphboaaDoorAt
import Derived.Deep.RegionLaw
namespace Go.Proofs.YtdponcannphboaaDoor
open Go.ChangeShapes Go.WideShapes Go.ChangeAt Go.RowKit
set_option linter.unusedVariables false

set_option maxHeartbeats 4000000 in
theorem law_code_words (A : Option Addr) (n c : Nat) (hm : n ≤ maxLen) (w : World) (hc : CodeOk w w.heap.size A n) (hT : BitW w) :
    Calls Tryd.prog 5 #[.slice A n c] w fun e w' => e = .returned (.bool true) ∧ Below w.heap.size w w' := by
  by_cases hbig : 1048576 < n
  · clear hT
    go_enter Tryd.func5, Tryd.ntmps5
    go_wp2_with (go_at_call 13; refine (big_yes _ _ _ hbig hm _).mono ?_; rintro e w' ⟨rfl, rfl⟩)
    go_ret
    exact ⟨rfl, Below.refl _ _⟩
  · have hn : n ≤ 1048576 := by omega
    have Ha := Lib.hid (fun W (hW : Below w.heap.size w W) i hi => at_any w.heap.size A n c hn i hi W (hc.more hW))
    have HT := Lib.hid (fun W (hb : Below w.heap.size w W) => hT.more hb)
    have HW := Lib.hid (fun N W hb => word_impl N W (HT.out W hb))
    have HD := Lib.hid (fun N W hb => unword_impl N W (HT.out W hb))
    clear hc hbig hT
    go_enter Tryd.func5, Tryd.ntmps5
    go_wp2_with (go_at_call 13; refine (big_no _ _ _ hn _).mono ?_; rintro e w' ⟨rfl, rfl⟩)
    refine (Ha.out _ (Below.refl _ _) 0 (by omega)).mono ?_
    rintro e w' ⟨x0, hx0, rfl, rfl⟩
    obtain ⟨N, hN, eN⟩ : ∃ N : Nat, N < 16 ∧ (x0 : Int) % 16 = (N : Int) := ⟨x0 % 16, by omega, by omega⟩
    go_wp2_with fail
    refine (HW.out _ _ (Below.refl _ _)).mono ?_
    rintro e w1 ⟨he, hb1⟩
    rw [wordV_in N hN] at he
    obtain ⟨E, hE⟩ : ∃ E : Nat, encN N = E := ⟨_, rfl⟩
    rw [hE] at he
    subst he
    have B1 := Lib.hid hb1
    clear hb1
    go_wp2_with fail
    refine (Ha.out _ B1.out 1 (by omega)).mono ?_
    rintro e w' ⟨x1, hx1, rfl, rfl⟩
    obtain ⟨I, hI, eI⟩ : ∃ I : Nat, I < 8 ∧ (x1 : Int) % 8 = (I : Int) := ⟨x1 % 8, by omega, by omega⟩
    go_wp2_with fail
    refine (Ha.out _ B1.out 2 (by omega)).mono ?_
    rintro e w' ⟨x2, hx2, rfl, rfl⟩
    obtain ⟨K, hK, eK⟩ : ∃ K : Nat, K < 8 ∧ (x2 : Int) % 8 = (K : Int) := ⟨x2 % 8, by omega, by omega⟩
    obtain ⟨P, hP, hP8, hwP⟩ := shift_one I hI
    obtain ⟨R, hR, hR8, hwR⟩ := shift_one K hK
    obtain ⟨he, hX1, l1, D1, D0⟩ := cw_one N I hN hI P hP hP8 E hE.symm
    obtain ⟨hX2, l2, D2⟩ := cw_two N I K hN hI hK P R hP hR hP8 hR8 E hE.symm
    have hwP' : IntKind.i64.wrap ((2 : Int) ^ I) = (P : Int) := (show IntKind.i64.wrap ((2 : Int) ^ I) = wrap64 ((2 : Int) ^ I) by rw [IntKind.wrap_i64]; unfold wrap64; rfl).trans hwP
    have hwR' : IntKind.i64.wrap ((2 : Int) ^ K) = (R : Int) := (show IntKind.i64.wrap ((2 : Int) ^ K) = wrap64 ((2 : Int) ^ K) by rw [IntKind.wrap_i64]; unfold wrap64; rfl).trans hwR
    have hev := word_even N hN
    rw [hE] at hev
    have cC := count_impl ((E : Nat) : Int)
    rw [countN_in _ (by clear hP hR; omega)] at cC
    have H1 := Lib.hid D1
    have H0 := Lib.hid D0
    have CC := Lib.hid cC
    have hev2 : ((ones 32 E : Nat) : Int) % 2 = 0 := by clear hP hR hE; omega
    clear D1 D0 cC hev hP hR hE
    generalize E ^^^ P ^^^ R = Z2 at *
    generalize E ^^^ P = Z1 at *
    generalize ones 32 E = O at *
    by_cases hIK : I = K
    · rw [if_pos hIK] at D2
      have H2 := Lib.hid D2
      clear D2
      subst hIK
      obtain rfl : P = R := Int.ofNat_inj.1 (hwP.symm.trans hwR)
      go_wp2_with fail
      refine (HD.out _ _ B1.out).mono ?_
      rintro e w2 ⟨he2, hb2⟩
      rw [H1.out] at he2
      simp only [retP] at he2
      subst he2
      have B2 := Lib.hid (B1.out.trans (hb2.mono B1.out.size))
      clear hb2
      go_wp2_with fail
      refine (HD.out _ _ B2.out).mono ?_
      rintro e w3 ⟨he2, hb3⟩
      rw [H0.out] at he2
      simp only [retP] at he2
      subst he2
      have B3 := Lib.hid (B2.out.trans (hb3.mono B2.out.size))
      clear hb3
      go_wp2
      go_region_law ((go_simp; go_at_call 12; with_reducible refine (HD.out _ _ B3.out.drew).mono ?_; rintro e w4 ⟨he2, hb4⟩; rw [H2.out] at he2; simp only [retP] at he2; subst he2))
      all_goals go_wp2
      all_goals go_ret
      all_goals exact ⟨rfl, B3.out.drew.trans (hb4.mono B3.out.size)⟩
    · rw [if_neg hIK] at D2
      have H2 := Lib.hid D2
      clear D2
      have hik : ((I : Int) == (K : Int)) = false := by simp; omega
      go_wp2_with fail
      refine (HD.out _ _ B1.out).mono ?_
      rintro e w2 ⟨he2, hb2⟩
      rw [H1.out] at he2
      simp only [retP] at he2
      subst he2
      have B2 := Lib.hid (B1.out.trans (hb2.mono B1.out.size))
      clear hb2
      go_wp2_with fail
      refine (HD.out _ _ B2.out).mono ?_
      rintro e w3 ⟨he2, hb3⟩
      rw [H0.out] at he2
      simp only [retP] at he2
      subst he2
      have B3 := Lib.hid (B2.out.trans (hb3.mono B2.out.size))
      clear hb3
      go_wp2
      go_region_law ((go_simp; go_at_call 12; with_reducible refine (HD.out _ _ B3.out.drew).mono ?_; rintro e w4 ⟨he2, hb4⟩; rw [H2.out] at he2; simp only [retP] at he2; subst he2))
      all_goals go_wp2_with (go_at_call 15; refine (CC.out _).mono ?_; rintro e w' ⟨rfl, rfl⟩)
      all_goals go_ret
      all_goals exact ⟨rfl, B3.out.drew.trans (hb4.mono B3.out.size)⟩
end Go.Proofs.YtdponcannphboaaDoor
