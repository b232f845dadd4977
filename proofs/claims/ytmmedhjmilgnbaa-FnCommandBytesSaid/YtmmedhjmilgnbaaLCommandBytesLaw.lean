/- What this text proves: the law that commands and notices can be read from their bytes, and commands with one byte changed cannot, returns true for every bytes that it draws from. -/
import Derived.Test.YtmmedhjmilgnbaaCmMath
import Derived.Test.YtmmedhjmilgnbaaDraw
import Derived.Test.YtmmedhjmilgnbaaAtTn
namespace Go.Proofs.Ytmmedhjmilgnbaa
open Go.ChangeShapes Go.WideShapes Go.ChangeAt Go.RowKit
set_option linter.unusedVariables false

set_option maxRecDepth 8000 in
set_option maxHeartbeats 4000000 in
theorem law_commandBytes (A : Option Addr) (n c : Nat) (hm : n ≤ maxLen) (w : World) (hc : CodeOk w w.heap.size A n) :
    Calls Try.prog 3 #[.slice A n c] w fun e w' => e = .returned (.bool true) ∧ Below w.heap.size w w' := by
  by_cases hbig : 1048576 < n
  · go_enter Try.func3, Try.ntmps3
    go_wp2_with (go_at_call 12; refine (big_yes _ _ _ hbig hm _).mono ?_; rintro e w' ⟨rfl, rfl⟩)
    go_ret
    exact ⟨rfl, Below.refl _ _⟩
  · have hn : n ≤ 1048576 := by omega
    have Ha := Lib.hid (fun (w1 : World) (hb : Below w.heap.size w w1) i hi => at_any w.heap.size A n c hn i hi w1 (hc.more hb))
    have Hd := Lib.hid (draw_bytes A n c hn w hc)
    clear hc hbig
    go_enter Try.func3, Try.ntmps3
    go_wp2_with (go_at_call 12; refine (big_no _ _ _ hn _).mono ?_; rintro e w' ⟨rfl, rfl⟩)
    refine Hd.out.mono ?_
    rintro e w1 ⟨d, hd29, rfl, hb1⟩
    have B1 := Lib.hid hb1
    clear hb1 Hd
    go_wp2_with fail
    refine (Ha.out _ B1.out 0 (by omega)).mono ?_
    rintro e w' ⟨x0, hx0, rfl, rfl⟩
    go_wp2_with fail
    refine (Ha.out _ B1.out 1 (by omega)).mono ?_
    rintro e w' ⟨q, hq, rfl, rfl⟩
    obtain ⟨k, hk⟩ : ∃ k : Nat, (x0 : Int) % 2 = (k : Int) := ⟨x0 % 2, by omega⟩
    have hk1 : k ≤ 1 := by omega
    have hok : CmOk (k : Int) (q : Int) d := ⟨by omega, by omega, by omega⟩
    have hback := decC_back hok
    have hturn := fun t j y hj hy ht => decC_turned hok t j y hj hy ht
    obtain ⟨hp0, hp1⟩ := cmT_pos hok
    have hen := encC_impl (k : Int) (q : Int) d (by omega)
    generalize cmT (k : Int) (q : Int) d = T at *
    have hde := decC_impl T (by omega)
    simp only [hback, retC] at hde
    have HEN := Lib.hid hen
    have HDE := Lib.hid hde
    have HTU := Lib.hid hturn
    have hk' := Lib.hid hk
    clear hok hback hturn hen hde
    go_wp2_with fail
    refine (HEN.out _).mono ?_
    rintro e w2 ⟨rfl, hb2⟩
    have B2 := Lib.hid (B1.out.trans (hb2.mono B1.out.size))
    clear hb2
    go_wp2_with fail
    refine (HDE.out _).mono ?_
    rintro e w3 ⟨rfl, hb3⟩
    have B3 := Lib.hid (B2.out.trans (hb3.mono B2.out.size))
    clear hb3
    go_wp2_with fail
    refine (Ha.out _ B3.out 2 (by omega)).mono ?_
    rintro e w' ⟨x2, hx2, rfl, rfl⟩
    go_wp2_with fail
    refine (Ha.out _ B3.out 3 (by omega)).mono ?_
    rintro e w' ⟨x3, hx3, rfl, rfl⟩
    go_wp2_with fail
    refine (turn_any T hp0 (by omega) x2 x3 (by omega) (by omega) _).mono ?_
    rintro e w4 ⟨t, j, y, hj, hy, ht, rfl, hb4⟩
    have hts : t.size = T.size := by
      have h1 := congrArg List.length ht
      rw [List.length_set, Array.length_toList, Array.length_toList] at h1
      exact h1
    have hdt := decC_impl t (by omega)
    simp only [HTU.out t j y hj hy ht, retC] at hdt
    have HDT := Lib.hid hdt
    have B4 := Lib.hid (B3.out.trans (hb4.mono B3.out.size))
    clear hb4 hj hy ht hts hdt HTU
    go_wp2_with fail
    refine (HDT.out _).mono ?_
    rintro e w5 ⟨rfl, hb5⟩
    have B5 := Lib.hid (B4.out.trans (hb5.mono B4.out.size))
    clear hb5
    go_wp2_with fail
    refine (Ha.out _ B5.out 4 (by omega)).mono ?_
    rintro e w' ⟨x4, hx4, rfl, rfl⟩
    go_wp2_with fail
    refine (Ha.out _ B5.out 5 (by omega)).mono ?_
    rintro e w' ⟨x5, hx5, rfl, rfl⟩
    obtain ⟨P, hP⟩ : ∃ P, ((x4 : Int) % 2 == 0) = P := ⟨_, rfl⟩
    obtain ⟨Q, hQ⟩ : ∃ Q, ((x5 : Int) % 2 == 0) = Q := ⟨_, rfl⟩
    obtain ⟨nb, nz⟩ := decN_back P Q hq
    have hen := encN_impl (q : Int) P Q
    generalize ntT (q : Int) P Q = E at *
    have hde := decN_impl E (by omega)
    simp only [nb, retN] at hde
    have HEN2 := Lib.hid hen
    have HDE2 := Lib.hid hde
    have B6 := Lib.hid (B5.out.alloc B5.out.size (.cells (ntL (q : Int) P Q).toArray 31))
    have N6 := Lib.hid (Box.made w5 (ntL (q : Int) P Q) 31 w5.heap.size rfl)
    clear hen hde nb nz
    go_wp2_with fail
    refine (HEN2.out _).mono ?_
    rintro e w7 ⟨rfl, hb7⟩
    have B7 := Lib.hid (B6.out.trans (hb7.mono B6.out.size))
    have N7 := Lib.hid (N6.out.more hb7)
    clear hb7
    go_wp2_with fail
    refine (HDE2.out _).mono ?_
    rintro e w8 ⟨rfl, hb8⟩
    have B8 := B7.out.trans (hb8.mono B7.out.size)
    have N8 := Lib.hid ((N7.out.more hb8).alloc (.cells (ntL (q : Int) P Q).toArray 31))
    have M8 := Lib.hid (Box.made w8 (ntL (q : Int) P Q) 31 w8.heap.size rfl)
    have B9 := Lib.hid (B8.alloc B8.size (.cells (ntL (q : Int) P Q).toArray 31))
    obtain ⟨k0, k1, k2⟩ := N8.out.threeR
    obtain ⟨m0, m1, m2⟩ := M8.out.threeR
    have hself : (d.toList == d.toList) = true := beq_self_eq_true _
    clear hb8 B8 hP hQ hk
    go_wp2
    go_ret
    exact ⟨rfl, B9.out⟩
end Go.Proofs.Ytmmedhjmilgnbaa
