/- What this text proves: the law that exactly the numbers in the range 0 to MaxUint can be parsed from their decimal text returns true for every bytes that it draws from. -/
import Derived.Test.YtkgpjfemlgocoaaDoorParse
import Derived.Test.YtkgpjfemlgocoaaDoorPick
namespace Go.Proofs.YtkgpjfemlgocoaaDoor
open Go.ChangeShapes Go.WideShapes Go.ChangeAt Go.RowKit
set_option linter.unusedVariables false

/-- A number that is drawn. -/
def DrawnInt (w : World) (e : Ending) (w' : World) : Prop := ∃ x : Int, (-9223372036854775808 ≤ x ∧ x ≤ 9223372036854775807) ∧ e = .returned (.int .i64 x) ∧ Below w.heap.size w w'
theorem wrap_range (x : Int) : -9223372036854775808 ≤ wrap64 x ∧ wrap64 x ≤ 9223372036854775807 := by
  unfold wrap64
  omega

set_option maxHeartbeats 1000000 in
theorem draw_int (A : Option Addr) (n c : Nat) (hn : n ≤ 1048576) (w : World) (hc : CodeOk w w.heap.size A n) :
    Calls Tryd.prog 16 #[.slice A n c] w (DrawnInt w) := by
  have Hn := Lib.hid (new_any A n c hn w hc)
  clear hc
  go_enter Tryd.func16, Tryd.ntmps16
  go_wp2_with fail
  refine Hn.out.mono ?_
  rintro e w1 ⟨rfl, hc1, hb1⟩
  have HB := Lib.hid hb1
  clear hb1
  go_wp2_with fail
  refine (once_any _ _ 3 (by decide) hc1).mono ?_
  rintro e w2 ⟨b, rfl, hc2, hg2⟩
  cases b with
  | true =>
    go_wp2_with fail
    refine (below_any _ _ 1000000 (by decide) hc2).mono ?_
    rintro e w3 ⟨x, hx0, hx1, hx2, rfl, hc3, hg3⟩
    have hx3 := hx1 (by decide)
    clear hx1 hx2
    go_wp2_with fail
    refine (below_any _ _ 2000000 (by decide) hc3).mono ?_
    rintro e w4 ⟨y, hy0, hy1, hy2, rfl, hc4, hg4⟩
    have hy3 := hy1 (by decide)
    clear hy1 hy2
    go_wp2
    go_ret
    exact ⟨_, wrap_range _, rfl, below_of_new HB.out (grown_trans (grown_trans hg2 hg3) hg4) (Nat.le_refl _)⟩
  | false =>
    go_wp2_with fail
    refine (number_any _ _ hc2).mono ?_
    rintro e w3 ⟨x, hx, rfl, hc3, hg3⟩
    go_wp2
    go_ret
    exact ⟨x, hx, rfl, below_of_new HB.out (grown_trans hg2 hg3) (Nat.le_refl _)⟩

theorem text_some (a : ByteArray) (h : a ≠ ⟨#[]⟩) : a.toList.isEmpty = false := by
  cases e : a.toList with
  | nil =>
    rw [Lib.toList_data] at e
    exact absurd (ByteArray.ext (Array.toList_inj.1 e)) h
  | cons x r => rfl
theorem fmtB_size (n : Int) (h0 : -9223372036854775808 ≤ n) (h1 : n ≤ 9223372036854775807) : (fmtB n).size ≤ 21 := by
  rw [Lib.size_eq, fmtB_list]
  exact Lib.itoa_length_le n h0 h1

set_option maxHeartbeats 1000000 in
theorem law_numbers (A : Option Addr) (n c : Nat) (hm : n ≤ maxLen) (w : World) (hc : CodeOk w w.heap.size A n) (ht : Tab w) (he : Errs w) :
    Calls Tryd.prog 6 #[.slice A n c] w fun e w' => e = .returned (.bool true) ∧ Below w.heap.size w w' := by
  by_cases hbig : 1048576 < n
  · clear ht he
    go_enter Tryd.func6, Tryd.ntmps6
    go_wp2_with (go_at_call 12; refine (big_yes _ _ _ hbig hm _).mono ?_; rintro e w' ⟨rfl, rfl⟩)
    go_ret
    exact ⟨rfl, Below.refl _ _⟩
  · have hn : n ≤ 1048576 := by omega
    have Hd := Lib.hid (draw_int A n c hn w hc)
    have HT := Lib.hid ht
    have HE := Lib.hid he
    clear hc hbig ht he
    go_enter Tryd.func6, Tryd.ntmps6
    go_wp2_with (go_at_call 12; refine (big_no _ _ _ hn _).mono ?_; rintro e w' ⟨rfl, rfl⟩)
    refine Hd.out.mono ?_
    rintro e w1 ⟨x, ⟨hx0, hx1⟩, rfl, hb1⟩
    have hT1 := Lib.hid (HT.out.more hb1)
    have hE1 := Lib.hid (HE.out.more hb1)
    have HB := Lib.hid hb1
    clear hb1
    go_wp2_with fail
    refine (format_impl x hx0 hx1 _ hT1.out).mono ?_
    rintro e w2 ⟨rfl, hb2⟩
    have hT2 := Lib.hid (hT1.out.more hb2)
    have hE2 := Lib.hid (hE1.out.more hb2)
    have HB2 := Lib.hid (HB.out.trans (hb2.mono HB.out.size))
    clear hb2
    have HP := Lib.hid (parse_impl (fmtB x) (Nat.le_trans (fmtB_size x hx0 hx1) (by decide)) w2 hT2.out hE2.out)
    rw [parseV_fmt] at HP
    have hne : (fmtB x).toList.isEmpty = false := text_some _ (fmtB_ne x)
    by_cases h0 : 0 ≤ x
    · have d0 : decide (0 ≤ x) = true := by simp; omega
      by_cases h1 : x ≤ 1000000000
      · have d1 : decide (x ≤ 1000000000) = true := by simp; omega
        rw [if_pos ⟨h0, h1⟩] at HP
        clear h0 h1
        go_wp2_with fail
        refine HP.out.mono ?_
        rintro e w3 ⟨he, hb3⟩
        unfold retN at he
        subst he
        have HB3 := Lib.hid (HB2.out.trans (hb3.mono HB2.out.size))
        clear hb3
        go_wp2
        go_ret
        exact ⟨rfl, HB3.out⟩
      · have d1 : decide (x ≤ 1000000000) = false := by simp; omega
        rw [if_neg (fun h => h1 h.2)] at HP
        clear h0 h1
        go_wp2_with fail
        refine HP.out.mono ?_
        rintro e w3 ⟨he, hb3⟩
        unfold retN at he
        subst he
        have HB3 := Lib.hid (HB2.out.trans (hb3.mono HB2.out.size))
        clear hb3
        go_wp2
        go_ret
        exact ⟨rfl, HB3.out⟩
    · have d0 : decide (0 ≤ x) = false := by simp; omega
      rw [if_neg (fun h => h0 h.1)] at HP
      clear h0
      go_wp2_with fail
      refine HP.out.mono ?_
      rintro e w3 ⟨he, hb3⟩
      unfold retN at he
      subst he
      have HB3 := Lib.hid (HB2.out.trans (hb3.mono HB2.out.size))
      clear hb3
      go_wp2
      go_ret
      exact ⟨rfl, HB3.out⟩
end Go.Proofs.YtkgpjfemlgocoaaDoor
