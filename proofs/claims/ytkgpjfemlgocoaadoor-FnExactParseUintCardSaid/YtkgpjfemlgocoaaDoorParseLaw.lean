/- What this text proves: the law of ParseUint: program and model give the same answer to each text. -/
import Derived.Test.YtkgpjfemlgocoaaDoorParse
namespace Go.Proofs.YtkgpjfemlgocoaaDoor
open Go.ChangeShapes Go.WideShapes Go.ChangeAt Go.RowKit
set_option linter.unusedVariables false

theorem law_parse (s : ByteArray) (hs : s.size ≤ maxLen) (w : World) (ht : Tab w) (he : Errs w) :
    Calls Tryd.prog 4 #[.string s] w fun e w' => e = .returned (.bool true) ∧ Below w.heap.size w w' := by
  have hs' : s.size ≤ 9223372036854775807 := by unfold maxLen at hs; omega
  by_cases hbig : 1048576 < s.size
  · have hd0 : decide ((1048576 : Int) < (s.size : Int)) = true := by simp; omega
    clear ht he
    go_enter Tryd.func4, Tryd.ntmps4
    go_wp2
    go_ret
    exact ⟨rfl, Below.refl _ _⟩
  · have hd0 : decide ((1048576 : Int) < (s.size : Int)) = false := by simp; omega
    have HT := Lib.hid ht
    have HE := Lib.hid he
    have H1 := Lib.hid (parse_spec s (by omega))
    have H2 := Lib.hid (fun W (t : Tab W) (e : Errs W) => parse_impl s (by omega) W t e)
    clear ht he
    generalize parseV s = r at *
    obtain ⟨x, b⟩ := r
    go_enter Tryd.func4, Tryd.ntmps4
    go_wp2_with fail
    refine (H1.out _).mono ?_
    rintro e w1 ⟨he, hb1⟩
    unfold retN at he
    subst he
    have hT1 := Lib.hid (HT.out.more hb1)
    have hE1 := Lib.hid (HE.out.more hb1)
    have HB := Lib.hid hb1
    clear hb1
    go_wp2_with fail
    refine (H2.out _ hT1.out hE1.out).mono ?_
    rintro e w2 ⟨he, hb2⟩
    unfold retN at he
    subst he
    have HB2 := Lib.hid hb2
    clear hb2
    go_wp2
    go_ret
    exact ⟨rfl, HB.out.trans (HB2.out.mono HB.out.size)⟩
end Go.Proofs.YtkgpjfemlgocoaaDoor
