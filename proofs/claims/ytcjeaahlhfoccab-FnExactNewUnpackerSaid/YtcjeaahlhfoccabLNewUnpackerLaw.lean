/- What this text proves: the law of FnExactNewUnpacker: the program and the model answer alike, for every channel. -/
import Derived.Test.YtcjeaahlhfoccabIUn
namespace Go.Proofs.Ytcjeaahlhfoccab
open Go.ChangeShapes Go.WideShapes Go.ChangeAt Go.RowKit
set_option linter.unusedVariables false

set_option maxHeartbeats 1000000 in
theorem law_newunpacker (c : Int) (_ : -9223372036854775808 ≤ c ∧ c ≤ 9223372036854775807) (w : World) :
    Calls Try.prog 8 #[.int .i64 c] w fun e w' => e = .returned (.bool true) ∧ Below w.heap.size w w' := by
  have H1 := Lib.hid (new_unp c)
  have H2 := Lib.hid (new_impl c)
  have HE := Lib.hid (eq_unp c (-1) false ⟨#[]⟩ 0)
  go_enter Try.func8, Try.ntmps8
  go_wp2_with fail
  refine (H1.out _).mono ?_
  rintro e w1 ⟨rfl, hb1⟩
  have B1 := Lib.hid hb1
  have BX := Lib.hid (Box.made w1 (unL c (-1) false ⟨#[]⟩ 0) 54 _ rfl)
  have BBX := Lib.hid ((Below.refl w1.heap.size w1).alloc (Nat.le_refl _) (.cells (unL c (-1) false ⟨#[]⟩ 0).toArray 54))
  clear hb1
  go_wp2_with fail
  refine (H2.out _).mono ?_
  rintro e w2 ⟨rfl, hb2⟩
  have B2 := Lib.hid (BBX.out.trans (hb2.mono BBX.out.size))
  have BX2 : Box (w2.alloc (.cells #[.int .i64 c, .int .i64 (-1), .bool false, .string ⟨#[]⟩, .int .i64 0] 54)) w1.heap.size (unL c (-1) false ⟨#[]⟩ 0) := (BX.out.more hb2).alloc _
  have BY2 : Box (w2.alloc (.cells #[.int .i64 c, .int .i64 (-1), .bool false, .string ⟨#[]⟩, .int .i64 0] 54)) w2.heap.size (unL c (-1) false ⟨#[]⟩ 0) := Box.made w2 (unL c (-1) false ⟨#[]⟩ 0) _ _ rfl
  have B3 := Lib.hid (B2.out.alloc B2.out.size (.cells #[.int .i64 c, .int .i64 (-1), .bool false, .string ⟨#[]⟩, .int .i64 0] 54))
  obtain ⟨k0, k1, k2, k3, k4⟩ := BX2.five
  obtain ⟨m0, m1, m2, m3, m4⟩ := BY2.five
  clear hb2 BX2 BY2
  go_wp2_with fail
  refine (HE.out _).mono ?_
  rintro e w3 ⟨rfl, hb3⟩
  have B4 := Lib.hid (B1.out.trans ((B3.out.trans (hb3.mono B3.out.size)).mono B1.out.size))
  clear hb3 k0 k1 k2 k3 k4 m0 m1 m2 m3 m4
  go_wp2
  go_ret
  exact ⟨rfl, B4.out⟩
end Go.Proofs.Ytcjeaahlhfoccab
