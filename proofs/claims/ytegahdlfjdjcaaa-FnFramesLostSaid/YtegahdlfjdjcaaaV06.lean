/- What this text proves: the parts PktE of the proof, each under its own words. -/
import Derived.Test.YtegahdlfjdjcaaaV02
import Derived.Test.YtegahdlfjdjcaaaV05
import Derived.Laws.Concat
import Derived.Deep.RegionHeld3
/- What this text proves: the contract of the model's EncodePacket. -/
namespace Go.Proofs.Ytegahdlfjdjcaaa
open Go.ChangeShapes Go.WideShapes Go.ChangeAt Go.RowKit
set_option linter.unusedVariables false

theorem putS_four_le (n k : Int) : (putS n k).size ≤ 4 := by
  unfold putS
  split
  · rename_i h
    have h2 := h.2.1
    show ((putB n.toNat k.toNat).toArray).size ≤ 4
    rw [List.size_toArray, putB_len]
    omega
  · show (#[] : Array UInt8).size ≤ 4
    decide
/-- What EncodePacket returns. -/
noncomputable def pkT (a q : Int) (d : ByteArray) : ByteArray := if PkOk a q d then putS a 1 ++ putS q 2 ++ putS (d.size : Int) 1 ++ d else ⟨#[]⟩

/-- A world behind another, in which block g holds cells. -/
structure Fit (w W : World) (g : Nat) (vs : List Value) : Prop where
  below : Below w.heap.size w W
  box : Box W g vs
theorem Fit.more {w W W' : World} {g : Nat} {vs : List Value} (h : Fit w W g vs) (hb : Below W.heap.size W W') : Fit w W' g vs := ⟨h.below.trans (hb.mono h.below.size), h.box.more hb⟩
theorem Fit.drew {w W : World} {g : Nat} {vs : List Value} (h : Fit w W g vs) : Fit w W.drew g vs := h.more (Below.refl _ _).drew
theorem Fit.made (w : World) (vs : List Value) (T : TypeId) : Fit w (w.alloc (.cells vs.toArray T)) w.heap.size vs := ⟨(Below.refl _ w).alloc (Nat.le_refl _) _, Box.made w vs T _ rfl⟩
/-- The cells of a packet, each on its own. -/
abbrev Cells3 (W : World) (g : Nat) (x y z : Value) : Prop := W.cell? ⟨g, 0, none⟩ = some x ∧ W.cell? ⟨g, 1, none⟩ = some y ∧ W.cell? ⟨g, 2, none⟩ = some z
theorem Box.three {W : World} {g : Nat} {x y z : Value} (h : Box W g [x, y, z]) : Cells3 W g x y z := ⟨h.cell 0 (by simp), h.cell 1 (by simp), h.cell 2 (by simp)⟩

set_option maxHeartbeats 2000000 in
theorem enc_spec (a q : Int) (d : ByteArray) (hd : d.size ≤ 1048576) (w : World) :
    Calls Try.prog 37 #[pkV a q d] w fun e w' => e = .returned (.string (pkT a q d)) ∧ Below w.heap.size w w' := by
  have H1 := Lib.hid (pk_spec a q d)
  by_cases hk : PkOk a q d
  · rw [decide_eq_true hk] at H1
    have HV := Lib.hid (show pkT a q d = putS a 1 ++ putS q 2 ++ putS (d.size : Int) 1 ++ d by unfold pkT; rw [if_pos hk])
    have FA := Lib.hid (fun W (hf : Fit w W w.heap.size (pkL a q d)) => (put_spec a 1 W).mono fun e w' h => (⟨h.1, hf.more h.2, (hf.more h.2).box.three⟩ : e = .returned (.string (putS a 1)) ∧ Fit w w' w.heap.size (pkL a q d) ∧ Cells3 w' w.heap.size (.int .i64 a) (.int .i64 q) (.string d)))
    have FB := Lib.hid (fun W (hf : Fit w W w.heap.size (pkL a q d)) => (put_spec q 2 W).mono fun e w' h => (⟨h.1, hf.more h.2, (hf.more h.2).box.three⟩ : e = .returned (.string (putS q 2)) ∧ Fit w w' w.heap.size (pkL a q d) ∧ Cells3 w' w.heap.size (.int .i64 a) (.int .i64 q) (.string d)))
    have FC := Lib.hid (fun W (hf : Fit w W w.heap.size (pkL a q d)) => (put_spec (d.size : Int) 1 W).mono fun e w' h => (⟨h.1, hf.more h.2, (hf.more h.2).box.three⟩ : e = .returned (.string (putS (d.size : Int) 1)) ∧ Fit w w' w.heap.size (pkL a q d) ∧ Cells3 w' w.heap.size (.int .i64 a) (.int .i64 q) (.string d)))
    have zA := putS_four_le a 1
    have zB := putS_four_le q 2
    have zC := putS_four_le (d.size : Int) 1
    generalize putS a 1 = A at *
    generalize putS q 2 = B at *
    generalize putS (d.size : Int) 1 = C at *
    have b1 : ¬ 9223372036854775807 < A.size + B.size := by omega
    have b2 : ¬ 9223372036854775807 < A.size + B.size + C.size := by omega
    have b3 : ¬ 9223372036854775807 < A.size + B.size + C.size + d.size := by omega
    go_enter Try.func37, Try.ntmps37
    go_wp2_with fail
    refine (H1.out _).mono ?_
    rintro e w1 ⟨rfl, hb1⟩
    have F1 := Lib.hid ((Fit.made w (pkL a q d) _).more hb1)
    obtain ⟨k0, k1, k2⟩ := F1.out.drew.box.three
    have F1d := Lib.hid F1.out.drew
    clear hb1
    go_wp2
    go_region_held3 (fun w' => w'.cell? ⟨w.heap.size, 0, none⟩ = some (.int .i64 a) ∧ w'.cell? ⟨w.heap.size, 1, none⟩ = some (.int .i64 q) ∧ w'.cell? ⟨w.heap.size, 2, none⟩ = some (.string d)) (first | exact ⟨k0, k1, k2⟩ | exact ⟨l0, l1, l2⟩ | exact ⟨m0, m1, m2⟩ | exact ⟨n0, n1, n2⟩)
      (first
        | (go_at_call 69; (with_reducible refine (FA.out _ F1d.out).mono ?_); rintro e w2 ⟨rfl, F2, l0, l1, l2⟩)
        | (go_at_call 69; (with_reducible refine (FB.out _ F2).mono ?_); rintro e w3 ⟨rfl, F3, m0, m1, m2⟩)
        | (go_at_call 69; (with_reducible refine (FC.out _ F3).mono ?_); rintro e w4 ⟨rfl, F4, n0, n1, n2⟩))
    all_goals go_wp2
    all_goals go_ret
    all_goals exact ⟨by rw [HV.out]; rfl, F4.below⟩
  · rw [decide_eq_false hk] at H1
    have HV := Lib.hid (show pkT a q d = ⟨#[]⟩ by unfold pkT; rw [if_neg hk])
    go_enter Try.func37, Try.ntmps37
    go_wp2_with fail
    refine (H1.out _).mono ?_
    rintro e w1 ⟨rfl, hb1⟩
    go_wp2
    go_ret
    exact ⟨by rw [HV.out]; rfl, ((Below.refl _ w).alloc (Nat.le_refl _) _).trans (hb1.mono (by simp))⟩
end Go.Proofs.Ytegahdlfjdjcaaa
