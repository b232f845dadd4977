/- What this text proves: the parts Frm, Emp, Unp of the proof, each under its own words. -/
import Derived.Test.YtegahdlfjdjcaaaV06
import Derived.Test.YtegahdlfjdjcaaaV10
import Derived.Test.YtegahdlfjdjcaaaV02
import Derived.Lib.Hide
import Derived.Lib.Strings
import Derived.Test.YtegahdlfjdjcaaaV00
import Derived.Test.YtegahdlfjdjcaaaV01
/- What this text proves: the contracts of the laws' own functions over frames, and of the model's FrameOk and EncodeFrame. -/
namespace Go.Proofs.Ytegahdlfjdjcaaa
open Go.ChangeShapes Go.WideShapes Go.ChangeAt Go.RowKit
set_option linter.unusedVariables false

/-- A frame as a value. -/
abbrev frV (c n f : Int) (d : ByteArray) : Value := .agg #[.int .i64 c, .int .i64 n, .int .i64 f, .string d]
abbrev frL (c n f : Int) (d : ByteArray) : List Value := [.int .i64 c, .int .i64 n, .int .i64 f, .string d]
def FrOk (c n f : Int) (d : ByteArray) : Prop := (0 ≤ c ∧ c ≤ 2) ∧ (0 ≤ n ∧ n ≤ 255) ∧ ((0 ≤ f ∧ f ≤ 23) ∨ f = 255) ∧ d.size = 24
instance (c n f : Int) (d : ByteArray) : Decidable (FrOk c n f d) := by unfold FrOk; infer_instance
abbrev Cells4 (W : World) (g : Nat) (x y z u : Value) : Prop := W.cell? ⟨g, 0, none⟩ = some x ∧ W.cell? ⟨g, 1, none⟩ = some y ∧ W.cell? ⟨g, 2, none⟩ = some z ∧ W.cell? ⟨g, 3, none⟩ = some u
theorem Box.four {W : World} {g : Nat} {x y z u : Value} (h : Box W g [x, y, z, u]) : Cells4 W g x y z u := ⟨h.cell 0 (by simp), h.cell 1 (by simp), h.cell 2 (by simp), h.cell 3 (by simp)⟩

theorem sz_frm (c n f : Int) (d : ByteArray) (L : Nat) (hL : L ≤ 1048576) (hd : d.size ≤ maxLen) (w : World) :
    Calls Try.prog 40 #[frV c n f d, .int .i64 (L : Int)] w fun e w' => e = .returned (.int .i64 (if d.size ≤ L then (L : Int) - (d.size : Int) else -1)) ∧ Below w.heap.size w w' := by
  have hd' : d.size ≤ 9223372036854775807 := by unfold maxLen at hd; omega
  by_cases h : d.size ≤ L
  · rw [if_pos h]
    have hd0 : decide ((L : Int) - (d.size : Int) < 0) = false := by simp; omega
    go_enter Try.func40, Try.ntmps40
    go_wp2
    go_ret
    exact ⟨rfl, (Below.refl _ w).alloc (Nat.le_refl _) _⟩
  · rw [if_neg h]
    have hd0 : decide ((L : Int) - (d.size : Int) < 0) = true := by simp; omega
    go_enter Try.func40, Try.ntmps40
    go_wp2
    go_ret
    exact ⟨rfl, (Below.refl _ w).alloc (Nat.le_refl _) _⟩
theorem to_frm (c n f : Int) (d : ByteArray) (w : World) :
    Calls Try.prog 42 #[frV c n f d] w fun e w' => e = .returned (frV c n f d) ∧ Below w.heap.size w w' := by
  go_enter Try.func42, Try.ntmps42
  go_wp2
  refine bodyPost_ret (v := frV c n f d) (by simp [results, Try.results42, go_sem]) rfl ⟨rfl, (((Below.refl _ w).alloc (Nat.le_refl _) _).alloc (by simp) _).alloc (by simp; omega) _⟩
theorem eq_frm (c n f : Int) (d : ByteArray) (w : World) :
    Calls Try.prog 45 #[frV c n f d, frV c n f d] w fun e w' => e = .returned (.bool true) ∧ Below w.heap.size w w' := by
  have hself : (d.toList == d.toList) = true := beq_self_eq_true _
  go_enter Try.func45, Try.ntmps45
  go_wp2
  go_ret
  exact ⟨rfl, ((Below.refl _ w).alloc (Nat.le_refl _) _).alloc (by simp) _⟩

set_option maxHeartbeats 1000000 in
theorem fo_spec (c n f : Int) (d : ByteArray) (w : World) :
    Calls Try.prog 41 #[frV c n f d] w fun e w' => e = .returned (.bool (decide (FrOk c n f d))) ∧ Below w.heap.size w w' := by
  have HO := Lib.hid (show ∀ B : Bool, (B = (decide (0 ≤ c ∧ c ≤ 2) && (decide (0 ≤ n ∧ n ≤ 255) && ((decide (0 ≤ f ∧ f ≤ 23) || decide (f = 255)) && decide (d.size = 24))))) → B = decide (FrOk c n f d) from fun B h => by
    rw [h, Bool.eq_iff_iff]
    simp only [Bool.and_eq_true, Bool.or_eq_true, decide_eq_true_iff]
    exact Iff.rfl)
  have hcast : ((d.size : Int) == 24) = decide (d.size = 24) := by
    rw [Bool.eq_iff_iff]
    simp
    omega
  by_cases h1 : 0 ≤ c ∧ c ≤ 2
  · have e1 := Lib.hid (decide_eq_true h1)
    have H1 := Lib.hid (in_yes c 0 2 h1.1 h1.2)
    by_cases h2 : 0 ≤ n ∧ n ≤ 255
    · have e2 := Lib.hid (decide_eq_true h2)
      have H2 := Lib.hid (in_yes n 0 255 h2.1 h2.2)
      by_cases h3 : 0 ≤ f ∧ f ≤ 23
      · have e3 := Lib.hid (decide_eq_true h3)
        have H3 := Lib.hid (in_yes f 0 23 h3.1 h3.2)
        go_enter Try.func41, Try.ntmps41
        go_wp2_with fail
        refine (H1.out _).mono ?_
        rintro e w' ⟨rfl, rfl⟩
        go_wp2_with fail
        refine (H2.out _).mono ?_
        rintro e w' ⟨rfl, rfl⟩
        go_wp2_with fail
        refine (H3.out _).mono ?_
        rintro e w' ⟨rfl, rfl⟩
        go_wp2
        go_ret
        exact ⟨by rw [← HO.out _ rfl, e1.out, e2.out, e3.out]; simp, (Below.refl _ w).alloc (Nat.le_refl _) _⟩
      · have e3 := Lib.hid (decide_eq_false h3)
        have H3 := Lib.hid (in_no f 0 23 h3)
        by_cases h4 : f = 255
        · have e4 := Lib.hid (decide_eq_true h4)
          have d4 : (f == 255) = true := by simpa using h4
          clear h4
          go_enter Try.func41, Try.ntmps41
          go_wp2_with fail
          refine (H1.out _).mono ?_
          rintro e w' ⟨rfl, rfl⟩
          go_wp2_with fail
          refine (H2.out _).mono ?_
          rintro e w' ⟨rfl, rfl⟩
          go_wp2_with fail
          refine (H3.out _).mono ?_
          rintro e w' ⟨rfl, rfl⟩
          go_wp2
          go_ret
          exact ⟨by rw [← HO.out _ rfl, e1.out, e2.out, e3.out, e4.out]; simp, (Below.refl _ w).alloc (Nat.le_refl _) _⟩
        · have e4 := Lib.hid (decide_eq_false h4)
          have d4 : (f == 255) = false := by simpa using h4
          clear h4
          go_enter Try.func41, Try.ntmps41
          go_wp2_with fail
          refine (H1.out _).mono ?_
          rintro e w' ⟨rfl, rfl⟩
          go_wp2_with fail
          refine (H2.out _).mono ?_
          rintro e w' ⟨rfl, rfl⟩
          go_wp2_with fail
          refine (H3.out _).mono ?_
          rintro e w' ⟨rfl, rfl⟩
          go_wp2
          go_ret
          exact ⟨by rw [← HO.out _ rfl, e1.out, e2.out, e3.out, e4.out]; simp, (Below.refl _ w).alloc (Nat.le_refl _) _⟩
    · have e2 := Lib.hid (decide_eq_false h2)
      have H2 := Lib.hid (in_no n 0 255 h2)
      go_enter Try.func41, Try.ntmps41
      go_wp2_with fail
      refine (H1.out _).mono ?_
      rintro e w' ⟨rfl, rfl⟩
      go_wp2_with fail
      refine (H2.out _).mono ?_
      rintro e w' ⟨rfl, rfl⟩
      go_wp2
      go_ret
      exact ⟨by rw [← HO.out _ rfl, e1.out, e2.out]; simp, (Below.refl _ w).alloc (Nat.le_refl _) _⟩
  · have e1 := Lib.hid (decide_eq_false h1)
    have H1 := Lib.hid (in_no c 0 2 h1)
    go_enter Try.func41, Try.ntmps41
    go_wp2_with fail
    refine (H1.out _).mono ?_
    rintro e w' ⟨rfl, rfl⟩
    go_wp2
    go_ret
    exact ⟨by rw [← HO.out _ rfl, e1.out]; simp, (Below.refl _ w).alloc (Nat.le_refl _) _⟩

/-- What EncodeFrame returns. -/
noncomputable def frT (c n f : Int) (d : ByteArray) : ByteArray := if FrOk c n f d then sealS (putS c 1 ++ putS n 1 ++ putS f 1 ++ d) else ⟨#[]⟩

set_option maxHeartbeats 2000000 in
theorem encF_spec (c n f : Int) (d : ByteArray) (hd : d.size ≤ 1048576) (w : World) :
    Calls Try.prog 43 #[frV c n f d] w fun e w' => e = .returned (.string (frT c n f d)) ∧ Below w.heap.size w w' := by
  have H1 := Lib.hid (fo_spec c n f d)
  by_cases hk : FrOk c n f d
  · rw [decide_eq_true hk] at H1
    have HV := Lib.hid (show frT c n f d = sealS (putS c 1 ++ putS n 1 ++ putS f 1 ++ d) by unfold frT; rw [if_pos hk])
    have FA := Lib.hid (fun W (hf : Fit w W w.heap.size (frL c n f d)) => (put_spec c 1 W).mono fun e w' h => (⟨h.1, hf.more h.2, (hf.more h.2).box.four⟩ : e = .returned (.string (putS c 1)) ∧ Fit w w' w.heap.size (frL c n f d) ∧ Cells4 w' w.heap.size (.int .i64 c) (.int .i64 n) (.int .i64 f) (.string d)))
    have FB := Lib.hid (fun W (hf : Fit w W w.heap.size (frL c n f d)) => (put_spec n 1 W).mono fun e w' h => (⟨h.1, hf.more h.2, (hf.more h.2).box.four⟩ : e = .returned (.string (putS n 1)) ∧ Fit w w' w.heap.size (frL c n f d) ∧ Cells4 w' w.heap.size (.int .i64 c) (.int .i64 n) (.int .i64 f) (.string d)))
    have FC := Lib.hid (fun W (hf : Fit w W w.heap.size (frL c n f d)) => (put_spec f 1 W).mono fun e w' h => (⟨h.1, hf.more h.2, (hf.more h.2).box.four⟩ : e = .returned (.string (putS f 1)) ∧ Fit w w' w.heap.size (frL c n f d) ∧ Cells4 w' w.heap.size (.int .i64 c) (.int .i64 n) (.int .i64 f) (.string d)))
    have zA := putS_four_le c 1
    have zB := putS_four_le n 1
    have zC := putS_four_le f 1
    have FD := Lib.hid (fun W (hf : Fit w W w.heap.size (frL c n f d)) => (seal_spec (putS c 1 ++ putS n 1 ++ putS f 1 ++ d) (by rw [ByteArray.size_append, ByteArray.size_append, ByteArray.size_append]; have := hk.2.2.2; omega) W).mono fun e w' h => (⟨h.1, hf.more h.2, (hf.more h.2).box.four⟩ : e = .returned (.string (sealS (putS c 1 ++ putS n 1 ++ putS f 1 ++ d))) ∧ Fit w w' w.heap.size (frL c n f d) ∧ Cells4 w' w.heap.size (.int .i64 c) (.int .i64 n) (.int .i64 f) (.string d)))
    generalize sealS (putS c 1 ++ putS n 1 ++ putS f 1 ++ d) = T at *
    generalize putS c 1 = A at *
    generalize putS n 1 = B at *
    generalize putS f 1 = C at *
    have b1 : ¬ 9223372036854775807 < A.size + B.size := by omega
    have b2 : ¬ 9223372036854775807 < A.size + B.size + C.size := by omega
    have b3 : ¬ 9223372036854775807 < A.size + B.size + C.size + d.size := by omega
    go_enter Try.func43, Try.ntmps43
    go_wp2_with fail
    refine (H1.out _).mono ?_
    rintro e w1 ⟨rfl, hb1⟩
    have F1 := Lib.hid ((Fit.made w (frL c n f d) _).more hb1)
    obtain ⟨k0, k1, k2, k3⟩ := F1.out.drew.box.four
    have F1d := Lib.hid F1.out.drew
    clear hb1
    go_wp2
    go_region_held3 (fun w' => w'.cell? ⟨w.heap.size, 0, none⟩ = some (.int .i64 c) ∧ w'.cell? ⟨w.heap.size, 1, none⟩ = some (.int .i64 n) ∧ w'.cell? ⟨w.heap.size, 2, none⟩ = some (.int .i64 f) ∧ w'.cell? ⟨w.heap.size, 3, none⟩ = some (.string d)) (first | exact ⟨k0, k1, k2, k3⟩ | exact ⟨l0, l1, l2, l3⟩ | exact ⟨m0, m1, m2, m3⟩ | exact ⟨n0, n1, n2, n3⟩ | exact ⟨p0, p1, p2, p3⟩)
      (first
        | (go_at_call 69; (with_reducible refine (FA.out _ F1d.out).mono ?_); rintro e w2 ⟨rfl, F2, l0, l1, l2, l3⟩)
        | (go_at_call 69; (with_reducible refine (FB.out _ F2).mono ?_); rintro e w3 ⟨rfl, F3, m0, m1, m2, m3⟩)
        | (go_at_call 69; (with_reducible refine (FC.out _ F3).mono ?_); rintro e w4 ⟨rfl, F4, n0, n1, n2, n3⟩)
        | (go_at_call 71; (with_reducible refine (FD.out _ F4).mono ?_); rintro e w5 ⟨rfl, F5, p0, p1, p2, p3⟩))
    all_goals go_wp2
    all_goals go_ret
    all_goals exact ⟨by rw [HV.out]; rfl, F5.below⟩
  · rw [decide_eq_false hk] at H1
    have HV := Lib.hid (show frT c n f d = ⟨#[]⟩ by unfold frT; rw [if_neg hk])
    go_enter Try.func43, Try.ntmps43
    go_wp2_with fail
    refine (H1.out _).mono ?_
    rintro e w1 ⟨rfl, hb1⟩
    go_wp2
    go_ret
    exact ⟨by rw [HV.out]; rfl, ((Below.refl _ w).alloc (Nat.le_refl _) _).trans (hb1.mono (by simp))⟩
end Go.Proofs.Ytegahdlfjdjcaaa
/- What this text proves: a text is the empty one just where it has no byte. -/
namespace Go.Proofs.Ytegahdlfjdjcaaa
open Go Go.RowKit

theorem empty_text (a : ByteArray) (h : a.size = 0) : a = ⟨#[]⟩ := ByteArray.ext (Array.eq_empty_of_size_eq_zero h)
theorem text_none (a : ByteArray) (h : a.size = 0) : a.toList.isEmpty = true := by
  rw [empty_text a h, Lib.toList_data]
  rfl
theorem text_full (a : ByteArray) (h : 0 < a.size) : a.toList.isEmpty = false := by
  cases e : a.toList with
  | nil =>
    rw [Lib.toList_data] at e
    have : a.size = 0 := by
      show a.data.size = 0
      rw [← Array.length_toList, e]
      rfl
    omega
  | cons x r => rfl
theorem self_text (a : ByteArray) : (a.toList == a.toList) = true := beq_self_eq_true _
theorem unlike_text (a b : ByteArray) (h : a ≠ b) : (a.toList == b.toList) = false := by
  refine beq_eq_false_iff_ne.2 fun he => h ?_
  rw [Lib.toList_data, Lib.toList_data] at he
  exact ByteArray.ext (Array.toList_inj.1 he)
theorem unlike_text' (a b : ByteArray) (h : a ≠ b) : (a.toList != b.toList) = true := by
  rw [bne, unlike_text a b h]
  rfl
end Go.Proofs.Ytegahdlfjdjcaaa
/- What this text proves: the contracts of the laws' own functions over unpackers, and of the model's UnpackerOk, NewUnpacker and of what it does with a loss. -/
namespace Go.Proofs.Ytegahdlfjdjcaaa
open Go.ChangeShapes Go.WideShapes Go.ChangeAt Go.RowKit
set_option linter.unusedVariables false

/-- An unpacker as a value. -/
abbrev unV (c n : Int) (b : Bool) (r : ByteArray) (l : Int) : Value := .agg #[.int .i64 c, .int .i64 n, .bool b, .string r, .int .i64 l]
abbrev unL (c n : Int) (b : Bool) (r : ByteArray) (l : Int) : List Value := [.int .i64 c, .int .i64 n, .bool b, .string r, .int .i64 l]
def UpOk (c n : Int) (b : Bool) (r : ByteArray) (l : Int) : Prop := (0 ≤ c ∧ c ≤ 2) ∧ (-1 ≤ n ∧ n ≤ 255) ∧ (0 ≤ l ∧ l ≤ 1000000) ∧ (b = true ∨ r.size = 0) ∧ r.size ≤ 43
instance (c n : Int) (b : Bool) (r : ByteArray) (l : Int) : Decidable (UpOk c n b r l) := by unfold UpOk; infer_instance
abbrev Cells5 (W : World) (g : Nat) (x y z u v : Value) : Prop := W.cell? ⟨g, 0, none⟩ = some x ∧ W.cell? ⟨g, 1, none⟩ = some y ∧ W.cell? ⟨g, 2, none⟩ = some z ∧ W.cell? ⟨g, 3, none⟩ = some u ∧ W.cell? ⟨g, 4, none⟩ = some v
theorem Box.five {W : World} {g : Nat} {x y z u v : Value} (h : Box W g [x, y, z, u, v]) : Cells5 W g x y z u v := ⟨h.cell 0 (by simp), h.cell 1 (by simp), h.cell 2 (by simp), h.cell 3 (by simp), h.cell 4 (by simp)⟩

/-- One loss more, of a million at most. -/
def lossN (l : Int) : Int := if l + 1 ≤ 1000000 then l + 1 else 1000000
end Go.Proofs.Ytegahdlfjdjcaaa
