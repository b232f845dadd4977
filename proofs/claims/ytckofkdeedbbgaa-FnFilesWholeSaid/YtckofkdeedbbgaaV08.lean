/- What this text proves: the parts SgE of the proof, each under its own words. -/
import Derived.Test.YtckofkdeedbbgaaV04
import Derived.Test.YtckofkdeedbbgaaV06
import Derived.Test.YtckofkdeedbbgaaV07
import Derived.Laws.Concat
/- What this text proves: the contracts of EncodeSegment and EncodeEnd, of the program and the model; the laws of both. -/
namespace Go.Proofs.Ytckofkdeedbbgaa
open Go.ChangeShapes Go.WideShapes Go.ChangeAt Go.RowKit
set_option linter.unusedVariables false

def EsOk (f k : Int) (d : ByteArray) : Prop := (0 ≤ f ∧ f ≤ 7) ∧ (0 ≤ k ∧ k ≤ 24) ∧ ((1 : Int) ≤ (d.size : Int) ∧ (d.size : Int) ≤ 24)
instance (f k : Int) (d : ByteArray) : Decidable (EsOk f k d) := by unfold EsOk; infer_instance
/-- What EncodeSegment returns. -/
noncomputable def esT (f k : Int) (d : ByteArray) : ByteArray := if EsOk f k d then putS 0 1 ++ putS f 1 ++ putS k 1 ++ d else ⟨#[]⟩
theorem esT_yes {f k : Int} {d : ByteArray} (h : EsOk f k d) : esT f k d = putS 0 1 ++ putS f 1 ++ putS k 1 ++ d := if_pos h
theorem esT_no {f k : Int} {d : ByteArray} (h : ¬ EsOk f k d) : esT f k d = ⟨#[]⟩ := if_neg h
def EeOk (f : Int) (d : ByteArray) : Prop := (0 ≤ f ∧ f ≤ 7) ∧ d.size ≤ 600
instance (f : Int) (d : ByteArray) : Decidable (EeOk f d) := by unfold EeOk; infer_instance
/-- What EncodeEnd returns. -/
noncomputable def eeT (f : Int) (d : ByteArray) : ByteArray := if EeOk f d then putS 1 1 ++ putS f 1 ++ putS (d.size : Int) 2 ++ putS ((crc d : Nat) : Int) 2 else ⟨#[]⟩
theorem eeT_yes {f : Int} {d : ByteArray} (h : EeOk f d) : eeT f d = putS 1 1 ++ putS f 1 ++ putS (d.size : Int) 2 ++ putS ((crc d : Nat) : Int) 2 := if_pos h
theorem eeT_no {f : Int} {d : ByteArray} (h : ¬ EeOk f d) : eeT f d = ⟨#[]⟩ := if_neg h

set_option maxHeartbeats 1000000 in
theorem es_impl (f k : Int) (d : ByteArray) (hd : d.size ≤ 1048576) (w : World) :
    Calls Try.prog 135 #[.int .i64 f, .int .i64 k, .string d] w fun e w' => e = .returned (.string (esT f k d)) ∧ Below w.heap.size w w' := by
  have HI := Lib.hid (fl_impl f)
  have HQ := Lib.hid (iw_any k 0 24)
  have HT := Lib.hid (iw_any (d.size : Int) 1 24)
  have HY := Lib.hid (fun (h1 : 0 ≤ f ∧ f ≤ 7) (h2 : 0 ≤ k ∧ k ≤ 24) (h3 : (1 : Int) ≤ (d.size : Int) ∧ (d.size : Int) ≤ 24) => esT_yes (f := f) (k := k) (d := d) ⟨h1, h2, h3⟩)
  have HN := Lib.hid (fun (h : ¬ EsOk f k d) => esT_no h)
  by_cases g1 : 0 ≤ f ∧ f ≤ 7
  · rw [decide_eq_true g1] at HI
    by_cases g2 : 0 ≤ k ∧ k ≤ 24
    · rw [decide_eq_true g2] at HQ
      by_cases g3 : (1 : Int) ≤ (d.size : Int) ∧ (d.size : Int) ≤ 24
      · rw [decide_eq_true g3] at HT
        have HV := Lib.hid (HY.out g1 g2 g3)
        have hds : d.size ≤ 24 := by omega
        have P0 := Lib.hid (put_impl 0 1)
        have P1 := Lib.hid (put_impl f 1)
        have P2 := Lib.hid (put_impl k 1)
        have zA := putS_four_le 0 1
        have zB := putS_four_le f 1
        have zC := putS_four_le k 1
        generalize putS 0 1 = A at *
        generalize putS f 1 = B at *
        generalize putS k 1 = C at *
        have b1 : ¬ 9223372036854775807 < A.size + B.size := by omega
        have b2 : ¬ 9223372036854775807 < A.size + B.size + C.size := by omega
        have b3 : ¬ 9223372036854775807 < A.size + B.size + C.size + d.size := by omega
        clear g1 g2 g3
        go_enter Try.func135, Try.ntmps135
        go_wp2_with fail
        refine (HI.out _).mono ?_
        rintro e w' ⟨rfl, rfl⟩
        go_wp2_with fail
        refine (HQ.out _).mono ?_
        rintro e w' ⟨rfl, rfl⟩
        go_wp2_with fail
        refine (HT.out _).mono ?_
        rintro e w' ⟨rfl, rfl⟩
        go_wp2_with fail
        refine (P0.out _).mono ?_
        rintro e w1 ⟨rfl, hb1⟩
        go_wp2_with fail
        refine (P1.out _).mono ?_
        rintro e w2 ⟨rfl, hb2⟩
        go_wp2_with fail
        refine (P2.out _).mono ?_
        rintro e w3 ⟨rfl, hb3⟩
        go_wp2
        go_ret
        exact ⟨ret_s HV.out.symm, hb1.trans ((hb2.trans (hb3.mono hb2.size)).mono hb1.size)⟩
      · have HV := Lib.hid (HN.out (fun h => g3 h.2.2))
        rw [decide_eq_false g3] at HT
        clear g1 g2 g3
        go_enter Try.func135, Try.ntmps135
        go_wp2_with fail
        refine (HI.out _).mono ?_
        rintro e w' ⟨rfl, rfl⟩
        go_wp2_with fail
        refine (HQ.out _).mono ?_
        rintro e w' ⟨rfl, rfl⟩
        go_wp2_with fail
        refine (HT.out _).mono ?_
        rintro e w' ⟨rfl, rfl⟩
        go_wp2
        go_ret
        exact ⟨ret_s HV.out.symm, Below.refl _ _⟩
    · have HV := Lib.hid (HN.out (fun h => g2 h.2.1))
      rw [decide_eq_false g2] at HQ
      clear g1 g2
      go_enter Try.func135, Try.ntmps135
      go_wp2_with fail
      refine (HI.out _).mono ?_
      rintro e w' ⟨rfl, rfl⟩
      go_wp2_with fail
      refine (HQ.out _).mono ?_
      rintro e w' ⟨rfl, rfl⟩
      go_wp2
      go_ret
      exact ⟨ret_s HV.out.symm, Below.refl _ _⟩
  · have HV := Lib.hid (HN.out (fun h => g1 h.1))
    rw [decide_eq_false g1] at HI
    clear g1
    go_enter Try.func135, Try.ntmps135
    go_wp2_with fail
    refine (HI.out _).mono ?_
    rintro e w' ⟨rfl, rfl⟩
    go_wp2
    go_ret
    exact ⟨ret_s HV.out.symm, Below.refl _ _⟩

set_option maxHeartbeats 1000000 in
theorem ee_impl (f : Int) (d : ByteArray) (hd : d.size ≤ 1048576) (w : World) :
    Calls Try.prog 28 #[.int .i64 f, .string d] w fun e w' => e = .returned (.string (eeT f d)) ∧ Below w.heap.size w w' := by
  have HI := Lib.hid (fl_impl f)
  have HY := Lib.hid (fun (h1 : 0 ≤ f ∧ f ≤ 7) (h2 : d.size ≤ 600) => eeT_yes (f := f) (d := d) ⟨h1, h2⟩)
  have HN := Lib.hid (fun (h : ¬ EeOk f d) => eeT_no h)
  by_cases g1 : 0 ≤ f ∧ f ≤ 7
  · rw [decide_eq_true g1] at HI
    by_cases g2 : d.size ≤ 600
    · have HV := Lib.hid (HY.out g1 g2)
      have hd6 : decide ((600 : Int) < (d.size : Int)) = false := by simp; omega
      have hd7 : decide (600 < d.size) = false := by simp; omega
      have P0 := Lib.hid (put_impl 1 1)
      have P1 := Lib.hid (put_impl f 1)
      have P2 := Lib.hid (put_impl (d.size : Int) 2)
      have P3 := Lib.hid (put_impl ((crc d : Nat) : Int) 2)
      have HC := Lib.hid (fun W => (check_impl d (by unfold maxLen; omega) W).mono fun e w' h => (show e = .returned (.int .i64 ((crc d : Nat) : Int)) ∧ Below W.heap.size W w' from ⟨h.1, by obtain ⟨_, pos, h2⟩ := h; rw [h2]; exact below_iter W d pos⟩))
      have zA := putS_four_le 1 1
      have zB := putS_four_le f 1
      have zC := putS_four_le (d.size : Int) 2
      have zE := putS_four_le ((crc d : Nat) : Int) 2
      generalize putS 1 1 = A at *
      generalize putS f 1 = B at *
      generalize putS (d.size : Int) 2 = C at *
      generalize putS ((crc d : Nat) : Int) 2 = E at *
      generalize ((crc d : Nat) : Int) = K at *
      have b1 : ¬ 9223372036854775807 < A.size + B.size := by omega
      have b2 : ¬ 9223372036854775807 < A.size + B.size + C.size := by omega
      have b3 : ¬ 9223372036854775807 < A.size + B.size + C.size + E.size := by omega
      clear g1 g2
      go_enter Try.func28, Try.ntmps28
      go_wp2_with fail
      refine (HI.out _).mono ?_
      rintro e w' ⟨rfl, rfl⟩
      go_wp2_with fail
      refine (P0.out _).mono ?_
      rintro e w1 ⟨rfl, hb1⟩
      go_wp2_with fail
      refine (P1.out _).mono ?_
      rintro e w2 ⟨rfl, hb2⟩
      go_wp2_with fail
      refine (P2.out _).mono ?_
      rintro e w3 ⟨rfl, hb3⟩
      go_wp2_with fail
      refine (HC.out _).mono ?_
      rintro e w4 ⟨rfl, hb4⟩
      go_wp2_with fail
      refine (P3.out _).mono ?_
      rintro e w5 ⟨rfl, hb5⟩
      go_wp2
      go_ret
      exact ⟨ret_s HV.out.symm, hb1.trans ((hb2.trans ((hb3.trans ((hb4.trans (hb5.mono hb4.size)).mono hb3.size)).mono hb2.size)).mono hb1.size)⟩
    · have HV := Lib.hid (HN.out (fun h => g2 h.2))
      have hd6 : decide ((600 : Int) < (d.size : Int)) = true := by simp; omega
      have hd7 : decide (600 < d.size) = true := by simp; omega
      clear g1 g2
      go_enter Try.func28, Try.ntmps28
      go_wp2_with fail
      refine (HI.out _).mono ?_
      rintro e w' ⟨rfl, rfl⟩
      go_wp2
      go_ret
      exact ⟨ret_s HV.out.symm, Below.refl _ _⟩
  · have HV := Lib.hid (HN.out (fun h => g1 h.1))
    rw [decide_eq_false g1] at HI
    clear g1
    go_enter Try.func28, Try.ntmps28
    go_wp2_with fail
    refine (HI.out _).mono ?_
    rintro e w' ⟨rfl, rfl⟩
    go_wp2
    go_ret
    exact ⟨ret_s HV.out.symm, Below.refl _ _⟩

end Go.Proofs.Ytckofkdeedbbgaa
