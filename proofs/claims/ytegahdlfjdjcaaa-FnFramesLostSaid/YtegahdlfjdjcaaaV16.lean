/- What this text proves: the parts PakO of the proof, each under its own words. -/
import Derived.Test.YtegahdlfjdjcaaaV15
import Derived.Test.YtegahdlfjdjcaaaV01
import Derived.Deep.QuietTactic
import Derived.BigQuiet
import Derived.BigRegion
import Derived.Outline
/- What this text proves: the contract of the model's PackerOk. -/
namespace Go.Proofs.Ytegahdlfjdjcaaa
open Go.ChangeShapes Go.WideShapes Go.ChangeAt Go.RowKit
set_option linter.unusedVariables false

/-- The first k Starts are indices of z bytes, each beyond the one before. -/
def PaTo (z : Nat) (l : List Int) (k : Nat) : Prop := ∀ i, i < k → (0 ≤ l.getD i 0 ∧ l.getD i 0 ≤ (z : Int) - 1) ∧ (0 < i → l.getD (i - 1) 0 < l.getD i 0)
def PaOk (c n : Int) (r : ByteArray) (l : List Int) : Prop := PaTo r.size l l.length ∧ (0 ≤ c ∧ c ≤ 2) ∧ (0 ≤ n ∧ n ≤ 255) ∧ r.size ≤ 5000
open Classical in
noncomputable def paB (c n : Int) (r : ByteArray) (l : List Int) : Bool := decide (PaOk c n r l)
theorem paB_yes {c n : Int} {r : ByteArray} {l : List Int} (h : PaOk c n r l) : paB c n r l = true := by unfold paB; exact @decide_eq_true _ (Classical.propDecidable _) h
theorem paB_no {c n : Int} {r : ByteArray} {l : List Int} (h : ¬ PaOk c n r l) : paB c n r l = false := by unfold paB; exact @decide_eq_false _ (Classical.propDecidable _) h
theorem PaTo.succ {z : Nat} {l : List Int} {k : Nat} (h : PaTo z l k) (h1 : 0 ≤ l.getD k 0 ∧ l.getD k 0 ≤ (z : Int) - 1) (h2 : 0 < k → l.getD (k - 1) 0 < l.getD k 0) : PaTo z l (k + 1) := fun i hi => by
  rcases Nat.lt_or_ge i k with h3 | h3
  · exact h i h3
  · obtain rfl : i = k := by omega
    exact ⟨h1, h2⟩

set_option maxHeartbeats 4000000 in
theorem po_spec (c n : Int) (r : ByteArray) (A : Option Addr) (l : List Int) (k0 : Nat) (hl : l.length ≤ 1048577) (hr : r.size ≤ 1048576) (w : World) (h : IntsAt w w.heap.size A l) :
    Calls Try.prog 47 #[paV c n r (.slice A l.length k0)] w fun e w' => e = .returned (.bool (paB c n r l)) ∧ Below w.heap.size w w' := by
  have HI := Lib.hid (fun W (hb : Below w.heap.size w W) => h.more hb)
  have BX := Lib.hid (Box.made w (paL c n r (.slice A l.length k0)) 34 _ rfl)
  have BW := Lib.hid ((Below.refl _ w).alloc (Nat.le_refl _) (.cells (paL c n r (.slice A l.length k0)).toArray 34))
  clear h
  go_enter Try.func47, Try.ntmps47
  go_wp2
  go_loopg [3] l.length (fun gh v3 wx => ∃ k : Nat, k ≤ l.length ∧ gh = l.length - k ∧ v3 = .int .i64 (k : Int) ∧ PaTo r.size l k ∧ Box wx w.heap.size (paL c n r (.slice A l.length k0)) ∧ Below w.heap.size w wx)
  case atStart => exact ⟨0, by omega, rfl, rfl, fun i hi => absurd hi (Nat.not_lt_zero _), BX.out, BW.out⟩
  case round =>
    obtain ⟨k, hk, rfl, rfl, hto, hbox, hbel⟩ := hrel
    have HTO := Lib.hid hto
    have HBX := Lib.hid hbox
    have HB := Lib.hid hbel
    obtain ⟨b0, b1, b2, b3⟩ := hbox.fourP
    by_cases hlt : k < l.length
    · have hd : decide (k < l.length) = true := by simp; omega
      have hd' : decide ((k : Int) < (l.length : Int)) = true := by simp; omega
      rcases HI.out _ hbel with h0 | ⟨b, off, rfl, hb, hc⟩
      · omega
      · have hck := hc k hlt
        have hgk := Lib.hid (show l.getD k 0 = l[k] by simp [List.getD_eq_getElem?_getD, hlt])
        have hw1 : IntKind.i64.wrap ((r.size : Int) - 1) = (r.size : Int) - 1 := IntWalk.i64_in _ (by omega)
        by_cases hin : 0 ≤ l[k] ∧ l[k] ≤ (r.size : Int) - 1
        · have HIN := Lib.hid (in_yes l[k] 0 ((r.size : Int) - 1) hin.1 hin.2)
          by_cases hk0 : 0 < k
          · obtain ⟨j, rfl⟩ : ∃ j, k = j + 1 := ⟨k - 1, by omega⟩
            have hcj := hc j (by omega)
            have hgj := Lib.hid (show l.getD j 0 = l[j] by simp [List.getD_eq_getElem?_getD, show j < l.length by omega])
            have hdk : decide ((0 : Int) < ((j + 1 : Nat) : Int)) = true := by rw [decide_eq_true_iff]; omega
            rw [show ((j + 1 : Nat) : Int) = (j : Int) + 1 by omega] at *
            have HTO2 := Lib.hid (fun (h2 : l[j] < l[j + 1]) => hto.succ (by rw [hgk.out]; exact hin) (fun _ => by rw [show j + 1 - 1 = j by omega, hgk.out, hgj.out]; exact h2))
            have HNO := Lib.hid (fun (h2 : ¬ l[j] < l[j + 1]) => paB_no (c := c) (n := n) (r := r) (l := l) (fun h => h2 (by have := (h.1 (j + 1) hlt).2 (by omega); rw [show j + 1 - 1 = j by omega, hgk.out, hgj.out] at this; exact this)))
            generalize l[j + 1] = x at *
            generalize l[j] = y at *
            have hw2 : IntKind.i64.wrap ((j : Int) + 1 - 1) = (j : Int) := by rw [show (j : Int) + 1 - 1 = (j : Int) by omega]; exact IntWalk.i64_in _ (by omega)
            clear hin hto hc hbel hbox
            by_cases hxy : y < x
            · have dxy : decide (x ≤ y) = false := by simp; omega
              go_wp2
              go_quiet ((go_at_call 68; exact Calls.quiet_of_same ((HIN.out _).mono fun _ _ h => ⟨h.1, h.2.symm⟩)))
              all_goals go_wp2
              all_goals
                go_roundg (l.length - (j + 1 + 1))
                case measure => omega
                case rel => exact ⟨j + 1 + 1, by omega, rfl, by go_num, HTO2.out hxy, HBX.out.drewN _, below_draws HB.out _⟩
            · have dxy : decide (x ≤ y) = true := by simp; omega
              have HV := Lib.hid (HNO.out hxy)
              go_wp2
              go_quiet ((go_at_call 68; exact Calls.quiet_of_same ((HIN.out _).mono fun _ _ h => ⟨h.1, h.2.symm⟩)))
              all_goals go_wp2
              all_goals go_ret
              all_goals exact ⟨by rw [HV.out]; first | done | rfl, below_draws HB.out _⟩
          · obtain rfl : k = 0 := by omega
            have HN := Lib.hid (hto.succ (by rw [hgk.out]; exact hin) (fun h => absurd h hk0))
            rw [Nat.add_zero] at hck
            generalize l[0] = x at *
            clear hin hto hc hbel hbox
            go_wp2
            go_quiet ((go_at_call 68; exact Calls.quiet_of_same ((HIN.out _).mono fun _ _ h => ⟨h.1, h.2.symm⟩)))
            all_goals go_wp2
            all_goals
              go_roundg (l.length - (0 + 1))
              case measure => omega
              case rel => exact ⟨1, by omega, rfl, rfl, HN.out, HBX.out.drewN _, below_draws HB.out _⟩
        · have HIN := Lib.hid (in_no l[k] 0 ((r.size : Int) - 1) hin)
          have HV := Lib.hid (paB_no (c := c) (n := n) (r := r) (l := l) (fun h => hin (by have := (h.1 k hlt).1; rw [hgk.out] at this; exact this)))
          generalize l[k] = x at *
          clear hin hto hc hbel hbox
          go_wp2
          go_quiet ((go_at_call 68; exact Calls.quiet_of_same ((HIN.out _).mono fun _ _ h => ⟨h.1, h.2.symm⟩)))
          all_goals go_wp2
          all_goals go_ret
          all_goals exact ⟨by rw [HV.out]; first | done | rfl, below_draws HB.out _⟩
    · obtain rfl : k = l.length := by omega
      have hd : decide (l.length < l.length) = false := by simp
      have hd' : decide ((l.length : Int) < (l.length : Int)) = false := by simp
      have h3 : decide ((r.size : Int) ≤ 5000) = decide (r.size ≤ 5000) := by rw [decide_eq_decide]; omega
      have HTO2 := Lib.hid hto
      clear hto hbel hbox
      go_wp2
      all_goals go_ret
      all_goals refine ⟨?_, by first | exact HB.out | exact below_draws HB.out _⟩
      all_goals first
        | (rw [paB_no (fun h => by have h1 := h.2.1; have h2 := h.2.2.1; omega)]; first | done | rfl)
        | (rw [show paB c n r l = decide (r.size ≤ 5000) by
            by_cases h5 : r.size ≤ 5000
            · rw [paB_yes ⟨HTO2.out, by omega, by omega, h5⟩, decide_eq_true h5]
            · rw [paB_no (fun h => h5 h.2.2.2), decide_eq_false h5]]; first | done | rfl)
end Go.Proofs.Ytegahdlfjdjcaaa
