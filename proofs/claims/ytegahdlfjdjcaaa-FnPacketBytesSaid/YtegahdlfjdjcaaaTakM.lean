/- What this text proves: what TakeFrame answers, as numbers and bytes. -/
import Derived.Test.YtegahdlfjdjcaaaPakC
import Derived.Test.YtegahdlfjdjcaaaPakO
import Derived.Test.YtegahdlfjdjcaaaFrm
namespace Go.Proofs.Ytegahdlfjdjcaaa
open Go.ChangeShapes Go.WideShapes Go.ChangeAt Go.RowKit
set_option linter.unusedVariables false

/-- The Starts behind the first frame, of the first k. -/
def laterK (l : List Int) : Nat → List Int
  | 0 => []
  | k + 1 => laterK l k ++ (if 24 ≤ l.getD k 0 then [l.getD k 0 - 24] else [])
theorem laterK_len (l : List Int) (k : Nat) : (laterK l k).length ≤ k := by
  induction k with
  | zero => exact Nat.le_refl _
  | succ k ih => simp only [laterK]; split <;> simp <;> omega
theorem laterK_yes {l : List Int} {k : Nat} (h : 24 ≤ l.getD k 0) : laterK l (k + 1) = laterK l k ++ [l.getD k 0 - 24] := by simp only [laterK]; rw [if_pos h]
theorem laterK_no {l : List Int} {k : Nat} (h : ¬ 24 ≤ l.getD k 0) : laterK l (k + 1) = laterK l k := by simp only [laterK]; rw [if_neg h, List.append_nil]
/-- Where the first packet of the first frame begins. -/
def firstI (l : List Int) : Int := if 0 < l.length ∧ l.getD 0 0 < 24 then l.getD 0 0 else 255
def TkOk (c n : Int) (r : ByteArray) (l : List Int) : Prop := PaOk c n r l ∧ 24 ≤ r.size
open Classical in
noncomputable def tkB (c n : Int) (r : ByteArray) (l : List Int) : Bool := decide (TkOk c n r l)
theorem tkB_yes {c n : Int} {r : ByteArray} {l : List Int} (h : TkOk c n r l) : tkB c n r l = true := by unfold tkB; exact @decide_eq_true _ (Classical.propDecidable _) h
theorem tkB_no {c n : Int} {r : ByteArray} {l : List Int} (h : ¬ TkOk c n r l) : tkB c n r l = false := by unfold tkB; exact @decide_eq_false _ (Classical.propDecidable _) h
noncomputable def tkN (c n : Int) (r : ByteArray) (l : List Int) : Int := bif tkB c n r l then (n + 1) % 256 else n
noncomputable def tkR (c n : Int) (r : ByteArray) (l : List Int) : ByteArray := bif tkB c n r l then r.extract 24 r.size else r
noncomputable def tkL (c n : Int) (r : ByteArray) (l : List Int) : List Int := bif tkB c n r l then laterK l l.length else l
/-- A frame: Channel, Count, First, Data. -/
abbrev Fr := Int × Int × Int × ByteArray
abbrev frW (f : Fr) : Value := frV f.1 f.2.1 f.2.2.1 f.2.2.2
noncomputable def tkF (c n : Int) (r : ByteArray) (l : List Int) : Fr := bif tkB c n r l then (c, n, firstI l, r.extract 0 24) else (0, 0, 0, ⟨#[]⟩)
/-- What TakeFrame answers. -/
def TakeEnd (c n : Int) (r : ByteArray) (l : List Int) (w : World) (e : Ending) (w' : World) : Prop :=
  ∃ v, e = .returned (.tuple #[paV c (tkN c n r l) (tkR c n r l) v, frW (tkF c n r l), .bool (tkB c n r l)]) ∧ OwnI w' w.heap.size v (tkL c n r l) ∧ Below w.heap.size w w'
theorem TakeEnd.no {c n : Int} {r : ByteArray} {l : List Int} {w w' : World} {v : Value} (h : ¬ TkOk c n r l) (ho : OwnI w' w.heap.size v l) (hb : Below w.heap.size w w') : TakeEnd c n r l w (.returned (.tuple #[paV c n r v, frV 0 0 0 ⟨#[]⟩, .bool false])) w' :=
  ⟨v, by unfold tkN tkR tkF; rw [tkB_no h]; rfl, by unfold tkL; rw [tkB_no h]; exact ho, hb⟩
theorem TakeEnd.yes {c n : Int} {r : ByteArray} {l : List Int} {w w' : World} {v : Value} (h : TkOk c n r l) (ho : OwnI w' w.heap.size v (laterK l l.length)) (hb : Below w.heap.size w w') : TakeEnd c n r l w (.returned (.tuple #[paV c ((n + 1) % 256) (r.extract 24 r.size) v, frV c n (firstI l) (r.extract 0 24), .bool true])) w' :=
  ⟨v, by unfold tkN tkR tkF; rw [tkB_yes h]; rfl, by unfold tkL; rw [tkB_yes h]; exact ho, hb⟩
theorem tkL_len (c n : Int) (r : ByteArray) (l : List Int) : (tkL c n r l).length ≤ l.length := by
  unfold tkL
  cases tkB c n r l
  · exact Nat.le_refl _
  · exact laterK_len l l.length
end Go.Proofs.Ytegahdlfjdjcaaa
