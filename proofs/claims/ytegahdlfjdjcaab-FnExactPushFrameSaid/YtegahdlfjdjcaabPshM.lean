/- What this text proves: what PushFrame answers, as numbers, bytes and packets. -/
import Derived.Test.YtegahdlfjdjcaabPktD
import Derived.Test.YtegahdlfjdjcaabPktS
import Derived.Test.YtegahdlfjdjcaabFrm
import Derived.Test.YtegahdlfjdjcaabUnp
namespace Go.Proofs.Ytegahdlfjdjcaab
open Go.ChangeShapes Go.WideShapes Go.ChangeAt Go.RowKit
set_option linter.unusedVariables false

/-- Whether a packet stands at the beginning, and how many bytes it has. -/
noncomputable def okP (r : ByteArray) : Bool := (decP r 0).2.2.2.2
noncomputable def lenP (r : ByteArray) : Nat := (decP r 0).2.2.2.1.toNat
noncomputable def pkP (r : ByteArray) : Pk := ((decP r 0).1, (decP r 0).2.1, (decP r 0).2.2.1)
theorem okP_len {r : ByteArray} (h : okP r = true) : 4 ≤ lenP r ∧ lenP r ≤ r.size ∧ (decP r 0).2.2.2.1 = ((lenP r : Nat) : Int) := by
  unfold okP lenP at *
  by_cases hd : DcOk r 0
  · rw [decP_yes hd]
    have h3 := hd.2.2.1
    simp only [Int.toNat_zero] at h3 ⊢
    omega
  · rw [decP_no hd] at h
    exact absurd h (by simp)
/-- The packets and the rest behind k packets. -/
noncomputable def itP (r0 : ByteArray) : Nat → List Pk × ByteArray
  | 0 => ([], r0)
  | k + 1 => bif okP (itP r0 k).2 then ((itP r0 k).1 ++ (if (pkP (itP r0 k).2).1 = 15 then [] else [pkP (itP r0 k).2]), (itP r0 k).2.extract (lenP (itP r0 k).2) (itP r0 k).2.size) else itP r0 k
theorem itP_yes {r0 : ByteArray} {k : Nat} (h : okP (itP r0 k).2 = true) : itP r0 (k + 1) = ((itP r0 k).1 ++ (if (pkP (itP r0 k).2).1 = 15 then [] else [pkP (itP r0 k).2]), (itP r0 k).2.extract (lenP (itP r0 k).2) (itP r0 k).2.size) := by simp only [itP]; rw [h]; rfl
theorem itP_no {r0 : ByteArray} {k : Nat} (h : okP (itP r0 k).2 = false) : itP r0 (k + 1) = itP r0 k := by simp only [itP]; rw [h]; rfl
theorem itP_stay {r0 : ByteArray} {k : Nat} (h : okP (itP r0 k).2 = false) : ∀ j, itP r0 (k + j) = itP r0 k := by
  intro j
  induction j with
  | zero => rfl
  | succ j ih => rw [← Nat.add_assoc, itP_no (by rw [ih]; exact h), ih]
noncomputable def takeP (r0 : ByteArray) : List Pk × ByteArray := itP r0 r0.size
theorem takeP_at {r0 : ByteArray} {k : Nat} (hk : k ≤ r0.size) (h : okP (itP r0 k).2 = false) : takeP r0 = itP r0 k := by
  unfold takeP
  have := itP_stay h (r0.size - k)
  rwa [show k + (r0.size - k) = r0.size by omega] at this
theorem itP_len (r0 : ByteArray) (k : Nat) : (itP r0 k).1.length ≤ k := by
  induction k with
  | zero => exact Nat.le_refl _
  | succ k ih =>
    simp only [itP]
    cases okP (itP r0 k).2
    · simp only [cond_false]; omega
    · simp only [cond_true, List.length_append]; split <;> simp <;> omega
theorem itP_size (r0 : ByteArray) (k : Nat) : (itP r0 k).2.size ≤ r0.size := by
  induction k with
  | zero => exact Nat.le_refl _
  | succ k ih =>
    simp only [itP]
    cases okP (itP r0 k).2
    · exact ih
    · simp only [cond_true, ByteArray.size_extract]; omega
theorem takeP_len (r0 : ByteArray) : (takeP r0).1.length ≤ r0.size := itP_len r0 _
theorem takeP_size (r0 : ByteArray) : (takeP r0).2.size ≤ r0.size := itP_size r0 _
/-- Whether the rest begins with four bytes with which no packet begins. -/
def BrkP (r : ByteArray) : Prop := 4 ≤ r.size ∧ (15 < byteAt r 0 ∨ 40 < byteAt r 3)
instance (r : ByteArray) : Decidable (BrkP r) := by unfold BrkP; infer_instance
/-- Synced, Rest, Lost, in the three steps of PushFrame. -/
def g1 (n co : Int) (s : Bool × ByteArray × Int) : Bool × ByteArray × Int := if n ≠ -1 ∧ n ≠ co then (false, ⟨#[]⟩, lossN s.2.2) else s
def g2 (fi : Int) (d : ByteArray) (s : Bool × ByteArray × Int) : Bool × ByteArray × Int := if s.1 = true then (true, s.2.1 ++ d, s.2.2) else if fi ≠ 255 then (true, d.extract fi.toNat d.size, s.2.2) else s
noncomputable def g3 (s : Bool × ByteArray × Int) : Bool × ByteArray × Int := if BrkP (takeP s.2.1).2 then (false, ⟨#[]⟩, lossN s.2.2) else (s.1, (takeP s.2.1).2, s.2.2)
def PuOk (c n : Int) (s : Bool × ByteArray × Int) (f : Int × Int × Int × ByteArray) : Prop := UpOk c n s.1 s.2.1 s.2.2 ∧ FrOk f.1 f.2.1 f.2.2.1 f.2.2.2 ∧ c = f.1
instance (c n : Int) (s : Bool × ByteArray × Int) (f : Int × Int × Int × ByteArray) : Decidable (PuOk c n s f) := by unfold PuOk; infer_instance
noncomputable def puS (c n : Int) (s : Bool × ByteArray × Int) (f : Int × Int × Int × ByteArray) : Bool × ByteArray × Int := if PuOk c n s f then g3 (g2 f.2.2.1 f.2.2.2 (g1 n f.2.1 s)) else s
def puN (c n : Int) (s : Bool × ByteArray × Int) (f : Int × Int × Int × ByteArray) : Int := if PuOk c n s f then (f.2.1 + 1) % 256 else n
noncomputable def puL (c n : Int) (s : Bool × ByteArray × Int) (f : Int × Int × Int × ByteArray) : List Pk := if PuOk c n s f then (takeP (g2 f.2.2.1 f.2.2.2 (g1 n f.2.1 s)).2.1).1 else []
abbrev unW (c n : Int) (s : Bool × ByteArray × Int) : Value := unV c n s.1 s.2.1 s.2.2
/-- What PushFrame answers. -/
def PushEnd (c n : Int) (s : Bool × ByteArray × Int) (f : Int × Int × Int × ByteArray) (w : World) (e : Ending) (w' : World) : Prop :=
  ∃ v, e = .returned (.tuple #[unW c (puN c n s f) (puS c n s f), v]) ∧ OwnP w' w.heap.size v (puL c n s f) ∧ Below w.heap.size w w'
theorem lossN_in {l : Int} (h : 0 ≤ l ∧ l ≤ 1000000) : 0 ≤ lossN l ∧ lossN l ≤ 1000000 := by unfold lossN; split <;> omega
theorem g1_in {n co : Int} {s : Bool × ByteArray × Int} (h : 0 ≤ s.2.2 ∧ s.2.2 ≤ 1000000) : 0 ≤ (g1 n co s).2.2 ∧ (g1 n co s).2.2 ≤ 1000000 := by unfold g1; split; exact lossN_in h; exact h
theorem g1_size {n co : Int} {s : Bool × ByteArray × Int} : (g1 n co s).2.1.size ≤ s.2.1.size := by unfold g1; split; exact Nat.zero_le _; exact Nat.le_refl _
theorem g2_in {fi : Int} {d : ByteArray} {s : Bool × ByteArray × Int} : (g2 fi d s).2.2 = s.2.2 := by unfold g2; split; rfl; split <;> rfl
theorem g2_size {fi : Int} {d : ByteArray} {s : Bool × ByteArray × Int} : (g2 fi d s).2.1.size ≤ s.2.1.size + d.size := by
  unfold g2
  split
  · rw [ByteArray.size_append]; exact Nat.le_refl _
  · split
    · simp only [ByteArray.size_extract]; omega
    · exact Nat.le_add_right _ _
end Go.Proofs.Ytegahdlfjdjcaab
