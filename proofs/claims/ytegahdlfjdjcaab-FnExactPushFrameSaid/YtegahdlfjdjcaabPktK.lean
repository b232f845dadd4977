/- What this text proves: the marks of a list of packets, as one fact: they are laid, they stay, they are held. -/
import Derived.Test.YtegahdlfjdjcaabPktM
namespace Go.Proofs.Ytegahdlfjdjcaab
open Go.ChangeShapes Go.WideShapes Go.ChangeAt Go.RowKit
set_option linter.unusedVariables false

/-- The marks of a list of packets lie there. -/
def MksP (W : World) (M : Nat) (v : Value) (n : Nat) : Prop := ∃ A c, v = .slice A n c ∧ (0 < n → ∃ g, A = some ⟨g, 0, none⟩ ∧ g < W.heap.size ∧ MkP W g M n)
theorem MksP.more {W W' : World} {M n : Nat} {v : Value} (h : MksP W M v n) (hb : Below W.heap.size W W') : MksP W' M v n := by
  obtain ⟨A, c, h1, h2⟩ := h
  refine ⟨A, c, h1, fun h0 => ?_⟩
  obtain ⟨g, h3, h4, h5⟩ := h2 h0
  exact ⟨g, h3, Nat.lt_of_lt_of_le h4 hb.size, h5.more hb h4⟩
theorem markP_mks (w : World) (base : Nat) (v : Value) (l : List Pk) (hl : l.length ≤ 1000000) (M : Nat) (hM1 : 1 ≤ M) (hM : M ≤ 10000000) (hown : OwnP w base v l) (hbase : base ≤ w.heap.size) :
    Calls Try.prog 34 #[v, .int .i64 (M : Int)] w fun e w' => e = .returned (.int .i64 ((M : Int) + 3 * (l.length : Int))) ∧ Below base w w' ∧ w.heap.size ≤ w'.heap.size ∧ MksP w' M v l.length :=
  (markP_any w base v l hl M hM1 hM hown hbase).mono fun e w' h => by
    obtain ⟨h1, h2, h3, h4⟩ := h
    obtain ⟨A, c, hv⟩ := hown.form
    rw [List.length_map] at hv
    refine ⟨h1, h2, h3, A, c, hv, fun h0 => ?_⟩
    obtain ⟨g, cap, hg, _⟩ := OwnP.rows hown h0
    have := h4 g cap h0 hg
    rw [hg] at hv
    injection hv with hA
    exact ⟨g, hA.symm, this.1, this.2⟩
theorem heldP_mks (w : World) (M : Nat) (v : Value) (n : Nat) (hn : n ≤ 1000000) (h : MksP w M v n) (hM1 : 1 ≤ M) (hM : M ≤ 10000000) :
    Calls Try.prog 35 #[v, .int .i64 (M : Int)] w fun e w' => e = .returned (.int .i64 ((M : Int) + 3 * (n : Int))) ∧ Below w.heap.size w w' := by
  obtain ⟨A, c, rfl, hA⟩ := h
  exact heldP_any w M A n c hn hA hM1 hM

end Go.Proofs.Ytegahdlfjdjcaab
