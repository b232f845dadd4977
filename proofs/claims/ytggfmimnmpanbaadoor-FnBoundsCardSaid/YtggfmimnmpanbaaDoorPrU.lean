/- What this text proves: the laws' own functions over lists of pairs, over things that lie apart. -/
import Derived.Test.YtggfmimnmpanbaaDoorPrM
import Derived.Test.YtggfmimnmpanbaaDoorPrT
import Derived.Test.YtggfmimnmpanbaaDoorSt
namespace Go.Proofs.YtggfmimnmpanbaaDoor
open Go.ChangeShapes Go.WideShapes Go.ChangeAt Go.RowKit
set_option linter.unusedVariables false

/-- A list of pairs of its own. -/
def prT (v : Value) (l : List Pr) : Thing := lsT 2 v (l.map prC)
/-- A list that bears n marks from M on. -/
def prMk (v : Value) (M n : Nat) : Thing := lsT 2 v ((List.range n).map (mkPr M))
theorem to_pru (A : Option Addr) (l : List Pr) (q : Nat) (hl : l.length ≤ 1048576) (w : World) (h : LsI 2 w w.heap.size A (l.map prC)) :
    Calls Tryd.prog 20 #[.slice A l.length q] w (Gives w fun v => prT v l) :=
  (to_prs A l q hl w h).mono fun e w' ⟨v, h1, h2, h3⟩ => ⟨v, h1, LsO.lower h2 (Nat.zero_le _), fun k hk => (h2.up k hk).1, h3⟩
theorem eq_pru (l : List Pr) (hl : l.length ≤ 2000000) (v1 v2 : Value) (w : World) (h1 : (prT v1 l).P w) (h2 : (prT v2 l).P w) :
    Calls Tryd.prog 21 #[v1, v2] w fun e w' => e = .returned (.bool true) ∧ Below w.heap.size w w' := eqPr_any w 0 0 v1 v2 l hl h1 h2
theorem mark_pru (l : List Pr) (hl : l.length ≤ 1100000) (v : Value) (M : Nat) (hM1 : 1 ≤ M) (hM : M ≤ 10000000) (w : World) (h : (prT v l).P w) :
    Calls Tryd.prog 24 #[v, .int .i64 (M : Int)] w fun e w' => e = .returned (.int .i64 ((M + 2 * l.length : Nat) : Int)) ∧ Touch w w' (prT v l).F ∧ (prMk v M l.length).P w' :=
  (markPr_any w 0 v (l.map prC) (by rw [List.length_map]; exact hl) M hM1 hM h).mono fun e w' hh => by
    rw [List.length_map] at hh
    exact ⟨by rw [hh.1]; congr 2, Touch.of_grown hh.2.1, hh.2.2⟩
theorem held_pru (n : Nat) (hn : n ≤ 1100000) (v : Value) (M : Nat) (hM1 : 1 ≤ M) (hM : M ≤ 10000000) (w : World) (h : (prMk v M n).P w) :
    Calls Tryd.prog 25 #[v, .int .i64 (M : Int)] w fun e w' => e = .returned (.int .i64 ((M + 2 * n : Nat) : Int)) ∧ Below w.heap.size w w' :=
  (heldPr_any w 0 M v n hn h hM1 hM).mono fun e w' hh => ⟨by rw [hh.1]; congr 2, hh.2⟩
theorem prT_form {v : Value} {l : List Pr} {W : World} (h : (prT v l).P W) : ∃ A q, v = .slice A l.length q := OwnPr.nform h
end Go.Proofs.YtggfmimnmpanbaaDoor
