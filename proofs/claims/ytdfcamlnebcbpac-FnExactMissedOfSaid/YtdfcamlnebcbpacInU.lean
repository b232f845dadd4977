/- What this text proves: the laws' own functions over lists of numbers, over things that lie apart. -/
import Derived.Test.YtdfcamlnebcbpacInM
import Derived.Test.YtdfcamlnebcbpacInT
import Derived.Test.YtdfcamlnebcbpacSt
namespace Go.Proofs.Ytdfcamlnebcbpac
open Go.ChangeShapes Go.WideShapes Go.ChangeAt Go.RowKit
set_option linter.unusedVariables false

/-- A list of numbers of its own. -/
def inT (v : Value) (l : List Int) : Thing := lsT 1 v (l.map inC)
/-- A list that bears n marks from M on. -/
def inMk (v : Value) (M n : Nat) : Thing := lsT 1 v ((List.range n).map (mkIn M))
theorem to_in (A : Option Addr) (l : List Int) (q : Nat) (hl : l.length ≤ 1048576) (w : World) (h : LsI 1 w w.heap.size A (l.map inC)) :
    Calls Try.prog 63 #[.slice A l.length q] w (Gives w fun v => inT v l) :=
  (to_ins A l q hl w h).mono fun e w' ⟨v, h1, h2, h3⟩ => ⟨v, h1, LsO.lower h2 (Nat.zero_le _), fun k hk => (h2.up k hk).1, h3⟩
theorem eq_in (l : List Int) (hl : l.length ≤ 2000000) (v1 v2 : Value) (w : World) (h1 : (inT v1 l).P w) (h2 : (inT v2 l).P w) :
    Calls Try.prog 19 #[v1, v2] w fun e w' => e = .returned (.bool true) ∧ Below w.heap.size w w' := eqIn_any w 0 0 v1 v2 l hl h1 h2
theorem mark_in (l : List Int) (hl : l.length ≤ 1100000) (v : Value) (M : Nat) (hM1 : 1 ≤ M) (hM : M ≤ 10000000) (w : World) (h : (inT v l).P w) :
    Calls Try.prog 22 #[v, .int .i64 (M : Int)] w fun e w' => e = .returned (.int .i64 ((M + l.length : Nat) : Int)) ∧ Touch w w' (inT v l).F ∧ (inMk v M l.length).P w' :=
  (markIn_any w 0 v (l.map inC) (by rw [List.length_map]; exact hl) M hM1 hM h).mono fun e w' hh => by
    rw [List.length_map] at hh
    exact ⟨by rw [hh.1]; congr 2, Touch.of_grown hh.2.1, hh.2.2⟩
theorem held_in (n : Nat) (hn : n ≤ 1100000) (v : Value) (M : Nat) (hM1 : 1 ≤ M) (hM : M ≤ 10000000) (w : World) (h : (inMk v M n).P w) :
    Calls Try.prog 23 #[v, .int .i64 (M : Int)] w fun e w' => e = .returned (.int .i64 ((M + n : Nat) : Int)) ∧ Below w.heap.size w w' :=
  (heldIn_any w 0 M v n hn h hM1 hM).mono fun e w' hh => ⟨by rw [hh.1]; congr 2, hh.2⟩
theorem inT_form {v : Value} {l : List Int} {W : World} (h : (inT v l).P W) : ∃ A q, v = .slice A l.length q := OwnIn.nform h
end Go.Proofs.Ytdfcamlnebcbpac
