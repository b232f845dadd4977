/- What this text proves: the laws' own functions over lists of slots, over things that lie apart. -/
import Derived.Test.YtdfcamlnebcbpacSlM
import Derived.Test.YtdfcamlnebcbpacSlT
import Derived.Test.YtdfcamlnebcbpacSt
namespace Go.Proofs.Ytdfcamlnebcbpac
open Go.ChangeShapes Go.WideShapes Go.ChangeAt Go.RowKit
set_option linter.unusedVariables false

/-- A list of slots of its own. -/
def slU (v : Value) (l : List Sl) : Thing := lsT 2 v (l.map slC)
/-- A list that bears n marks from M on. -/
def slMk (v : Value) (M n : Nat) : Thing := lsT 2 v ((List.range n).map (mkSl M))
theorem to_slu (A : Option Addr) (l : List Sl) (q : Nat) (hl : l.length ≤ 1048576) (w : World) (h : LsI 2 w w.heap.size A (l.map slC)) :
    Calls Try.prog 13 #[.slice A l.length q] w (Gives w fun v => slU v l) :=
  (to_sls A l q hl w h).mono fun e w' ⟨v, h1, h2, h3⟩ => ⟨v, h1, LsO.lower h2 (Nat.zero_le _), fun k hk => (h2.up k hk).1, h3⟩
theorem eq_slu (l : List Sl) (hl : l.length ≤ 2000000) (v1 v2 : Value) (w : World) (h1 : (slU v1 l).P w) (h2 : (slU v2 l).P w) :
    Calls Try.prog 16 #[v1, v2] w fun e w' => e = .returned (.bool true) ∧ Below w.heap.size w w' := eqSl_any w 0 0 v1 v2 l hl h1 h2
theorem mark_slu (l : List Sl) (hl : l.length ≤ 1100000) (v : Value) (M : Nat) (hM1 : 1 ≤ M) (hM : M ≤ 10000000) (w : World) (h : (slU v l).P w) :
    Calls Try.prog 21 #[v, .int .i64 (M : Int)] w fun e w' => e = .returned (.int .i64 ((M + 2 * l.length : Nat) : Int)) ∧ Touch w w' (slU v l).F ∧ (slMk v M l.length).P w' :=
  (markSl_any w 0 v (l.map slC) (by rw [List.length_map]; exact hl) M hM1 hM h).mono fun e w' hh => by
    rw [List.length_map] at hh
    exact ⟨by rw [hh.1]; congr 2, Touch.of_grown hh.2.1, hh.2.2⟩
theorem slU_form {v : Value} {l : List Sl} {W : World} (h : (slU v l).P W) : ∃ A q, v = .slice A l.length q := OwnSl.nform h
end Go.Proofs.Ytdfcamlnebcbpac
