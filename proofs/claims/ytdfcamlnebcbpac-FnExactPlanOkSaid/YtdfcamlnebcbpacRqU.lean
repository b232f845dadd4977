/- What this text proves: the laws' own functions over lists of requests, over things that lie apart. -/
import Derived.Test.YtdfcamlnebcbpacRqM
import Derived.Test.YtdfcamlnebcbpacRqT
import Derived.Test.YtdfcamlnebcbpacSt
namespace Go.Proofs.Ytdfcamlnebcbpac
open Go.ChangeShapes Go.WideShapes Go.ChangeAt Go.RowKit
set_option linter.unusedVariables false

/-- A list of requests of its own. -/
def rqU (v : Value) (l : List Rq) : Thing := lsT 4 v (l.map rqC)
/-- A list that bears n marks from M on. -/
def rqMk (v : Value) (M n : Nat) : Thing := lsT 4 v ((List.range n).map (mkRq M))
theorem to_rqu (A : Option Addr) (l : List Rq) (q : Nat) (hl : l.length ≤ 1048576) (w : World) (h : LsI 4 w w.heap.size A (l.map rqC)) :
    Calls Try.prog 12 #[.slice A l.length q] w (Gives w fun v => rqU v l) :=
  (to_rqs A l q hl w h).mono fun e w' ⟨v, h1, h2, h3⟩ => ⟨v, h1, LsO.lower h2 (Nat.zero_le _), fun k hk => (h2.up k hk).1, h3⟩
theorem eq_rqu (l : List Rq) (hl : l.length ≤ 2000000) (v1 v2 : Value) (w : World) (h1 : (rqU v1 l).P w) (h2 : (rqU v2 l).P w) :
    Calls Try.prog 15 #[v1, v2] w fun e w' => e = .returned (.bool true) ∧ Below w.heap.size w w' := eqRq_any w 0 0 v1 v2 l hl h1 h2
theorem mark_rqu (l : List Rq) (hl : l.length ≤ 1100000) (v : Value) (M : Nat) (hM1 : 1 ≤ M) (hM : M ≤ 10000000) (w : World) (h : (rqU v l).P w) :
    Calls Try.prog 20 #[v, .int .i64 (M : Int)] w fun e w' => e = .returned (.int .i64 ((M + 4 * l.length : Nat) : Int)) ∧ Touch w w' (rqU v l).F ∧ (rqMk v M l.length).P w' :=
  (markRq_any w 0 v (l.map rqC) (by rw [List.length_map]; exact hl) M hM1 hM h).mono fun e w' hh => by
    rw [List.length_map] at hh
    exact ⟨by rw [hh.1]; congr 2, Touch.of_grown hh.2.1, hh.2.2⟩
theorem rqU_form {v : Value} {l : List Rq} {W : World} (h : (rqU v l).P W) : ∃ A q, v = .slice A l.length q := OwnRq.nform h
end Go.Proofs.Ytdfcamlnebcbpac
