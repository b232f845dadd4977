/- What this text proves: the drawn drifts are drifts. -/
import Derived.Test.YtdfcamlnebcbpaaDraw
import Derived.Test.YtdfcamlnebcbpaaDrf
import Derived.Test.YtdfcamlnebcbpaaGro
namespace Go.Proofs.Ytdfcamlnebcbpaa
open Go.ChangeShapes Go.WideShapes Go.ChangeAt Go.RowKit
set_option linter.unusedVariables false

theorem pickI_at (w : World) (g b n c : Nat) (f : Nat → Int) (hn0 : 0 < n) (hn : n ≤ 1000) (hb : b < w.heap.size) (hbg : b ≠ g)
    (hcell : ∀ j, j < n → w.cell? ⟨b, j, none⟩ = some (.int .i64 (f j))) (hcur : CurB w g) :
    Calls Try.prog 48 #[.pointer (some ⟨g, 0, none⟩), .slice (some ⟨b, 0, none⟩) n c] w fun e w' => ∃ j, j < n ∧ e = .returned (.int .i64 (f j)) ∧ CurB w' g ∧ w.grownBy w' (some g) := by
  have Hc := Lib.hid hcell
  clear hcell
  go_enter Try.func48, Try.ntmps48
  go_wp2_with fail
  refine (below_any _ g n (by omega) hcur).mono ?_
  rintro e w1 ⟨x, hx0, hx1, hx2, rfl, hc1, hg1⟩
  have hx3 := hx1 (by omega)
  clear hx1 hx2
  obtain ⟨j, rfl⟩ := Int.eq_ofNat_of_zero_le hx0
  have hj : j < n := by omega
  have cj : w1.cell? ⟨b, j, none⟩ = some (.int .i64 (f j)) := hg1.cell (Hc.out j hj) (fun e => by injection e with e; exact hbg e)
  go_wp2
  go_ret
  exact ⟨j, hj, rfl, hc1, hg1⟩
theorem cells_at (w : World) (l : List Int) : ∀ j, j < l.length → (w.alloc (.cells (l.map (Value.int .i64)).toArray 3)).cell? ⟨w.heap.size, j, none⟩ = some (.int .i64 (l.getD j 0)) := fun j hj => by
  rw [World.cell?_alloc_at _ _ _ _ rfl]
  simp [List.getD_eq_getElem?_getD, List.getElem?_eq_getElem hj]
theorem grown_cellsD {g : Nat} {w : World} : ∀ (us : List Value) (o : Nat) (W : World), w.heap.size ≤ g → ∀ r, w.grownBy W r → w.grownBy (W.setCells g o us) r := by
  intro us
  induction us with
  | nil => intro o W _ r h; exact h
  | cons u us ih =>
    intro o W hg r h
    refine ih _ _ hg r ⟨h.os, h.tape, h.output, by simpa [World.setCell] using h.size, fun k hk hne => ?_⟩
    have hkg : ¬ g = k := by omega
    rw [← h.block k hk hne]
    simp [World.setCell, Array.getElem?_modify, hkg]
def ratesD : List Int := [0, 1, -1, 7, -30, 100, -100]
def offsD : List Int := [0, 3, 1000]
theorem ratesD_ok (j : Nat) (h : j < 7) : -100 ≤ ratesD.getD j 0 ∧ ratesD.getD j 0 ≤ 100 := by
  have : ∀ k : Fin 7, -100 ≤ ratesD.getD k.val 0 ∧ ratesD.getD k.val 0 ≤ 100 := by decide
  exact this ⟨j, h⟩
theorem offsD_ok (j : Nat) (h : j < 3) : 0 ≤ offsD.getD j 0 ∧ offsD.getD j 0 ≤ 1000 := by
  have : ∀ k : Fin 3, 0 ≤ offsD.getD k.val 0 ∧ offsD.getD k.val 0 ≤ 1000 := by decide
  exact this ⟨j, h⟩
theorem CodeOk.wider7 {w : World} {B B' : Nat} {A : Option Addr} {n : Nat} (h : CodeOk w B A n) (hB : B ≤ B') : CodeOk w B' A n := by
  rcases h with h | ⟨b, off, hA, hlt, hc⟩
  · exact .inl h
  · exact .inr ⟨b, off, hA, Nat.lt_of_lt_of_le hlt hB, hc⟩
end Go.Proofs.Ytdfcamlnebcbpaa
