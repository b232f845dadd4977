/- What this text proves: lists of numbers somewhere in a block of the call's own: their cells; the laws' own comparison finds equal ones equal. -/
import Derived.Test.YtjcdekonidekcadLs
import Derived.Test.YtjcdekonidekcadBufI
import Derived.LoopTactic
import Derived.Deep.LoopGhost
import Derived.BigQuiet
import Derived.BigRegion
import Derived.Outline
namespace Go.Proofs.Ytjcdekonidekcad
open Go.ChangeShapes Go.WideShapes Go.ChangeAt Go.RowKit
set_option linter.unusedVariables false


abbrev inC (i : Int) : List Value := [.int .i64 i]
abbrev OwnIn (w : World) (base : Nat) (v : Value) (l : List Int) : Prop := LsO 1 w base v (l.map inC)
theorem in_len (l : List Int) : ∀ x ∈ l.map inC, x.length = 1 := fun x hx => by obtain ⟨q, _, rfl⟩ := List.mem_map.1 hx; rfl
theorem in_one (l : List Int) : ∀ x ∈ l.map inC, ∀ u ∈ x, u.oneCell' = true := fun x hx u hu => by
  obtain ⟨q, _, rfl⟩ := List.mem_map.1 hx
  simp only [inC, List.mem_cons, List.not_mem_nil, or_false] at hu
  subst hu
  rfl
theorem in_flat (l : List Int) : (l.map inC).flatten = l.map (Value.int .i64) := by
  induction l with
  | nil => rfl
  | cons a r ih => rw [List.map_cons, List.flatten_cons, ih]; rfl
theorem OwnI.toR {w : World} {base : Nat} {v : Value} {l : List Int} (h : OwnI w base v l) : OwnR 3 1 w base v (l.map inC) := ⟨by rw [in_flat, List.length_map]; exact h, in_len l⟩
theorem OwnI.toO {w : World} {base : Nat} {v : Value} {l : List Int} (h : OwnI w base v l) : OwnIn w base v l := OwnR.toO h.toR
theorem inCells {w : World} {base g off N c : Nat} {l : List Int} (h : OwnIn w base (.slice (some ⟨g, off, none⟩) N c) l) (k : Nat) (hk : k < l.length) : w.cell? ⟨g, off + k, none⟩ = some (.int .i64 l[k]) := by
  have hc := (h.at rfl (by rw [List.length_map]; omega)).1
  have h0 := hc k (by rw [List.length_map]; exact hk) 0 (by decide)
  simp only [List.getElem_map, Nat.mul_one] at h0
  exact h0
theorem inCellsI {w : World} {B : Nat} {A : Option Addr} {l : List Int} (h : LsI 1 w B A (l.map inC)) (h0 : 0 < l.length) : ∃ b off, A = some ⟨b, off, none⟩ ∧ b < B ∧ ∀ k (hk : k < l.length), w.cell? ⟨b, off + k, none⟩ = some (.int .i64 l[k]) := by
  rcases h with h | ⟨b, off, hA, hb, hc⟩
  · rw [List.length_map] at h; omega
  · refine ⟨b, off, hA, hb, fun k hk => ?_⟩
    have h0 := hc k (by rw [List.length_map]; exact hk) 0 (by decide)
    simp only [List.getElem_map, Nat.mul_one] at h0
    exact h0
theorem OwnIn.nform {w : World} {base : Nat} {v : Value} {l : List Int} (h : OwnIn w base v l) : ∃ A c, v = .slice A l.length c := by
  obtain ⟨A, c, h1⟩ := LsO.form h
  exact ⟨A, c, by rw [h1, List.length_map]⟩

end Go.Proofs.Ytjcdekonidekcad
