/- What this text proves: lists of numbers somewhere in a block of the call's own: their cells; the laws' own comparison finds equal ones equal. -/
import Derived.Test.YtdfcamlnebcbpacLs
import Derived.Test.YtdfcamlnebcbpacBufI
import Derived.LoopTactic
import Derived.Deep.LoopGhost
import Derived.BigQuiet
import Derived.BigRegion
import Derived.Outline
namespace Go.Proofs.Ytdfcamlnebcbpac
open Go.ChangeShapes Go.WideShapes Go.ChangeAt Go.RowKit
set_option linter.unusedVariables false


abbrev inC (i : Int) : List Value := [.int .i64 i]
abbrev OwnIn (w : World) (base : Nat) (v : Value) (l : List Int) : Prop := LsO 1 w base v (l.map inC)
theorem in_len (l : List Int) : ∀ x ∈ l.map inC, x.length = 1 := fun x hx => by obtain ⟨q, _, rfl⟩ := List.mem_map.1 hx; rfl
theorem in_one (l : List Int) : ∀ x ∈ l.map inC, ∀ u ∈ x, u.oneCell' = true := fun x hx u hu => by
  obtain ⟨q, _, rfl⟩ := List.mem_map.1 hx
  simp only [inC, List.mem_cons, List.not_mem_nil, or_false] at hu
  subst hu
  rfl
theorem in_flat (l : List Int) : (l.map inC).flatten = l.map (Value.int .i64) := by
  induction l with
  | nil => rfl
  | cons a r ih => rw [List.map_cons, List.flatten_cons, ih]; rfl
theorem OwnI.toR {w : World} {base : Nat} {v : Value} {l : List Int} (h : OwnI w base v l) : OwnR 3 1 w base v (l.map inC) := ⟨by rw [in_flat, List.length_map]; exact h, in_len l⟩
theorem OwnI.toO {w : World} {base : Nat} {v : Value} {l : List Int} (h : OwnI w base v l) : OwnIn w base v l := OwnR.toO h.toR
theorem inCells {w : World} {base g off N c : Nat} {l : List Int} (h : OwnIn w base (.slice (some ⟨g, off, none⟩) N c) l) (k : Nat) (hk : k < l.length) : w.cell? ⟨g, off + k, none⟩ = some (.int .i64 l[k]) := by
  have hc := (h.at rfl (by rw [List.length_map]; omega)).1
  have h0 := hc k (by rw [List.length_map]; exact hk) 0 (by decide)
  simp only [List.getElem_map, Nat.mul_one] at h0
  exact h0
theorem inCellsI {w : World} {B : Nat} {A : Option Addr} {l : List Int} (h : LsI 1 w B A (l.map inC)) (h0 : 0 < l.length) : ∃ b off, A = some ⟨b, off, none⟩ ∧ b < B ∧ ∀ k (hk : k < l.length), w.cell? ⟨b, off + k, none⟩ = some (.int .i64 l[k]) := by
  rcases h with h | ⟨b, off, hA, hb, hc⟩
  · rw [List.length_map] at h; omega
  · refine ⟨b, off, hA, hb, fun k hk => ?_⟩
    have h0 := hc k (by rw [List.length_map]; exact hk) 0 (by decide)
    simp only [List.getElem_map, Nat.mul_one] at h0
    exact h0
theorem OwnIn.nform {w : World} {base : Nat} {v : Value} {l : List Int} (h : OwnIn w base v l) : ∃ A c, v = .slice A l.length c := by
  obtain ⟨A, c, h1⟩ := LsO.form h
  exact ⟨A, c, by rw [h1, List.length_map]⟩

set_option maxHeartbeats 1000000 in
theorem eqIn_any (w : World) (b1 b2 : Nat) (v1 v2 : Value) (l : List Int) (hl : l.length ≤ 2000000) (h1 : OwnIn w b1 v1 l) (h2 : OwnIn w b2 v2 l) :
    Calls Try.prog 19 #[v1, v2] w fun e w' => e = .returned (.bool true) ∧ Below w.heap.size w w' := by
  obtain ⟨A1, c1, rfl⟩ := OwnIn.nform h1
  obtain ⟨A2, c2, rfl⟩ := OwnIn.nform h2
  rcases Nat.eq_zero_or_pos l.length with h0 | h0
  · rw [h0]
    go_enter Try.func19, Try.ntmps19
    go_wp2
    refine wp_loop_rounds 1 ?_
    rw [rounds_succ]
    go_wp2
    go_ret
    exact ⟨rfl, Below.refl _ _⟩
  · obtain ⟨g1, o1, ⟨d1, e1⟩, _, _⟩ := h1.rows (by rw [List.length_map]; exact h0)
    obtain ⟨g2, o2, ⟨d2, e2⟩, _, _⟩ := h2.rows (by rw [List.length_map]; exact h0)
    injection e1 with e1 e1b e1c
    injection e2 with e2 e2b e2c
    clear e1b e1c e2b e2c
    subst e1 e2
    have H1 := Lib.hid (fun k hk => inCells h1 k hk)
    have H2 := Lib.hid (fun k hk => inCells h2 k hk)
    clear h1 h2
    go_enter Try.func19, Try.ntmps19
    go_wp2
    go_loopw [5] (fun i wr => ∃ k : Nat, k ≤ l.length ∧ i = .int .i64 (k : Int) ∧ ∃ d, wr = w.drewN d) (fun i _ => l.length - (intOf i).toNat)
    case atStart => exact ⟨0, by omega, rfl, 0, rfl⟩
    case round =>
      obtain ⟨k, hk, rfl, d, rfl⟩ := hrel
      by_cases hlt : k < l.length
      · have hd : decide (k < l.length) = true := by simp; omega
        have e1 := H1.out k hlt
        have e2 := H2.out k hlt
        generalize l[k] = t at e1 e2
        go_wp2
        go_quiet (fail)
        go_wp2
        refine ⟨⟨k + 1, by omega, by go_num, _, rfl⟩, by simp [intOf]; omega⟩
      · have hd : decide (k < l.length) = false := by simp; omega
        clear hlt
        go_wp2
        go_ret
        exact ⟨rfl, below_draws (Below.refl _ _) d⟩
end Go.Proofs.Ytdfcamlnebcbpac
