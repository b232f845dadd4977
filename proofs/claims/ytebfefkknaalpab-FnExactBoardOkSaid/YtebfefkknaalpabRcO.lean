/- What this text proves: a list of records that is handed to a law, opened: it is there to be read. -/
import Derived.Test.YtebfefkknaalpabRcS
import Derived.Test.YtebfefkknaalpabOpenB
import Derived.Lib.SmallJoins
import Derived.ChangeSlices
import Derived.Deep.SlicePairs
namespace Go.Proofs.Ytebfefkknaalpab
open Go.ChangeShapes Go.WideShapes Go.ChangeAt Go.RowKit Go.Joins Go.Deep
set_option linter.unusedVariables false

theorem cells_rc : Try.prog.cellsOf 35 = 4 := by kernel_rfl
section
variable {H : Type} {enc : TypeId × Value → H} {W : World} {base : Nat}
set_option maxRecDepth 100000 in
theorem rc_opened {m : Nat} {cs : List Value} {y : DataW H × List MemPlace} (hl : cs.length = 4) (h : DataW.trod enc Try.prog W 0 (fun _ => true) true m 35 cs = some y) : ∃ (a0 : Int) (a1 : Int) (a2 : Int) (a3 : ByteArray), cs = [.int .i64 a0, .int .i64 a1, .int .i64 a2, .string a3] ∧ a3.size ≤ maxLen := by
  obtain ⟨xs, k, hk, hxy, _, hxl, hf⟩ := DataW.trod_struct Try.underlying35 h
  match xs, hxl, cs, hl with
  | [y0, y1, y2, y3], _, [v0, v1, v2, v3], _ =>
    have g0 := hf 0 _ rfl
    have g1 := hf 1 _ rfl
    have g2 := hf 2 _ rfl
    have g3 := hf 3 _ rfl
    have k0 : Try.prog.cellsOf 3 = 1 := by kernel_rfl
    have k3 : Try.prog.cellsOf 9 = 1 := by kernel_rfl
    simp [k0, k3] at g0 g1 g2 g3
    obtain ⟨a0, e0, _, w0⟩ := DataW.trod_int Try.underlying3 g0
    obtain ⟨a1, e1, _, w1⟩ := DataW.trod_int Try.underlying3 g1
    obtain ⟨a2, e2, _, w2⟩ := DataW.trod_int Try.underlying3 g2
    obtain ⟨a3, e3, _, w3⟩ := DataW.trod_string Try.underlying9 g3
    simp at e0 e1 e2 e3
    subst e0 e1 e2 e3
    exact ⟨a0, a1, a2, a3, rfl, w3⟩
set_option maxRecDepth 100000 in
theorem open_rcs {m : Nat} {v : Value} {y : DataW H × List MemPlace} (hf : DataW.trod enc Try.prog W 0 (fun _ => true) true m 22 [v] = some y) :
    ∃ (A : Option Addr) (l : List Rc) (k : Nat), v = .slice A l.length k ∧ l.length ≤ maxLen ∧ (∀ j (hj : j < l.length), l[j].2.2.2.size ≤ maxLen) ∧ LsI 4 W W.heap.size A (l.map rcC) := by
  rcases open_slice Try.underlying22 hf with ⟨hcs, _⟩ | ⟨a, len, cp, m, n, D, Pl, hcs, _, hl, hm, hmm, _, hx⟩
  · simp at hcs
    exact ⟨none, [], 0, hcs, Nat.zero_le _, fun j hj => absurd hj (Nat.not_lt_zero _), .inl rfl⟩
  · simp at hcs
    simp only [if_true] at hmm
    subst hmm
    obtain ⟨q, hq⟩ := choose_lt (α := Rc) (p := fun i q => W.cell? (a.add (i * 4)) = some (.int .i64 q.1) ∧ W.cell? (a.add (i * 4 + 1)) = some (.int .i64 q.2.1) ∧ W.cell? (a.add (i * 4 + 2)) = some (.int .i64 q.2.2.1) ∧ W.cell? (a.add (i * 4 + 3)) = some (.string q.2.2.2) ∧ q.2.2.2.size ≤ maxLen) (fun i (hi : i < len) => by
      obtain ⟨cs', h1, h2⟩ := hx i (by omega)
      rw [cells_rc] at h1
      obtain ⟨_, hlen, hcell⟩ := World.cells?_some h1
      obtain ⟨a0, a1, a2, a3, rfl, hd⟩ := rc_opened hlen h2
      have e0 := hcell 0 (by omega)
      have e1 := hcell 1 (by omega)
      have e2 := hcell 2 (by omega)
      have e3 := hcell 3 (by omega)
      rw [add_add] at e0 e1 e2 e3
      exact ⟨(a0, a1, a2, a3), by simpa using e0, by simpa using e1, by simpa using e2, by simpa using e3, hd⟩)
    refine ⟨some a, (List.range len).map q, m, by simpa using hcs, by simp; omega, fun j hj => ?_, ?_⟩
    · have hj' : j < len := by simpa using hj
      simpa using (hq j hj').2.2.2.2
    · rcases Nat.eq_zero_or_pos len with h0 | h0
      · exact .inl (by simp [h0])
      · obtain ⟨b, off, spot⟩ := a
        have hspot : spot = none := by simpa [Addr.add] using World.cell?_spot (hq 0 h0).1
        subst hspot
        have hadd : ∀ i, (⟨b, off, none⟩ : Addr).add i = ⟨b, off + i, none⟩ := fun i => by unfold Addr.add; split <;> simp_all
        refine .inr ⟨b, off, rfl, ?_, fun k hk j hj => ?_⟩
        · have h := lt_of_cellB (hq 0 h0).1
          rw [hadd] at h
          exact h
        · have hk' : k < len := by simpa using hk
          obtain ⟨h0, h1, h2, h3, _⟩ := hq k hk'
          rw [hadd] at h0 h1 h2 h3
          simp only [List.getElem_map, List.getElem_range]
          rcases (show j = 0 ∨ j = 1 ∨ j = 2 ∨ j = 3 by omega) with rfl | rfl | rfl | rfl
          · exact h0
          · rw [Nat.add_assoc]; exact h1
          · rw [Nat.add_assoc]; exact h2
          · rw [Nat.add_assoc]; exact h3
end
end Go.Proofs.Ytebfefkknaalpab
