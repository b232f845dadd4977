/- What this text proves: a sender that is handed to a law, opened: its numbers, and its Waiting, which is there to be read. -/
import Derived.Test.YtmmedhjmilgnbabAgain
import Derived.Test.YtmmedhjmilgnbabSnd
import Derived.Lib.SmallJoins
import Derived.ChangeSlices
import Derived.Deep.SlicePairs
namespace Go.Proofs.Ytmmedhjmilgnbab
open Go.ChangeShapes Go.WideShapes Go.ChangeAt Go.RowKit Go.Joins Go.Deep
set_option linter.unusedVariables false

theorem cells_sent : Try.prog.cellsOf 62 = 2 := by kernel_rfl
theorem lt_of_cellN {W : World} {p : Addr} {v : Value} (h : W.cell? p = some v) : p.block < W.heap.size := by
  rcases Nat.lt_or_ge p.block W.heap.size with h1 | h1
  · exact h1
  · simp [World.cell?, Array.getElem?_eq_none h1] at h
section
variable {H : Type} {enc : TypeId × Value → H} {W : World} {base : Nat}
set_option maxRecDepth 100000 in
theorem sent_cells {n : Nat} {cs : List Value} {y : DataW H × List MemPlace} (hl : cs.length = 2) (h : DataW.trod enc Try.prog W 0 (fun _ => true) true n 62 cs = some y) :
    ∃ (q : Int) (d : ByteArray), cs = [.int .i64 q, .string d] ∧ d.size ≤ maxLen ∧ (-9223372036854775808 ≤ q ∧ q ≤ 9223372036854775807) := by
  obtain ⟨xs, k, hk, hxy, _, hxl, hf⟩ := DataW.trod_struct Try.underlying62 h
  match xs, hxl, cs, hl with
  | [y0, y1], _, [v0, v1], _ =>
    have g0 := hf 0 _ rfl
    have g1 := hf 1 _ rfl
    have k0 : Try.prog.cellsOf 3 = 1 := by kernel_rfl
    have k3 : Try.prog.cellsOf 9 = 1 := by kernel_rfl
    simp [k0, k3] at g0 g1
    obtain ⟨a0, e0, _, w0⟩ := DataW.trod_int Try.underlying3 g0
    obtain ⟨a1, e1, _, w1⟩ := DataW.trod_string Try.underlying9 g1
    simp at e0 e1
    subst e0 e1
    exact ⟨a0, a1, rfl, w1, bounds_i64 w0⟩
set_option maxRecDepth 100000 in
theorem open_sents {n : Nat} {v : Value} {y : DataW H × List MemPlace} (hf : DataW.trod enc Try.prog W 0 (fun _ => true) true n 32 [v] = some y) :
    ∃ (A : Option Addr) (l : List Sn) (k : Nat), v = .slice A l.length k ∧ l.length ≤ maxLen ∧ (∀ j (hj : j < l.length), l[j].2.size ≤ maxLen) ∧ (∀ j (hj : j < l.length), -9223372036854775808 ≤ l[j].1 ∧ l[j].1 ≤ 9223372036854775807) ∧ SnsAt W W.heap.size A l := by
  rcases open_slice Try.underlying32 hf with ⟨hcs, _⟩ | ⟨a, len, cp, m, n, D, Pl, hcs, _, hl, hm, hmm, _, hx⟩
  · simp at hcs
    exact ⟨none, [], 0, hcs, Nat.zero_le _, fun j hj => absurd hj (Nat.not_lt_zero _), fun j hj => absurd hj (Nat.not_lt_zero _), .inl rfl⟩
  · simp at hcs
    simp only [if_true] at hmm
    subst hmm
    obtain ⟨q, hq⟩ := choose_lt (α := Sn) (p := fun i q => W.cell? (a.add (i * 2)) = some (.int .i64 q.1) ∧ W.cell? (a.add (i * 2 + 1)) = some (.string q.2) ∧ q.2.size ≤ maxLen ∧ (-9223372036854775808 ≤ q.1 ∧ q.1 ≤ 9223372036854775807)) (fun i (hi : i < len) => by
      obtain ⟨cs', h1, h2⟩ := hx i (by omega)
      rw [cells_sent] at h1
      obtain ⟨_, hlen, hcell⟩ := World.cells?_some h1
      obtain ⟨q, dd, rfl, hd, hb⟩ := sent_cells hlen h2
      have e0 := hcell 0 (by omega)
      have e1 := hcell 1 (by omega)
      rw [add_add] at e0 e1
      exact ⟨(q, dd), by simpa using e0, by simpa using e1, hd, hb⟩)
    refine ⟨some a, (List.range len).map q, m, by simpa using hcs, by simp; omega, fun j hj => ?_, fun j hj => ?_, ?_⟩
    · have hj' : j < len := by simpa using hj
      simpa using (hq j hj').2.2.1
    · have hj' : j < len := by simpa using hj
      simpa using (hq j hj').2.2.2
    · rcases Nat.eq_zero_or_pos len with h0 | h0
      · exact .inl (by simp [h0])
      · obtain ⟨b, off, spot⟩ := a
        have hspot : spot = none := by simpa [Addr.add] using World.cell?_spot (hq 0 h0).1
        subst hspot
        have hadd : ∀ i, (⟨b, off, none⟩ : Addr).add i = ⟨b, off + i, none⟩ := fun i => by unfold Addr.add; split <;> simp_all
        refine .inr ⟨b, off, rfl, ?_, fun k hk => ?_⟩
        · have h := lt_of_cellN (hq 0 h0).1
          rw [hadd] at h
          exact h
        · have hk' : k < len := by simpa using hk
          obtain ⟨h1, h2, _⟩ := hq k hk'
          rw [hadd] at h1 h2
          simp only [List.getElem_map, List.getElem_range]
          exact ⟨h1, h2⟩
set_option maxRecDepth 100000 in
theorem open_snd {r0 : Reach} {v : Value} {d : DataW H} {p : List MemPlace} (hv : Value.okWide Try.prog W r0 base 34 v) (h : DataW.Trod enc Try.prog W 0 (fun _ => true) true 34 v d p) :
    ∃ n b A l k d, v = seV n b (.slice A (List.length (α := Sn) l) k) d ∧ (-9223372036854775808 ≤ n ∧ n ≤ 9223372036854775807) ∧ (-9223372036854775808 ≤ b ∧ b ≤ 9223372036854775807) ∧ (-9223372036854775808 ≤ d ∧ d ≤ 9223372036854775807) ∧ l.length ≤ maxLen ∧ (∀ j (hj : j < l.length), l[j].2.size ≤ maxLen) ∧ (∀ j (hj : j < l.length), -9223372036854775808 ≤ l[j].1 ∧ l[j].1 ≤ 9223372036854775807) ∧ SnsAt W W.heap.size A l := by
  obtain ⟨c0, c1, c2, c3, y0, y1, y2, y3, m, rfl, rfl, rfl, h0, h1, h2, h3⟩ := open_agg4 Try.underlying34 (by kernel_rfl) (by kernel_rfl) hv h
  obtain ⟨a0, e0, rfl, w0⟩ := DataW.trod_int Try.underlying3 h0
  obtain ⟨a1, e1, rfl, w1⟩ := DataW.trod_int Try.underlying3 h1
  obtain ⟨a3, e3, rfl, w3⟩ := DataW.trod_int Try.underlying3 h3
  obtain ⟨A, l, k, rfl, hl, hs, hb, hi⟩ := open_sents h2
  simp at e0 e1 e3
  subst e0 e1 e3
  exact ⟨a0, a1, A, l, k, a3, rfl, bounds_i64 w0, bounds_i64 w1, bounds_i64 w3, hl, hs, hb, hi⟩
end
end Go.Proofs.Ytmmedhjmilgnbab
