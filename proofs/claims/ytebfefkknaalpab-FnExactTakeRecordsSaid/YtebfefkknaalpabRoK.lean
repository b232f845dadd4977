/- What this text proves: the contracts of the laws' marks over recorders: marks that were written are found again, and change nothing else. -/
import Derived.Test.YtebfefkknaalpabRo
import Derived.Test.YtebfefkknaalpabRcM
import Derived.Test.YtebfefkknaalpabInM
import Derived.Test.YtebfefkknaalpabTch
namespace Go.Proofs.Ytebfefkknaalpab
open Go.ChangeShapes Go.WideShapes Go.ChangeAt Go.RowKit
set_option linter.unusedVariables false

/-- The blocks of a recorder's lists. -/
def blkRo (v : Value) (k : Nat) : Prop := ∃ r v1 v2, v = roV r v1 v2 ∧ (v1.ownBlock = some k ∨ v2.ownBlock = some k)
theorem blkRo_iff {r : Int} {v1 v2 : Value} {k : Nat} : blkRo (roV r v1 v2) k ↔ (v1.ownBlock = some k ∨ v2.ownBlock = some k) := by
  constructor
  · rintro ⟨r', u1, u2, e, h⟩
    simp only [roV, Value.agg.injEq, Array.mk.injEq, List.cons.injEq, and_true] at e
    obtain ⟨_, e1, e2⟩ := e
    subst e1 e2
    exact h
  · intro h
    exact ⟨r, v1, v2, rfl, h⟩
theorem OwnRo.blk {w : World} {base : Nat} {v : Value} {r : Int} {l : List Rc} {d : List Int} (h : OwnRo w base v r l d) {k : Nat} (hk : blkRo v k) : base ≤ k ∧ k < w.heap.size := by
  obtain ⟨A, c, A2, c2, rfl, h1, h2, _⟩ := h.form
  rcases blkRo_iff.1 hk with e | e
  · exact LsO.up h1 k e
  · exact LsO.up h2 k e
theorem OwnRo.touch {w w' : World} {base : Nat} {v : Value} {r : Int} {l : List Rc} {d : List Int} {S : Nat → Prop} (h : OwnRo w base v r l d) (ht : Touch w w' S) (hne : ∀ k, blkRo v k → ¬ S k) : OwnRo w' base v r l d := by
  obtain ⟨A, c, A2, c2, rfl, h1, h2, h3⟩ := h.form
  exact ⟨A, c, A2, c2, rfl, LsO.touch h1 ht (fun k hk => hne k (blkRo_iff.2 (.inl hk))), LsO.touch h2 ht (fun k hk => hne k (blkRo_iff.2 (.inr hk))), h3⟩
/-- A recorder that bears the marks from M on: n of records, m of numbers. -/
structure MkRo (w : World) (base : Nat) (v : Value) (M n m : Nat) : Prop where
  form : ∃ r A c A2 c2, v = roV r (.slice A n c) (.slice A2 m c2) ∧ LsO 4 w base (.slice A n c) ((List.range n).map (mkRc M)) ∧ LsO 1 w base (.slice A2 m c2) ((List.range m).map (mkIn (M + 4 * n)))
theorem MkRo.touch {w w' : World} {base : Nat} {v : Value} {M n m : Nat} {S : Nat → Prop} (h : MkRo w base v M n m) (ht : Touch w w' S) (hne : ∀ k, blkRo v k → ¬ S k) : MkRo w' base v M n m := by
  obtain ⟨r, A, c, A2, c2, rfl, h1, h2⟩ := h.form
  exact ⟨r, A, c, A2, c2, rfl, LsO.touch h1 ht (fun k hk => hne k (blkRo_iff.2 (.inl hk))), LsO.touch h2 ht (fun k hk => hne k (blkRo_iff.2 (.inr hk)))⟩
theorem MkRo.more {w w' : World} {base : Nat} {v : Value} {M n m : Nat} (h : MkRo w base v M n m) (hb : Below w.heap.size w w') : MkRo w' base v M n m := by
  obtain ⟨r, A, c, A2, c2, rfl, h1, h2⟩ := h.form
  exact ⟨r, A, c, A2, c2, rfl, LsO.more h1 hb, LsO.more h2 hb⟩

set_option maxHeartbeats 1000000 in
theorem mark_ro (r : Int) (l : List Rc) (d : List Int) (hl : l.length ≤ 1100000) (hd : d.length ≤ 1100000) (v : Value) (base M : Nat) (hM1 : 1 ≤ M) (hM : M ≤ 5000000) (w : World) (h : OwnRo w base v r l d) :
    Calls Try.prog 18 #[v, .int .i64 (M : Int)] w fun e w' => e = .returned (.int .i64 ((M + 4 * l.length + d.length : Nat) : Int)) ∧ Touch w w' (blkRo v) ∧ MkRo w' base v M l.length d.length := by
  obtain ⟨A1, c1, B1, e1, rfl, o1, p1, ap⟩ := h.form
  have HF := Lib.hid (Fit.made w (roL r (.slice A1 l.length c1) (.slice B1 d.length e1)) 30)
  have HE := Lib.hid ((markRc_any _ base (.slice A1 l.length c1) (l.map rcC) (by rw [List.length_map]; exact hl) M hM1 (by omega) (LsO.more o1 HF.out.below)).mono fun e w' hh => (show e = .returned (.int .i64 ((M + 4 * l.length : Nat) : Int)) ∧ Touch (w.alloc (.cells (roL r (.slice A1 l.length c1) (.slice B1 d.length e1)).toArray 30)) w' (fun k => (Value.slice A1 l.length c1).ownBlock = some k) ∧ LsO 4 w' base (.slice A1 l.length c1) ((List.range l.length).map (mkRc M)) from by
    rw [List.length_map] at hh
    exact ⟨by rw [hh.1]; congr 2, Touch.of_grown hh.2.1, hh.2.2⟩))
  have HG := Lib.hid (fun W (hW : LsO 1 W base (.slice B1 d.length e1) (d.map inC)) => (markIn_any W base (.slice B1 d.length e1) (d.map inC) (by rw [List.length_map]; exact hd) (M + 4 * l.length) (by omega) (by omega) hW).mono fun e w' hh => (show e = .returned (.int .i64 ((M + 4 * l.length + d.length : Nat) : Int)) ∧ Touch W w' (fun k => (Value.slice B1 d.length e1).ownBlock = some k) ∧ LsO 1 w' base (.slice B1 d.length e1) ((List.range d.length).map (mkIn (M + 4 * l.length))) from by
    rw [List.length_map] at hh
    exact ⟨by rw [hh.1]; congr 2, Touch.of_grown hh.2.1, hh.2.2⟩))
  have HP := Lib.hid (LsO.more p1 HF.out.below)
  have hne : (Value.slice A1 l.length c1).ownBlock ≠ some w.heap.size := fun e => by have := (LsO.up o1 _ e).2; omega
  have HNE := Lib.hid hne
  have HAP := Lib.hid ap
  generalize hV : ((M + 4 * l.length : Nat) : Int) = V at *
  clear h o1 p1 ap hne
  go_enter Try.func18, Try.ntmps18
  go_wp2_with fail
  refine HE.out.mono ?_
  rintro e w1 ⟨rfl, ht1, hm1⟩
  have B1x := HF.out.box.touch ht1 HNE.out
  obtain ⟨k0, k1, k2⟩ := B1x.threeQ
  have HP1 := Lib.hid (LsO.touch HP.out ht1 (fun k hk e => HAP.out k e hk))
  have HT1 := Lib.hid ((Touch.of_below (HF.out.below) (blkRo (roV r (.slice A1 l.length c1) (.slice B1 d.length e1)))).trans (ht1.mono (fun k hk => blkRo_iff.2 (.inl hk))))
  have HM1 := Lib.hid hm1
  clear ht1 hm1 B1x
  subst hV
  go_wp2_with fail
  refine (HG.out _ HP1.out).mono ?_
  rintro e w2 ⟨rfl, ht2, hm2⟩
  have HT2 := Lib.hid (HT1.out.trans (ht2.mono (fun k hk => blkRo_iff.2 (.inr hk))))
  have HM2 := Lib.hid (LsO.touch HM1.out ht2 (fun k hk e => HAP.out k hk e))
  have HN2 := Lib.hid hm2
  clear ht2 hm2
  go_wp2
  go_ret
  exact ⟨rfl, HT2.out, ⟨r, A1, c1, B1, e1, rfl, HM2.out, HN2.out⟩⟩

set_option maxHeartbeats 1000000 in
theorem held_ro (n m : Nat) (hn : n ≤ 1100000) (hm : m ≤ 1100000) (v : Value) (base M : Nat) (hM1 : 1 ≤ M) (hM : M ≤ 5000000) (w : World) (h : MkRo w base v M n m) :
    Calls Try.prog 19 #[v, .int .i64 (M : Int)] w fun e w' => e = .returned (.int .i64 ((M + 4 * n + m : Nat) : Int)) ∧ Below w.heap.size w w' := by
  obtain ⟨r, A1, c1, B1, e1, rfl, h1, h2⟩ := h.form
  have HF := Lib.hid (Fit.made w (roL r (.slice A1 n c1) (.slice B1 m e1)) 30)
  have HE := Lib.hid ((heldRc_any _ base M (.slice A1 n c1) n hn (LsO.more h1 HF.out.below) hM1 (by omega)).mono fun e w' hh => (show e = .returned (.int .i64 ((M + 4 * n : Nat) : Int)) ∧ Fit w w' w.heap.size (roL r (.slice A1 n c1) (.slice B1 m e1)) from ⟨by rw [hh.1]; congr 2, HF.out.more hh.2⟩))
  have HG := Lib.hid (fun W (hb : Below w.heap.size w W) => (heldIn_any W base (M + 4 * n) (.slice B1 m e1) m hm (LsO.more h2 hb) (by omega) (by omega)).mono fun e w' hh => (show e = .returned (.int .i64 ((M + 4 * n + m : Nat) : Int)) ∧ Below W.heap.size W w' from ⟨by rw [hh.1]; congr 2, hh.2⟩))
  have hd1 : decide (((M + 4 * n : Nat) : Int) < 0) = false := decide_eq_false (by omega)
  have hd2 : decide (((M + 4 * n + m : Nat) : Int) < 0) = false := decide_eq_false (by omega)
  generalize ((M + 4 * n : Nat) : Int) = V at *
  generalize ((M + 4 * n + m : Nat) : Int) = V2 at *
  clear h h1 h2
  go_enter Try.func19, Try.ntmps19
  go_wp2_with fail
  refine HE.out.mono ?_
  rintro e w1 ⟨rfl, hf1⟩
  have F1 := Lib.hid hf1
  obtain ⟨k0, k1, k2⟩ := hf1.box.threeQ
  clear hf1
  go_wp2_with fail
  refine (HG.out _ F1.out.below).mono ?_
  rintro e w2 ⟨rfl, hb⟩
  have F2 := Lib.hid (F1.out.more hb)
  clear hb
  go_wp2
  go_ret
  exact ⟨rfl, F2.out.below⟩
end Go.Proofs.Ytebfefkknaalpab
