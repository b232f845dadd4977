/- What this text proves: what pushing a list of frames answers, as numbers, bytes and packets; the boxes of a walk over it. -/
import Derived.Test.YtegahdlfjdjcaabPshM
import Derived.Test.YtegahdlfjdjcaabFrmS
import Derived.Test.YtegahdlfjdjcaabRowA
namespace Go.Proofs.Ytegahdlfjdjcaab
open Go.ChangeShapes Go.WideShapes Go.ChangeAt Go.RowKit
set_option linter.unusedVariables false

theorem itP_both (r0 : ByteArray) (k : Nat) : 4 * (itP r0 k).1.length + (itP r0 k).2.size ≤ r0.size := by
  induction k with
  | zero => show 4 * ([] : List Pk).length + r0.size ≤ r0.size; simp
  | succ k ih =>
    simp only [itP]
    cases ho : okP (itP r0 k).2
    · exact ih
    · have h := okP_len ho
      simp only [cond_true, List.length_append, ByteArray.size_extract]
      split <;> simp <;> omega
theorem takeP_both (r0 : ByteArray) : 4 * (takeP r0).1.length + (takeP r0).2.size ≤ r0.size := itP_both r0 _
abbrev Fr4 := Int × Int × Int × ByteArray
theorem puS_both (c n : Int) (s : Bool × ByteArray × Int) (f : Fr4) : 4 * (puL c n s f).length + (puS c n s f).2.1.size ≤ s.2.1.size + f.2.2.2.size := by
  unfold puL puS
  split
  · have h1 := g1_size (n := n) (co := f.2.1) (s := s)
    have h2 := g2_size (fi := f.2.2.1) (d := f.2.2.2) (s := g1 n f.2.1 s)
    have h3 := takeP_both (g2 f.2.2.1 f.2.2.2 (g1 n f.2.1 s)).2.1
    unfold g3
    split
    · show 4 * _ + 0 ≤ _
      omega
    · show 4 * _ + (takeP (g2 f.2.2.1 f.2.2.2 (g1 n f.2.1 s)).2.1).2.size ≤ _
      omega
  · simp only [List.length_nil]; omega
/-- An unpacker's Next, Synced, Rest, Lost. -/
abbrev Un4 := Int × Bool × ByteArray × Int
noncomputable def oneS (c : Int) (t : Un4) (f : Fr4) : Un4 := (puN c t.1 t.2 f, puS c t.1 t.2 f)
abbrev fr0 : Fr4 := (0, 0, 0, ⟨#[]⟩)
noncomputable def stP (c : Int) (t : Un4) (fs : List Fr4) : Nat → Un4
  | 0 => t
  | k + 1 => oneS c (stP c t fs k) (fs.getD k fr0)
noncomputable def plP (c : Int) (t : Un4) (fs : List Fr4) : Nat → List Pk
  | 0 => []
  | k + 1 => plP c t fs k ++ puL c (stP c t fs k).1 (stP c t fs k).2 (fs.getD k fr0)
def totD (fs : List Fr4) : Nat → Nat
  | 0 => 0
  | k + 1 => totD fs k + (fs.getD k fr0).2.2.2.size
theorem totD_le (fs : List Fr4) {j k : Nat} (h : j ≤ k) : totD fs j ≤ totD fs k := by
  induction k with
  | zero => obtain rfl : j = 0 := by omega
            exact Nat.le_refl _
  | succ k ih =>
    rcases Nat.lt_or_ge j (k + 1) with h1 | h1
    · exact Nat.le_trans (ih (by omega)) (Nat.le_add_right _ _)
    · obtain rfl : j = k + 1 := by omega
      exact Nat.le_refl _
theorem plP_len (c : Int) (t : Un4) (fs : List Fr4) (k : Nat) : 4 * (plP c t fs k).length + (stP c t fs k).2.2.1.size ≤ t.2.2.1.size + totD fs k := by
  induction k with
  | zero => show 4 * ([] : List Pk).length + t.2.2.1.size ≤ t.2.2.1.size + 0; simp
  | succ k ih =>
    have h := puS_both c (stP c t fs k).1 (stP c t fs k).2 (fs.getD k fr0)
    simp only [plP, stP, oneS, totD, List.length_append]
    omega
theorem getD_at {fs : List Fr4} {k : Nat} (h : k < fs.length) : fs.getD k fr0 = fs[k] := by simp [List.getD_eq_getElem?_getD, h]

theorem OwnR.at {E : TypeId} {sz : Nat} {W : World} {base n c : Nat} {A : Option Addr} {l : List (List Value)} (h : OwnR E sz W base (.slice A n c) l) : RowsAt W A l := by
  have h1 := h.1
  rcases h1.2 with ⟨_, hn⟩ | ⟨g, cap, cur, hv, _⟩
  · exact .inl hn
  · injection hv with hA hn hc
    subst hA
    subst hn
    subst hc
    refine .inr ⟨g, 0, rfl, fun j u hu => ?_⟩
    have hj : j < l.length * sz := by
      rw [← flat_len h.2]
      rcases Nat.lt_or_ge j l.flatten.length with h2 | h2
      · exact h2
      · rw [List.getElem?_eq_none h2] at hu; cases hu
    rw [Nat.zero_add, World.ownsRow.cellAt h1 j hj]
    exact hu

/-- The boxes of a walk over PushFrames: the unpacker, the answer; the packets. -/
structure TP (w W : World) (p r : List Value) (v : Value) (ps : List Pk) : Prop where
  below : Below w.heap.size w W
  bp : Box W w.heap.size p
  br : Box W (w.heap.size + 1) r
  ow : OwnP W (w.heap.size + 2) v ps
theorem TP.far {w W : World} {p r : List Value} {v : Value} {ps : List Pk} (h : TP w W p r v ps) : w.heap.size + 2 ≤ W.heap.size := h.br.lt
theorem TP.more {w W W' : World} {p r : List Value} {v : Value} {ps : List Pk} (h : TP w W p r v ps) (hb : Below W.heap.size W W') : TP w W' p r v ps :=
  ⟨h.below.trans (hb.mono h.below.size), h.bp.more hb, h.br.more hb, OwnR.more h.ow hb⟩
theorem TP.putP {w W : World} {p r : List Value} {v : Value} {ps : List Pk} (h : TP w W p r v ps) (us : List Value) (hl : us.length = p.length) : TP w (W.setCells w.heap.size 0 us) us r v ps :=
  ⟨below_setCells (Nat.le_refl _) us 0 W h.below, h.bp.all hl, Box.allOther (W := W) (by omega) us 0 _ h.br, OwnR.cellsAway (fun e => by have := (OwnR.upto h.ow _ e).1; omega) us 0 _ h.ow⟩
theorem TP.fin {w W : World} {p r : List Value} {v : Value} {ps : List Pk} (h : TP w W p r v ps) (us : List Value) (hl : us.length = r.length) :
    Box (W.setCells (w.heap.size + 1) 0 us) (w.heap.size + 1) us ∧ OwnP (W.setCells (w.heap.size + 1) 0 us) w.heap.size v ps ∧ Below w.heap.size w (W.setCells (w.heap.size + 1) 0 us) :=
  ⟨h.br.all hl, OwnR.lower (OwnR.cellsAway (fun e => by have := (OwnR.upto h.ow _ e).1; omega) us 0 _ h.ow) (by omega), below_setCells (by omega) us 0 W h.below⟩
theorem TP.app {w W W' : World} {p r : List Value} {v v3 : Value} {ps ps' : List Pk} (h : TP w W p r v ps) (ho : OwnP W' (w.heap.size + 2) v3 ps') (hg : W.grownBy W' v.ownBlock) : TP w W' p r v3 ps' := by
  have hne : ∀ k, k < w.heap.size + 2 → v.ownBlock ≠ some k := fun k hk e => by have := (OwnR.upto h.ow k e).1; omega
  exact ⟨h.below.grown hg h.below.size (fun k hk => by have := (OwnR.upto h.ow k hk).1; omega), h.bp.grown hg (hne _ (by omega)), h.br.grown hg (hne _ (by omega)), ho⟩
/-- What PushFrames answers. -/
def PushesEnd (c : Int) (t : Un4) (fs : List Fr4) (w : World) (e : Ending) (w' : World) : Prop :=
  ∃ v, e = .returned (.tuple #[unW c (stP c t fs fs.length).1 (stP c t fs fs.length).2, v]) ∧ OwnP w' w.heap.size v (plP c t fs fs.length) ∧ Below w.heap.size w w'
end Go.Proofs.Ytegahdlfjdjcaab
