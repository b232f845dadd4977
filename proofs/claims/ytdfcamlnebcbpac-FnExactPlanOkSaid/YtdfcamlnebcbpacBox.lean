/- What this text proves: the cells of a struct in a block: what lies there stays, whatever else is made; what a store leaves. -/
import Derived.Test.YtdfcamlnebcbpacLaw
import Derived.WalkKit
import Derived.Laws.IdiomCopy
import Derived.Lib.Hide
namespace Go.Proofs.Ytdfcamlnebcbpac
open Go.ChangeShapes Go.WideShapes Go.ChangeAt Go.RowKit
set_option linter.unusedVariables false

/-- Block g holds the cells vs, and no string shares them. -/
structure Box (W : World) (g : Nat) (vs : List Value) : Prop where
  lt : g < W.heap.size
  cell : ∀ j (h : j < vs.length), W.cell? ⟨g, j, none⟩ = some vs[j]
  ice : ∀ j, W.frozen? ⟨g, j, none⟩ = false
theorem Box.more {W W' : World} {g : Nat} {vs : List Value} (h : Box W g vs) (hb : Below W.heap.size W W') : Box W' g vs :=
  ⟨Nat.lt_of_lt_of_le h.lt hb.size, fun j hj => (hb.cell (p := ⟨g, j, none⟩) h.lt).trans (h.cell j hj), fun j => (hb.frozen (p := ⟨g, j, none⟩) h.lt).trans (h.ice j)⟩
theorem Box.moreAt {W W' : World} {g n : Nat} {vs : List Value} (h : Box W g vs) (hb : Below n W W') (hg : g < n) (hz : W.heap.size ≤ W'.heap.size) : Box W' g vs :=
  ⟨Nat.lt_of_lt_of_le h.lt hz, fun j hj => (hb.cell (p := ⟨g, j, none⟩) hg).trans (h.cell j hj), fun j => (hb.frozen (p := ⟨g, j, none⟩) hg).trans (h.ice j)⟩
theorem Box.alloc {W : World} {g : Nat} {vs : List Value} (h : Box W g vs) (o : Obj) : Box (W.alloc o) g vs := h.more ((Below.refl _ _).alloc (Nat.le_refl _) o)
theorem Box.drew {W : World} {g : Nat} {vs : List Value} (h : Box W g vs) : Box W.drew g vs := h.more (Below.refl _ _).drew
theorem Box.drewN {W : World} {g : Nat} {vs : List Value} (h : Box W g vs) (n : Nat) : Box (W.drewN n) g vs := h.more (below_draws (Below.refl _ _) n)
theorem Box.made (w : World) (vs : List Value) (T : TypeId) (g : Nat) (hg : g = w.heap.size) : Box (w.alloc (.cells vs.toArray T)) g vs := by
  subst hg
  refine ⟨by simp, fun j hj => ?_, fun j => World.frozen?_alloc_at _ _ _ _ rfl⟩
  rw [World.cell?_alloc_at _ _ _ _ rfl]
  simp [hj]
theorem Box.set {W : World} {g : Nat} {vs : List Value} (h : Box W g vs) (j : Nat) (hj : j < vs.length) (v : Value) : Box (W.setCell ⟨g, j, none⟩ v) g (vs.set j v) := by
  refine ⟨by simpa using h.lt, fun i hi => ?_, fun i => by rw [World.frozen?_setCell]; exact h.ice i⟩
  rw [List.length_set] at hi
  rw [List.getElem_set]
  by_cases e : j = i
  · rw [if_pos e]
    subst e
    exact World.cell?_setCell_same _ _ _ (h.cell j hj)
  · rw [if_neg e, World.cell?_setCell_other _ _ _ _ (fun he => e (congrArg Addr.off he))]
    exact h.cell i hi
theorem Box.other {W : World} {g ga : Nat} {vs : List Value} (h : Box W g vs) (hne : ga ≠ g) (j : Nat) (v : Value) : Box (W.setCell ⟨ga, j, none⟩ v) g vs := by
  refine ⟨by simpa using h.lt, fun i hi => ?_, fun i => by rw [World.frozen?_setCell]; exact h.ice i⟩
  rw [World.cell?_setCell_other _ _ _ _ (fun he => hne (congrArg Addr.block he))]
  exact h.cell i hi
/-- All cells are stored. -/
theorem Box.all {W : World} {g : Nat} {vs us : List Value} (h : Box W g vs) (hl : us.length = vs.length) : Box (W.setCells g 0 us) g us := by
  have hs : ∀ (us : List Value) (o : Nat) (W : World), (W.setCells g o us).heap.size = W.heap.size := by
    intro us
    induction us with
    | nil => intro o W; rfl
    | cons v r ih => intro o W; exact (ih _ _).trans (by simp)
  refine ⟨by rw [hs]; exact h.lt, fun j hj => ?_, fun j => by rw [World.frozen?_setCells]; exact h.ice j⟩
  have := World.cell?_setCells_in g us 0 W (fun i hi => by rw [Nat.zero_add, h.cell i (by omega)]; rfl) j hj
  rwa [Nat.zero_add] at this
theorem Box.allOther {W : World} {g ga : Nat} {vs : List Value} (hne : ga ≠ g) : ∀ (us : List Value) (o : Nat) (W : World), Box W g vs → Box (W.setCells ga o us) g vs := by
  intro us
  induction us with
  | nil => intro o W h; exact h
  | cons v r ih => intro o W h; exact ih _ _ (h.other hne _ _)
theorem below_setCells {B : Nat} {w : World} {ga : Nat} (hg : B ≤ ga) : ∀ (us : List Value) (o : Nat) (W : World), Below B w W → Below B w (W.setCells ga o us) := by
  intro us
  induction us with
  | nil => intro o W h; exact h
  | cons v r ih => intro o W h; exact ih _ _ (h.setCell (p := ⟨ga, o, none⟩) hg v)
end Go.Proofs.Ytdfcamlnebcbpac
