/- What this text proves: the boxes of a law over recorders: the argument, the model's answer, the argument's copy, the program's answer, each with lists of its own; what marks leave of them. -/
import Derived.Test.YtebfefkknaalpabRoK
namespace Go.Proofs.Ytebfefkknaalpab
open Go.ChangeShapes Go.WideShapes Go.ChangeAt Go.RowKit
set_option linter.unusedVariables false

structure TQ (w W : World) (n0 n1 n2 gw gx gg : Nat) (za zw zx zg : List Value) (vw uw vx vg ug : Value) (r : Int) (l L T : List Rc) (d D : List Int) : Prop where
  below : Below w.heap.size w W
  n : w.heap.size < n0
  ba : Box W w.heap.size za
  bw : Box W gw zw
  bx : Box W gx zx
  bg : Box W gg zg
  ow : OwnRo W n0 vw r L D
  ow2 : OwnRc W n0 uw T
  kw : ∀ k, blkRo vw k → k < n1
  kw2 : ∀ k, uw.ownBlock = some k → k < n1
  ox : OwnRo W n1 vx r l d
  kx : ∀ k, blkRo vx k → k < n2
  og : OwnRo W n2 vg r L D
  og2 : OwnRc W n2 ug T
  sep : ∀ k, blkRo vg k → ug.ownBlock ≠ some k
  w0 : n0 ≤ gw
  w1 : gw < n1
  x1 : n1 ≤ gx
  x2 : gx < n2
  g1 : n2 ≤ gg
  ng : ¬ blkRo vg gg
  ng2 : ug.ownBlock ≠ some gg
  nx : ¬ blkRo vx gx
theorem TQ.more {w W W' : World} {n0 n1 n2 gw gx gg : Nat} {za zw zx zg : List Value} {vw uw vx vg ug : Value} {r : Int} {l L T : List Rc} {d D : List Int} (h : TQ w W n0 n1 n2 gw gx gg za zw zx zg vw uw vx vg ug r l L T d D) (hb : Below W.heap.size W W') : TQ w W' n0 n1 n2 gw gx gg za zw zx zg vw uw vx vg ug r l L T d D :=
  ⟨h.below.trans (hb.mono h.below.size), h.n, h.ba.more hb, h.bw.more hb, h.bx.more hb, h.bg.more hb, h.ow.more hb, LsO.more h.ow2 hb, h.kw, h.kw2, h.ox.more hb, h.kx, h.og.more hb, LsO.more h.og2 hb, h.sep, h.w0, h.w1, h.x1, h.x2, h.g1, h.ng, h.ng2, h.nx⟩
/-- The same, the argument's copy left out. -/
structure TQ2 (w W : World) (n0 n1 n2 gw gg : Nat) (za zw zg : List Value) (vw uw vg ug : Value) (r : Int) (L T : List Rc) (D : List Int) : Prop where
  below : Below w.heap.size w W
  n : w.heap.size < n0
  ba : Box W w.heap.size za
  bw : Box W gw zw
  bg : Box W gg zg
  ow : OwnRo W n0 vw r L D
  ow2 : OwnRc W n0 uw T
  kw : ∀ k, blkRo vw k → k < n1
  kw2 : ∀ k, uw.ownBlock = some k → k < n1
  og : OwnRo W n2 vg r L D
  og2 : OwnRc W n2 ug T
  sep : ∀ k, blkRo vg k → ug.ownBlock ≠ some k
  w0 : n0 ≤ gw
  w1 : gw < n1
  x : n1 < n2
  g1 : n2 ≤ gg
  ng : ¬ blkRo vg gg
  ng2 : ug.ownBlock ≠ some gg
theorem TQ2.more {w W W' : World} {n0 n1 n2 gw gg : Nat} {za zw zg : List Value} {vw uw vg ug : Value} {r : Int} {L T : List Rc} {D : List Int} (h : TQ2 w W n0 n1 n2 gw gg za zw zg vw uw vg ug r L T D) (hb : Below W.heap.size W W') : TQ2 w W' n0 n1 n2 gw gg za zw zg vw uw vg ug r L T D :=
  ⟨h.below.trans (hb.mono h.below.size), h.n, h.ba.more hb, h.bw.more hb, h.bg.more hb, h.ow.more hb, LsO.more h.ow2 hb, h.kw, h.kw2, h.og.more hb, LsO.more h.og2 hb, h.sep, h.w0, h.w1, h.x, h.g1, h.ng, h.ng2⟩
theorem TQ.markX {w W W' : World} {n0 n1 n2 gw gx gg : Nat} {za zw zx zg : List Value} {vw uw vx vg ug : Value} {r : Int} {l L T : List Rc} {d D : List Int} (h : TQ w W n0 n1 n2 gw gx gg za zw zx zg vw uw vx vg ug r l L T d D) (ht : Touch W W' (blkRo vx)) : TQ2 w W' n0 n1 n2 gw gg za zw zg vw uw vg ug r L T D := by
  have a0 := h.n; have a1 := h.w0; have a2 := h.w1; have a3 := h.x1; have a4 := h.x2; have a5 := h.g1
  have lo : ∀ k, blkRo vx k → n1 ≤ k ∧ k < n2 := fun k hk => ⟨(h.ox.blk hk).1, h.kx k hk⟩
  have no : ∀ k, (k < n1 ∨ n2 ≤ k) → ¬ blkRo vx k := fun k hk e => by have := lo k e; omega
  exact ⟨h.below.trans (ht.below (fun k hk => by have := lo k hk; omega) h.below.size), h.n, h.ba.touch ht (no _ (by omega)), h.bw.touch ht (no _ (by omega)), h.bg.touch ht (no _ (by omega)),
    h.ow.touch ht (fun k hk => no k (by have := h.kw k hk; omega)), LsO.touch h.ow2 ht (fun k hk => no k (by have := h.kw2 k hk; omega)), h.kw, h.kw2,
    h.og.touch ht (fun k hk => no k (by have := (h.og.blk hk).1; omega)), LsO.touch h.og2 ht (fun k hk => no k (by have := (LsO.up h.og2 k hk).1; omega)), h.sep, h.w0, h.w1, by omega, h.g1, h.ng, h.ng2⟩
/-- The model's answer, the program's second list, and its box. -/
structure TQ3 (w W : World) (n0 n1 n2 gw gg : Nat) (za zw zg : List Value) (vw uw ug : Value) (r : Int) (L T : List Rc) (D : List Int) : Prop where
  below : Below w.heap.size w W
  n : w.heap.size < n0
  ba : Box W w.heap.size za
  bw : Box W gw zw
  bg : Box W gg zg
  ow : OwnRo W n0 vw r L D
  ow2 : OwnRc W n0 uw T
  kw : ∀ k, blkRo vw k → k < n1
  kw2 : ∀ k, uw.ownBlock = some k → k < n1
  og2 : OwnRc W n2 ug T
  w1 : gw < n1
  x : n1 < n2
  n01 : n0 ≤ n1
  ng2 : ug.ownBlock ≠ some gg
theorem TQ3.more {w W W' : World} {n0 n1 n2 gw gg : Nat} {za zw zg : List Value} {vw uw ug : Value} {r : Int} {L T : List Rc} {D : List Int} (h : TQ3 w W n0 n1 n2 gw gg za zw zg vw uw ug r L T D) (hb : Below W.heap.size W W') : TQ3 w W' n0 n1 n2 gw gg za zw zg vw uw ug r L T D :=
  ⟨h.below.trans (hb.mono h.below.size), h.n, h.ba.more hb, h.bw.more hb, h.bg.more hb, h.ow.more hb, LsO.more h.ow2 hb, h.kw, h.kw2, LsO.more h.og2 hb, h.w1, h.x, h.n01, h.ng2⟩
theorem TQ2.markG {w W W' : World} {n0 n1 n2 gw gg : Nat} {za zw zg : List Value} {vw uw vg ug : Value} {r : Int} {L T : List Rc} {D : List Int} (h : TQ2 w W n0 n1 n2 gw gg za zw zg vw uw vg ug r L T D) (ht : Touch W W' (blkRo vg)) : TQ3 w W' n0 n1 n2 gw gg za zw zg vw uw ug r L T D := by
  have a0 := h.n; have a1 := h.w0; have a2 := h.w1; have a3 := h.x; have a5 := h.g1
  have no : ∀ k, k < n2 → ¬ blkRo vg k := fun k hk e => by have := (h.og.blk e).1; omega
  exact ⟨h.below.trans (ht.below (fun k hk => by have := (h.og.blk hk).1; omega) h.below.size), h.n, h.ba.touch ht (no _ (by omega)), h.bw.touch ht (no _ (by omega)), h.bg.touch ht h.ng,
    h.ow.touch ht (fun k hk => no k (by have := h.kw k hk; omega)), LsO.touch h.ow2 ht (fun k hk => no k (by have := h.kw2 k hk; omega)), h.kw, h.kw2,
    LsO.touch h.og2 ht (fun k hk e => h.sep k e hk), h.w1, h.x, by omega, h.ng2⟩
/-- The model's answer, and the program's box. -/
structure TQ4 (w W : World) (n0 gw gg : Nat) (za zw zg : List Value) (vw uw : Value) (r : Int) (L T : List Rc) (D : List Int) : Prop where
  below : Below w.heap.size w W
  ba : Box W w.heap.size za
  bw : Box W gw zw
  bg : Box W gg zg
  ow : OwnRo W n0 vw r L D
  ow2 : OwnRc W n0 uw T
theorem TQ4.more {w W W' : World} {n0 gw gg : Nat} {za zw zg : List Value} {vw uw : Value} {r : Int} {L T : List Rc} {D : List Int} (h : TQ4 w W n0 gw gg za zw zg vw uw r L T D) (hb : Below W.heap.size W W') : TQ4 w W' n0 gw gg za zw zg vw uw r L T D :=
  ⟨h.below.trans (hb.mono h.below.size), h.ba.more hb, h.bw.more hb, h.bg.more hb, h.ow.more hb, LsO.more h.ow2 hb⟩
theorem TQ3.markU {w W W' : World} {n0 n1 n2 gw gg : Nat} {za zw zg : List Value} {vw uw ug : Value} {r : Int} {L T : List Rc} {D : List Int} (h : TQ3 w W n0 n1 n2 gw gg za zw zg vw uw ug r L T D) (ht : Touch W W' (fun k => ug.ownBlock = some k)) : TQ4 w W' n0 gw gg za zw zg vw uw r L T D := by
  have a0 := h.n; have a2 := h.w1; have a3 := h.x; have a4 := h.n01
  have no : ∀ k, k < n2 → ¬ ug.ownBlock = some k := fun k hk e => by have := (LsO.up h.og2 k e).1; omega
  exact ⟨h.below.trans (ht.below (fun k hk => by have := (LsO.up h.og2 k hk).1; omega) h.below.size), h.ba.touch ht (no _ (by omega)), h.bw.touch ht (no _ (by omega)), h.bg.touch ht h.ng2,
    h.ow.touch ht (fun k hk => no k (by have := h.kw k hk; omega)), LsO.touch h.ow2 ht (fun k hk => no k (by have := h.kw2 k hk; omega))⟩
theorem TQ3.to4 {w W : World} {n0 n1 n2 gw gg : Nat} {za zw zg : List Value} {vw uw ug : Value} {r : Int} {L T : List Rc} {D : List Int} (h : TQ3 w W n0 n1 n2 gw gg za zw zg vw uw ug r L T D) : TQ4 w W n0 gw gg za zw zg vw uw r L T D := ⟨h.below, h.ba, h.bw, h.bg, h.ow, h.ow2⟩
end Go.Proofs.Ytebfefkknaalpab
