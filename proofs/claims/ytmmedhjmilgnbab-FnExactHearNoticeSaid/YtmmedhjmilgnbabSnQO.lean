/- What this text proves: the boxes of a law over senders whose answer's list lies somewhere in a block. -/
import Derived.Test.YtmmedhjmilgnbabSno
import Derived.Test.YtmmedhjmilgnbabRowC
namespace Go.Proofs.Ytmmedhjmilgnbab
open Go.ChangeShapes Go.WideShapes Go.ChangeAt Go.RowKit
set_option linter.unusedVariables false

structure SO (w W : World) (n0 n1 n2 gw gx gg : Nat) (zw zx zg : List Value) (vw vx vg : Value) (lw lx lg : List Sn) : Prop where
  below : Below w.heap.size w W
  n : w.heap.size ≤ n0
  bw : Box W gw zw
  bx : Box W gx zx
  bg : Box W gg zg
  ow : OwnO W n0 vw lw
  uw : ∀ k, vw.ownBlock = some k → k < n1
  ox : OwnN W n1 vx lx
  ux : ∀ k, vx.ownBlock = some k → k < n2
  og : OwnO W n2 vg lg
  w0 : n0 ≤ gw
  w1 : gw < n1
  x1 : n1 ≤ gx
  x2 : gx < n2
  g1 : n2 ≤ gg
  nx : vx.ownBlock ≠ some gx
  ng : vg.ownBlock ≠ some gg
  nz : n2 ≤ W.heap.size
theorem SO.more {w W W' : World} {n0 n1 n2 gw gx gg : Nat} {zw zx zg : List Value} {vw vx vg : Value} {lw lx lg : List Sn} (h : SO w W n0 n1 n2 gw gx gg zw zx zg vw vx vg lw lx lg) (hb : Below W.heap.size W W') : SO w W' n0 n1 n2 gw gx gg zw zx zg vw vx vg lw lx lg :=
  ⟨h.below.trans (hb.mono h.below.size), h.n, h.bw.more hb, h.bx.more hb, h.bg.more hb, OwnO.more h.ow hb, h.uw, OwnR.more h.ox hb, h.ux, OwnO.more h.og hb, h.w0, h.w1, h.x1, h.x2, h.g1, h.nx, h.ng, Nat.le_trans h.nz hb.size⟩
theorem SO.nzx {w W : World} {n0 n1 n2 gw gx gg : Nat} {zw zx zg : List Value} {vw vx vg : Value} {lw lx lg : List Sn} (h : SO w W n0 n1 n2 gw gx gg zw zx zg vw vx vg lw lx lg) : n1 ≤ W.heap.size := by
  have := h.x1
  have := h.x2
  have := h.nz
  omega
/-- The same, the argument's copy left out. -/
structure SO2 (w W : World) (n0 n1 n2 gw gg : Nat) (zw zg : List Value) (vw vg : Value) (lw lg : List Sn) : Prop where
  below : Below w.heap.size w W
  n : w.heap.size ≤ n0
  bw : Box W gw zw
  bg : Box W gg zg
  ow : OwnO W n0 vw lw
  uw : ∀ k, vw.ownBlock = some k → k < n1
  og : OwnO W n2 vg lg
  w0 : n0 ≤ gw
  w1 : gw < n1
  x : n1 < n2
  g1 : n2 ≤ gg
  ng : vg.ownBlock ≠ some gg
  nz : n2 ≤ W.heap.size
theorem SO2.more {w W W' : World} {n0 n1 n2 gw gg : Nat} {zw zg : List Value} {vw vg : Value} {lw lg : List Sn} (h : SO2 w W n0 n1 n2 gw gg zw zg vw vg lw lg) (hb : Below W.heap.size W W') : SO2 w W' n0 n1 n2 gw gg zw zg vw vg lw lg :=
  ⟨h.below.trans (hb.mono h.below.size), h.n, h.bw.more hb, h.bg.more hb, OwnO.more h.ow hb, h.uw, OwnO.more h.og hb, h.w0, h.w1, h.x, h.g1, h.ng, Nat.le_trans h.nz hb.size⟩
theorem SO.neX {w W : World} {n0 n1 n2 gw gx gg : Nat} {zw zx zg : List Value} {vw vx vg : Value} {lw lx lg : List Sn} (h : SO w W n0 n1 n2 gw gx gg zw zx zg vw vx vg lw lx lg) (k : Nat) (hk : k < n1 ∨ n2 ≤ k) : vx.ownBlock ≠ some k := fun e => by
  have h1 := (OwnR.upto h.ox k e).1
  have h2 := h.ux k e
  omega
theorem SO.markX {w W W' : World} {n0 n1 n2 gw gx gg : Nat} {zw zx zg : List Value} {vw vx vg : Value} {lw lx lg : List Sn} (h : SO w W n0 n1 n2 gw gx gg zw zx zg vw vx vg lw lx lg) (hg : W.grownBy W' vx.ownBlock) : SO2 w W' n0 n1 n2 gw gg zw zg vw vg lw lg := by
  have a0 := h.n
  have aw := h.w0
  have a1 := h.w1
  have a2 := h.x1
  have a3 := h.x2
  have a4 := h.g1
  have hne := h.neX
  exact ⟨h.below.grown hg h.below.size (fun k hk => by have := (OwnR.upto h.ox k hk).1; omega), a0, h.bw.grown hg (hne _ (by omega)), h.bg.grown hg (hne _ (by omega)),
    OwnO.grown h.ow hg (fun k hk => hne _ (by have := h.uw k hk; omega)), h.uw, OwnO.grown h.og hg (fun k hk => hne _ (by have := (OwnO.up h.og k hk).1; omega)), aw, a1, by omega, a4, h.ng, Nat.le_trans h.nz hg.size⟩
theorem SO.argX {w W W' : World} {n0 n1 n2 gw gx gg g : Nat} {zw zx zg p : List Value} {vw vx vg : Value} {lw lx lg : List Sn} (h : SO w W n0 n1 n2 gw gx gg zw zx zg vw vx vg lw lx lg) (hp : Box W g p) (hl : g < n0) (hg : W.grownBy W' vx.ownBlock) : Box W' g p :=
  hp.grown hg (h.neX _ (by have := h.w0; have := h.w1; omega))
theorem SO2.neG {w W : World} {n0 n1 n2 gw gg : Nat} {zw zg : List Value} {vw vg : Value} {lw lg : List Sn} (h : SO2 w W n0 n1 n2 gw gg zw zg vw vg lw lg) (k : Nat) (hk : k < n2) : vg.ownBlock ≠ some k := fun e => by
  have h1 := (OwnO.up h.og k e).1
  omega
/-- The model's answer alone, and the program's as a box. -/
structure SO3 (w W : World) (n0 gw gg : Nat) (zw zg : List Value) (vw : Value) (lw : List Sn) : Prop where
  below : Below w.heap.size w W
  bw : Box W gw zw
  bg : Box W gg zg
  ow : OwnO W n0 vw lw
theorem SO3.more {w W W' : World} {n0 gw gg : Nat} {zw zg : List Value} {vw : Value} {lw : List Sn} (h : SO3 w W n0 gw gg zw zg vw lw) (hb : Below W.heap.size W W') : SO3 w W' n0 gw gg zw zg vw lw :=
  ⟨h.below.trans (hb.mono h.below.size), h.bw.more hb, h.bg.more hb, OwnO.more h.ow hb⟩
theorem SO2.markG {w W W' : World} {n0 n1 n2 gw gg : Nat} {zw zg : List Value} {vw vg : Value} {lw lg : List Sn} (h : SO2 w W n0 n1 n2 gw gg zw zg vw vg lw lg) (hg : W.grownBy W' vg.ownBlock) : SO3 w W' n0 gw gg zw zg vw lw := by
  have a0 := h.n
  have aw := h.w0
  have a1 := h.w1
  have a2 := h.x
  have hne := h.neG
  exact ⟨h.below.grown hg h.below.size (fun k hk => by have := (OwnO.up h.og k hk).1; omega), h.bw.grown hg (hne _ (by omega)), h.bg.grown hg h.ng, OwnO.grown h.ow hg (fun k hk => hne _ (by have := h.uw k hk; omega))⟩
theorem SO2.argG {w W W' : World} {n0 n1 n2 gw gg g : Nat} {zw zg p : List Value} {vw vg : Value} {lw lg : List Sn} (h : SO2 w W n0 n1 n2 gw gg zw zg vw vg lw lg) (hp : Box W g p) (hl : g < n0) (hg : W.grownBy W' vg.ownBlock) : Box W' g p :=
  hp.grown hg (h.neG _ (by have := h.w0; have := h.w1; have := h.x; omega))
end Go.Proofs.Ytmmedhjmilgnbab
