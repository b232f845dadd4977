/- What this text proves: the boxes of a region that calls with two variables and keeps the answer in a third, in whatever order; the boxes of a law over packers and packets. -/
import Derived.Test.YtegahdlfjdjcaabMarkG
namespace Go.Proofs.Ytegahdlfjdjcaab
open Go.ChangeShapes Go.WideShapes Go.ChangeAt Go.RowKit
set_option linter.unusedVariables false

/-- From world b on: two variables of b, at g1 and g2; zo: the third one, once it has been made. -/
structure ZZ (b W : World) (g1 g2 : Nat) (p x : List Value) (zo : Option (Nat × List Value)) : Prop where
  below : Below b.heap.size b W
  b1 : Box W g1 p
  b2 : Box W g2 x
  l1 : g1 < b.heap.size
  l2 : g2 < b.heap.size
  bz : ∀ z, zo = some z → Box W z.1 z.2 ∧ b.heap.size ≤ z.1
theorem ZZ.start {b : World} {g1 g2 : Nat} {p x : List Value} (h1 : Box b g1 p) (h2 : Box b g2 x) : ZZ b b g1 g2 p x none := ⟨Below.refl _ _, h1, h2, h1.lt, h2.lt, fun z e => by cases e⟩
theorem ZZ.more {b W W' : World} {g1 g2 : Nat} {p x : List Value} {zo : Option (Nat × List Value)} (h : ZZ b W g1 g2 p x zo) (hb : Below W.heap.size W W') : ZZ b W' g1 g2 p x zo :=
  ⟨h.below.trans (hb.mono h.below.size), h.b1.more hb, h.b2.more hb, h.l1, h.l2, fun z e => ⟨(h.bz z e).1.more hb, (h.bz z e).2⟩⟩
theorem ZZ.drew {b W : World} {g1 g2 : Nat} {p x : List Value} {zo : Option (Nat × List Value)} (h : ZZ b W g1 g2 p x zo) : ZZ b W.drew g1 g2 p x zo := h.more (Below.refl _ _).drew
theorem ZZ.alloc {b W : World} {g1 g2 : Nat} {p x : List Value} {zo : Option (Nat × List Value)} (h : ZZ b W g1 g2 p x zo) (o : Obj) : ZZ b (W.alloc o) g1 g2 p x zo := h.more ((Below.refl _ _).alloc (Nat.le_refl _) o)
theorem ZZ.new {b W : World} {g1 g2 : Nat} {p x : List Value} {zo : Option (Nat × List Value)} (h : ZZ b W g1 g2 p x zo) (zs : List Value) (T : TypeId) : ZZ b (W.alloc (.cells zs.toArray T)) g1 g2 p x (some (W.heap.size, zs)) :=
  ⟨(h.alloc _).below, (h.alloc _).b1, (h.alloc _).b2, h.l1, h.l2, fun z e => by
    obtain rfl : (W.heap.size, zs) = z := by injection e
    exact ⟨Box.made W zs T _ rfl, h.below.size⟩⟩
theorem ZZ.put {b W : World} {g1 g2 gz : Nat} {p x zs : List Value} (h : ZZ b W g1 g2 p x (some (gz, zs))) (us : List Value) (hl : us.length = zs.length) : ZZ b (W.setCells gz 0 us) g1 g2 p x (some (gz, us)) := by
  obtain ⟨hz, hf⟩ := h.bz _ rfl
  have l1 := h.l1
  have l2 := h.l2
  have hf' : b.heap.size ≤ gz := hf
  exact ⟨below_setCells hf' us 0 _ h.below, Box.allOther (W := W) (by omega) us 0 _ h.b1, Box.allOther (W := W) (by omega) us 0 _ h.b2, l1, l2, fun z e => by
    obtain rfl : (gz, us) = z := by injection e
    exact ⟨hz.all hl, hf⟩⟩
theorem ZZ.box {b W : World} {g1 g2 gz : Nat} {p x zs : List Value} (h : ZZ b W g1 g2 p x (some (gz, zs))) : Box W gz zs ∧ b.heap.size ≤ gz := h.bz _ rfl
theorem ZZ.cells43 {b W : World} {g1 g2 : Nat} {x0 x1 x2 x3 y0 y1 y2 : Value} {zo : Option (Nat × List Value)} (h : ZZ b W g1 g2 [x0, x1, x2, x3] [y0, y1, y2] zo) :
    W.cell? ⟨g1, 0, none⟩ = some x0 ∧ W.cell? ⟨g1, 1, none⟩ = some x1 ∧ W.cell? ⟨g1, 2, none⟩ = some x2 ∧ W.cell? ⟨g1, 3, none⟩ = some x3 ∧ W.cell? ⟨g2, 0, none⟩ = some y0 ∧ W.cell? ⟨g2, 1, none⟩ = some y1 ∧ W.cell? ⟨g2, 2, none⟩ = some y2 :=
  ⟨h.b1.cell 0 (by simp), h.b1.cell 1 (by simp), h.b1.cell 2 (by simp), h.b1.cell 3 (by simp), h.b2.cell 0 (by simp), h.b2.cell 1 (by simp), h.b2.cell 2 (by simp)⟩
theorem ZZ.cells54 {b W : World} {g1 g2 : Nat} {x0 x1 x2 x3 x4 y0 y1 y2 y3 : Value} {zo : Option (Nat × List Value)} (h : ZZ b W g1 g2 [x0, x1, x2, x3, x4] [y0, y1, y2, y3] zo) :
    W.cell? ⟨g1, 0, none⟩ = some x0 ∧ W.cell? ⟨g1, 1, none⟩ = some x1 ∧ W.cell? ⟨g1, 2, none⟩ = some x2 ∧ W.cell? ⟨g1, 3, none⟩ = some x3 ∧ W.cell? ⟨g1, 4, none⟩ = some x4 ∧ W.cell? ⟨g2, 0, none⟩ = some y0 ∧ W.cell? ⟨g2, 1, none⟩ = some y1 ∧ W.cell? ⟨g2, 2, none⟩ = some y2 ∧ W.cell? ⟨g2, 3, none⟩ = some y3 :=
  ⟨h.b1.cell 0 (by simp), h.b1.cell 1 (by simp), h.b1.cell 2 (by simp), h.b1.cell 3 (by simp), h.b1.cell 4 (by simp), h.b2.cell 0 (by simp), h.b2.cell 1 (by simp), h.b2.cell 2 (by simp), h.b2.cell 3 (by simp)⟩
theorem OwnI.cellsPast {b g : Nat} {v : Value} {l : List Int} (hg : g < b) : ∀ (us : List Value) (o : Nat) (W : World), OwnI W b v l → OwnI (W.setCells g o us) b v l := by
  intro us
  induction us with
  | nil => intro o W h; exact h
  | cons u r ih => intro o W h; exact ih _ _ (h.past hg u)
/-- What a region leaves: an answer in a box of its own, a slice of its own in it. -/
def Kept1 (b wx : World) (zs : Value → List Value) (l : List Int) (g : Nat) (v : Value) : Prop :=
  Below b.heap.size b wx ∧ Box wx g (zs v) ∧ b.heap.size ≤ g ∧ OwnI wx b.heap.size v l ∧ v.ownBlock ≠ some g
theorem ZZ.fin_made {b W : World} {g1 g2 n : Nat} {p x : List Value} {zo : Option (Nat × List Value)} (h : ZZ b W g1 g2 p x zo) (zs : Value → List Value) {v : Value} {l : List Int} (ho : OwnI W n v l) (hn : b.heap.size ≤ n) (T : TypeId) :
    Kept1 b (W.alloc (.cells (zs v).toArray T)) zs l W.heap.size v :=
  ⟨(h.alloc _).below, Box.made W (zs v) T _ rfl, h.below.size, (ho.lower hn).more ((Below.refl _ _).alloc (Nat.le_refl _) _), fun e => Nat.lt_irrefl _ (upto ho _ e)⟩
theorem ZZ.fin_put {b W : World} {g1 g2 gz n : Nat} {p x z0 : List Value} (h : ZZ b W g1 g2 p x (some (gz, z0))) (zs : Value → List Value) {v : Value} {l : List Int} (ho : OwnI W n v l) (hn : gz < n) (hl : (zs v).length = z0.length) :
    Kept1 b (W.setCells gz 0 (zs v)) zs l gz v :=
  ⟨(h.put _ hl).below, (h.put _ hl).box.1, h.box.2, (ho.cellsPast hn (zs v) 0 W).lower (by have := h.box.2; omega), fun e => by have := (World.ownsRow.lt ho _ e).1; omega⟩

/-- The boxes of a law over a packer and a packet. -/
structure LQ (w W : World) (n1 n2 gw gx gg : Nat) (p y zw zx zg : List Value) (vw vx vg : Value) (lw lx lg : List Int) : Prop where
  below : Below w.heap.size w W
  bp : Box W w.heap.size p
  by_ : Box W (w.heap.size + 1) y
  bw : Box W gw zw
  bx : Box W gx zx
  bg : Box W gg zg
  ow : OwnI W (w.heap.size + 2) vw lw
  uw : ∀ k, vw.ownBlock = some k → k < n1
  ox : OwnI W n1 vx lx
  ux : ∀ k, vx.ownBlock = some k → k < n2
  og : OwnI W n2 vg lg
  w1 : gw < n1
  x1 : n1 ≤ gx
  x2 : gx < n2
  g1 : n2 ≤ gg
  s1 : w.heap.size + 2 ≤ n1
  nx : vx.ownBlock ≠ some gx
  ng : vg.ownBlock ≠ some gg
  nz : n2 ≤ W.heap.size
theorem LQ.more {w W W' : World} {n1 n2 gw gx gg : Nat} {p y zw zx zg : List Value} {vw vx vg : Value} {lw lx lg : List Int} (h : LQ w W n1 n2 gw gx gg p y zw zx zg vw vx vg lw lx lg) (hb : Below W.heap.size W W') : LQ w W' n1 n2 gw gx gg p y zw zx zg vw vx vg lw lx lg :=
  ⟨h.below.trans (hb.mono h.below.size), h.bp.more hb, h.by_.more hb, h.bw.more hb, h.bx.more hb, h.bg.more hb, h.ow.more hb, h.uw, h.ox.more hb, h.ux, h.og.more hb, h.w1, h.x1, h.x2, h.g1, h.s1, h.nx, h.ng, Nat.le_trans h.nz hb.size⟩
theorem LQ.z1 {w W : World} {n1 n2 gw gx gg : Nat} {p y zw zx zg : List Value} {vw vx vg : Value} {lw lx lg : List Int} (h : LQ w W n1 n2 gw gx gg p y zw zx zg vw vx vg lw lx lg) : n1 ≤ W.heap.size := by
  have := h.x1
  have := h.x2
  have := h.nz
  omega
theorem LQ.markX {w W W' : World} {n1 n2 gw gx gg : Nat} {p y zw zx zg : List Value} {vw vx vg : Value} {lw lx lx' lg : List Int} (h : LQ w W n1 n2 gw gx gg p y zw zx zg vw vx vg lw lx lg) (ho : OwnI W' n1 vx lx') (hg : W.grownBy W' vx.ownBlock) : LQ w W' n1 n2 gw gx gg p y zw zx zg vw vx vg lw lx' lg := by
  have hlt := World.ownsRow.lt h.ox
  have a1 := h.w1
  have a2 := h.x1
  have a3 := h.x2
  have a4 := h.g1
  have a5 := h.s1
  have hne : ∀ k, k < n1 ∨ n2 ≤ k → vx.ownBlock ≠ some k := fun k hk e => by
    have h1 := (hlt k e).1
    have h2 := h.ux k e
    omega
  exact ⟨h.below.grown hg h.below.size (fun k hk => by have := (hlt k hk).1; omega), h.bp.grown hg (hne _ (by omega)), h.by_.grown hg (hne _ (by omega)), h.bw.grown hg (hne _ (by omega)), h.bx.grown hg h.nx, h.bg.grown hg (hne _ (by omega)),
    h.ow.grown hg (fun k hk => hne _ (by have := h.uw k hk; omega)), h.uw, ho, h.ux, h.og.grown hg (fun k hk => hne _ (by have := (World.ownsRow.lt h.og k hk).1; omega)), a1, a2, a3, a4, a5, h.nx, h.ng, Nat.le_trans h.nz hg.size⟩
theorem LQ.markG {w W W' : World} {n1 n2 gw gx gg : Nat} {p y zw zx zg : List Value} {vw vx vg : Value} {lw lx lg lg' : List Int} (h : LQ w W n1 n2 gw gx gg p y zw zx zg vw vx vg lw lx lg) (ho : OwnI W' n2 vg lg') (hg : W.grownBy W' vg.ownBlock) : LQ w W' n1 n2 gw gx gg p y zw zx zg vw vx vg lw lx lg' := by
  have hlt := World.ownsRow.lt h.og
  have a1 := h.w1
  have a2 := h.x1
  have a3 := h.x2
  have a4 := h.g1
  have a5 := h.s1
  have hne : ∀ k, k < n2 → vg.ownBlock ≠ some k := fun k hk e => by
    have h1 := (hlt k e).1
    omega
  exact ⟨h.below.grown hg h.below.size (fun k hk => by have := (hlt k hk).1; omega), h.bp.grown hg (hne _ (by omega)), h.by_.grown hg (hne _ (by omega)), h.bw.grown hg (hne _ (by omega)), h.bx.grown hg (hne _ (by omega)), h.bg.grown hg h.ng,
    h.ow.grown hg (fun k hk => hne _ (by have := h.uw k hk; omega)), h.uw, h.ox.grown hg (fun k hk => hne _ (by have := h.ux k hk; omega)), h.ux, ho, a1, a2, a3, a4, a5, h.nx, h.ng, Nat.le_trans h.nz hg.size⟩
end Go.Proofs.Ytegahdlfjdjcaab
