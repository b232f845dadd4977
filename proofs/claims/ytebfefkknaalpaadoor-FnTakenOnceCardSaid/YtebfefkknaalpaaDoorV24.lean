/- What this text proves: the parts HrZ of the proof, each under its own words. -/
import Derived.Test.YtebfefkknaalpaaDoorV22
import Derived.Test.YtebfefkknaalpaaDoorV23
import Derived.Test.YtebfefkknaalpaaDoorV05
/- What this text proves: the boxes of a drawn region that hands a sender's copy and a notice to a function and keeps its answer in a new box. -/
namespace Go.Proofs.YtebfefkknaalpaaDoor
open Go.ChangeShapes Go.WideShapes Go.ChangeAt Go.RowKit
set_option linter.unusedVariables false

/-- ZB, and the list of the copy, once it has been made. -/
structure ZH (b W : World) (bs : List (Nat × List Value)) (zo : Option (Nat × List Value)) (vo : Option Value) (l : List Sn) : Prop where
  zb : ZB b W bs zo
  own : ∀ v, vo = some v → OwnN W 0 v l
theorem ZH.more {b W W' : World} {bs : List (Nat × List Value)} {zo : Option (Nat × List Value)} {vo : Option Value} {l : List Sn} (h : ZH b W bs zo vo l) (hb : Below W.heap.size W W') : ZH b W' bs zo vo l :=
  ⟨h.zb.more hb, fun v e => OwnR.more (h.own v e) hb⟩
theorem ZH.drew {b W : World} {bs : List (Nat × List Value)} {zo : Option (Nat × List Value)} {vo : Option Value} {l : List Sn} (h : ZH b W bs zo vo l) : ZH b W.drew bs zo vo l := h.more (Below.refl _ _).drew
theorem ZH.alloc {b W : World} {bs : List (Nat × List Value)} {zo : Option (Nat × List Value)} {vo : Option Value} {l : List Sn} (h : ZH b W bs zo vo l) (o : Obj) : ZH b (W.alloc o) bs zo vo l := h.more ((Below.refl _ _).alloc (Nat.le_refl _) o)
theorem ZH.new {b W : World} {bs : List (Nat × List Value)} {zo : Option (Nat × List Value)} {vo : Option Value} {l : List Sn} (h : ZH b W bs zo vo l) (zs : List Value) (T : TypeId) : ZH b (W.alloc (.cells zs.toArray T)) bs (some (W.heap.size, zs)) vo l :=
  ⟨h.zb.new zs T, (h.alloc _).own⟩
theorem ZH.two {b W : World} {g k : Nat} {x0 x1 x2 x3 : Value} {y0 y1 y2 : Value} {zo : Option (Nat × List Value)} {vo : Option Value} {l : List Sn} (h : ZH b W [(g, [x0, x1, x2, x3]), (k, [y0, y1, y2])] zo vo l) :
    W.cell? ⟨g, 0, none⟩ = some x0 ∧ W.cell? ⟨g, 1, none⟩ = some x1 ∧ W.cell? ⟨g, 2, none⟩ = some x2 ∧ W.cell? ⟨g, 3, none⟩ = some x3 ∧ W.cell? ⟨k, 0, none⟩ = some y0 ∧ W.cell? ⟨k, 1, none⟩ = some y1 ∧ W.cell? ⟨k, 2, none⟩ = some y2 := h.zb.two
/-- What the region leaves: the answer in a new box, with a list of its own. -/
def KeptH (b wx : World) (bs : List (Nat × List Value)) (g : Nat) (v : Value) (L : List Sn) (us : List Value) : Prop := ZB b wx bs (some (g, us)) ∧ OwnO wx b.heap.size v L ∧ v.ownBlock ≠ some g
theorem ZB.finH_made {b W : World} {bs : List (Nat × List Value)} {zo : Option (Nat × List Value)} {base : Nat} {v : Value} {L : List Sn} (h : ZB b W bs zo) (ho : OwnO W base v L) (hb : b.heap.size ≤ base) (us : List Value) (T : TypeId) : KeptH b (W.alloc (.cells us.toArray T)) bs W.heap.size v L us :=
  ⟨h.new us T, (ho.lower hb).more ((Below.refl _ _).alloc (Nat.le_refl _) _), fun e => by have := (ho.up _ e).2; omega⟩
theorem ZB.finH_put {b W : World} {gz : Nat} {bs : List (Nat × List Value)} {z0 : List Value} {base : Nat} {v : Value} {L : List Sn} (h : ZB b W bs (some (gz, z0))) (ho : OwnO W base v L) (hb : b.heap.size ≤ base) (hg : gz < base) (us : List Value) (hl : us.length = z0.length) : KeptH b (W.setCells gz 0 us) bs gz v L us := by
  have hne : v.ownBlock ≠ some gz := fun e => by have := (ho.up _ e).1; omega
  exact ⟨h.put us hl, OwnO.cellsPast hne us 0 _ (ho.lower hb), hne⟩
/-- The two variables of the law. -/
structure FH (w W : World) (zs zn : List Value) : Prop where
  below : Below w.heap.size w W
  box : Box W w.heap.size zs
  nt : Box W (w.heap.size + 1) zn
theorem FH.made (w : World) (zs zn : List Value) (T U : TypeId) : FH w ((w.alloc (.cells zs.toArray T)).alloc (.cells zn.toArray U)) zs zn :=
  ⟨((Below.refl _ w).alloc (Nat.le_refl _) _).alloc (by simp) _, (Box.made w zs T _ rfl).alloc _, Box.made _ zn U _ (by simp)⟩
theorem FH.more {w W W' : World} {zs zn : List Value} (h : FH w W zs zn) (hb : Below W.heap.size W W') : FH w W' zs zn := ⟨h.below.trans (hb.mono h.below.size), h.box.more hb, h.nt.more hb⟩
theorem FH.zb {w W : World} {zs zn : List Value} (h : FH w W zs zn) : ZB W W [(w.heap.size, zs), (w.heap.size + 1, zn)] none := ZB.start2 h.box h.nt
theorem FH.of {w b W : World} {zs zn : List Value} {zo : Option (Nat × List Value)} (h : FH w b zs zn) (hz : ZB b W [(w.heap.size, zs), (w.heap.size + 1, zn)] zo) : FH w W zs zn :=
  h.more hz.below
theorem ZB.h {b W : World} {bs : List (Nat × List Value)} {zo : Option (Nat × List Value)} (h : ZB b W bs zo) (l : List Sn) : ZH b W bs zo none l := ⟨h, fun v e => by cases e⟩
theorem ZB.hv {b W : World} {bs : List (Nat × List Value)} {zo : Option (Nat × List Value)} {l : List Sn} {v : Value} {B : Nat} (h : ZB b W bs zo) (ho : OwnN W B v l) : ZH b W bs zo (some v) l := ⟨h, fun u e => by
  injection e with e
  subst e
  exact OwnR.lower ho (Nat.zero_le _)⟩
end Go.Proofs.YtebfefkknaalpaaDoor
