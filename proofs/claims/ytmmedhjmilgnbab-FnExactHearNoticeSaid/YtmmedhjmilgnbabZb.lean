/- What this text proves: the boxes of a region that calls with some variables and keeps the answer in a new one, in whatever order. -/
import Derived.Test.YtmmedhjmilgnbabRcv
namespace Go.Proofs.Ytmmedhjmilgnbab
open Go.ChangeShapes Go.WideShapes Go.ChangeAt Go.RowKit
set_option linter.unusedVariables false

/-- From world b on: variables of b; zo: the new one, once it has been made. -/
structure ZB (b W : World) (bs : List (Nat × List Value)) (zo : Option (Nat × List Value)) : Prop where
  below : Below b.heap.size b W
  all : ∀ z ∈ bs, Box W z.1 z.2 ∧ z.1 < b.heap.size
  bz : ∀ z, zo = some z → Box W z.1 z.2 ∧ b.heap.size ≤ z.1
theorem ZB.start1 {b : World} {g : Nat} {p : List Value} (h : Box b g p) : ZB b b [(g, p)] none :=
  ⟨Below.refl _ _, fun z hz => by obtain rfl : z = (g, p) := by simpa using hz
                                  exact ⟨h, h.lt⟩, fun z e => by cases e⟩
theorem ZB.start2 {b : World} {g k : Nat} {p x : List Value} (h : Box b g p) (h2 : Box b k x) : ZB b b [(g, p), (k, x)] none :=
  ⟨Below.refl _ _, fun z hz => by
    rcases (show z = (g, p) ∨ z = (k, x) by simpa using hz) with rfl | rfl
    · exact ⟨h, h.lt⟩
    · exact ⟨h2, h2.lt⟩, fun z e => by cases e⟩
theorem ZB.more {b W W' : World} {bs : List (Nat × List Value)} {zo : Option (Nat × List Value)} (h : ZB b W bs zo) (hb : Below W.heap.size W W') : ZB b W' bs zo :=
  ⟨h.below.trans (hb.mono h.below.size), fun z hz => ⟨(h.all z hz).1.more hb, (h.all z hz).2⟩, fun z e => ⟨(h.bz z e).1.more hb, (h.bz z e).2⟩⟩
theorem ZB.drew {b W : World} {bs : List (Nat × List Value)} {zo : Option (Nat × List Value)} (h : ZB b W bs zo) : ZB b W.drew bs zo := h.more (Below.refl _ _).drew
theorem ZB.alloc {b W : World} {bs : List (Nat × List Value)} {zo : Option (Nat × List Value)} (h : ZB b W bs zo) (o : Obj) : ZB b (W.alloc o) bs zo := h.more ((Below.refl _ _).alloc (Nat.le_refl _) o)
theorem ZB.new {b W : World} {bs : List (Nat × List Value)} {zo : Option (Nat × List Value)} (h : ZB b W bs zo) (zs : List Value) (T : TypeId) : ZB b (W.alloc (.cells zs.toArray T)) bs (some (W.heap.size, zs)) :=
  ⟨(h.alloc _).below, (h.alloc _).all, fun z e => by
    obtain rfl : (W.heap.size, zs) = z := by injection e
    exact ⟨Box.made W zs T _ rfl, h.below.size⟩⟩
theorem ZB.put {b W : World} {gz : Nat} {bs : List (Nat × List Value)} {zs : List Value} (h : ZB b W bs (some (gz, zs))) (us : List Value) (hl : us.length = zs.length) : ZB b (W.setCells gz 0 us) bs (some (gz, us)) := by
  obtain ⟨hz, hf⟩ := h.bz _ rfl
  have hf' : b.heap.size ≤ gz := hf
  exact ⟨below_setCells hf' us 0 _ h.below, fun z hm => ⟨Box.allOther (W := W) (by have := (h.all z hm).2; omega) us 0 _ (h.all z hm).1, (h.all z hm).2⟩, fun z e => by
    obtain rfl : (gz, us) = z := by injection e
    exact ⟨hz.all hl, hf⟩⟩
theorem ZB.box {b W : World} {gz : Nat} {bs : List (Nat × List Value)} {zs : List Value} (h : ZB b W bs (some (gz, zs))) : Box W gz zs ∧ b.heap.size ≤ gz := h.bz _ rfl
theorem ZB.one {b W : World} {g : Nat} {x0 x1 x2 x3 : Value} {r : List (Nat × List Value)} {zo : Option (Nat × List Value)} (h : ZB b W ((g, [x0, x1, x2, x3]) :: r) zo) : Cells4R W g x0 x1 x2 x3 := (h.all _ List.mem_cons_self).1.fourR
theorem ZB.two {b W : World} {g k : Nat} {x0 x1 x2 x3 : Value} {y0 y1 y2 : Value} {zo : Option (Nat × List Value)} (h : ZB b W [(g, [x0, x1, x2, x3]), (k, [y0, y1, y2])] zo) :
    W.cell? ⟨g, 0, none⟩ = some x0 ∧ W.cell? ⟨g, 1, none⟩ = some x1 ∧ W.cell? ⟨g, 2, none⟩ = some x2 ∧ W.cell? ⟨g, 3, none⟩ = some x3 ∧ W.cell? ⟨k, 0, none⟩ = some y0 ∧ W.cell? ⟨k, 1, none⟩ = some y1 ∧ W.cell? ⟨k, 2, none⟩ = some y2 := by
  obtain ⟨a0, a1, a2, a3⟩ := h.one
  obtain ⟨b0, b1, b2⟩ := (h.all (k, [y0, y1, y2]) (by simp)).1.threeR
  exact ⟨a0, a1, a2, a3, b0, b1, b2⟩
/-- What the region leaves: an answer in a new box. -/
def KeptB (b wx : World) (bs : List (Nat × List Value)) (us : List Value) (g : Nat) : Prop := ZB b wx bs (some (g, us))
theorem ZB.fin_made {b W : World} {bs : List (Nat × List Value)} {zo : Option (Nat × List Value)} (h : ZB b W bs zo) (us : List Value) (T : TypeId) : KeptB b (W.alloc (.cells us.toArray T)) bs us W.heap.size := h.new us T
theorem ZB.fin_put {b W : World} {gz : Nat} {bs : List (Nat × List Value)} {z0 : List Value} (h : ZB b W bs (some (gz, z0))) (us : List Value) (hl : us.length = z0.length) : KeptB b (W.setCells gz 0 us) bs us gz := h.put us hl
end Go.Proofs.Ytmmedhjmilgnbab
