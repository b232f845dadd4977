/- What this text proves: a call that changes only some blocks: what stays. -/
import Derived.Test.YtdfcamlnebcbpacLs
import Derived.Test.YtdfcamlnebcbpacGro
namespace Go.Proofs.Ytdfcamlnebcbpac
open Go.ChangeShapes Go.WideShapes Go.ChangeAt Go.RowKit
set_option linter.unusedVariables false

/-- Only blocks of S, and new ones, have changed. -/
structure Touch (w w' : World) (S : Nat → Prop) : Prop where
  os : w'.os = w.os
  tape : w'.tape = w.tape
  output : w'.output = w.output
  size : w.heap.size ≤ w'.heap.size
  block : ∀ k, k < w.heap.size → ¬ S k → w'.heap[k]? = w.heap[k]?
theorem Touch.refl (w : World) (S : Nat → Prop) : Touch w w S := ⟨rfl, rfl, rfl, Nat.le_refl _, fun _ _ _ => rfl⟩
theorem Touch.of_grown {w w' : World} {row : Option Nat} (h : w.grownBy w' row) : Touch w w' (fun k => row = some k) := ⟨h.os, h.tape, h.output, h.size, fun k hk hn => h.block k hk (fun e => hn e.symm)⟩
theorem Touch.of_below {w w' : World} (h : Below w.heap.size w w') (S : Nat → Prop) : Touch w w' S := ⟨h.os, h.tape, h.output, h.size, fun k hk _ => h.block k hk⟩
theorem Touch.mono {w w' : World} {S T : Nat → Prop} (h : Touch w w' S) (hs : ∀ k, S k → T k) : Touch w w' T := ⟨h.os, h.tape, h.output, h.size, fun k hk hn => h.block k hk (fun e => hn (hs k e))⟩
theorem Touch.trans {w w' w'' : World} {S : Nat → Prop} (h : Touch w w' S) (h2 : Touch w' w'' S) : Touch w w'' S :=
  ⟨h2.os.trans h.os, h2.tape.trans h.tape, h2.output.trans h.output, Nat.le_trans h.size h2.size, fun k hk hn => (h2.block k (Nat.lt_of_lt_of_le hk h.size) hn).trans (h.block k hk hn)⟩
theorem Touch.below {w w' : World} {S : Nat → Prop} {B : Nat} (h : Touch w w' S) (hB : ∀ k, S k → B ≤ k) (hz : B ≤ w.heap.size) : Below B w w' :=
  ⟨h.os, h.tape, h.output, h.size, fun k hk => h.block k (Nat.lt_of_lt_of_le hk hz) (fun e => by have := hB k e; omega)⟩
theorem LsO.touch {n : Nat} {w w' : World} {base : Nat} {v : Value} {l : List (List Value)} {S : Nat → Prop} (h : LsO n w base v l) (ht : Touch w w' S) (hne : ∀ k, v.ownBlock = some k → ¬ S k) : LsO n w' base v l :=
  h.keep ht.size fun g hv j => by
    have hb : w'.heap[g]? = w.heap[g]? := ht.block g (h.up g hv).2 (hne g hv)
    exact ⟨by simp [World.cell?, hb], by simp [World.frozen?, hb]⟩
theorem Box.touch {w w' : World} {g : Nat} {vs : List Value} {S : Nat → Prop} (h : Box w g vs) (ht : Touch w w' S) (hne : ¬ S g) : Box w' g vs := by
  have hb : w'.heap[g]? = w.heap[g]? := ht.block g h.lt hne
  exact ⟨Nat.lt_of_lt_of_le h.lt ht.size, fun j hj => by rw [← h.cell j hj]; simp [World.cell?, hb], fun j => by rw [← h.ice j]; simp [World.frozen?, hb]⟩
end Go.Proofs.Ytdfcamlnebcbpac
