/- What this text proves: the parts TkoW of the proof, each under its own words. -/
import Derived.Test.YtebfefkknaalpaaDoorV15
import Derived.Test.YtebfefkknaalpaaDoorV12
import Derived.Test.YtebfefkknaalpaaDoorV06
/- What this text proves: the memory of a sender and a receiver: their variables, what was offered, what was taken, what waits; what a step leaves of it. -/
namespace Go.Proofs.YtebfefkknaalpaaDoor
open Go.ChangeShapes Go.WideShapes Go.ChangeAt Go.RowKit
set_option linter.unusedVariables false

theorem OwnS.up {w : World} {base : Nat} {v : Value} {l : List ByteArray} (h : OwnS w base v l) : ∀ k, v.ownBlock = some k → base ≤ k ∧ k < w.heap.size := World.ownsRow.lt h
theorem OwnS.grown {w w' : World} {base : Nat} {v : Value} {l : List ByteArray} {row : Option Nat} (h : OwnS w base v l) (hg : w.grownBy w' row) (hne : ∀ k, v.ownBlock = some k → row ≠ some k) : OwnS w' base v l := by
  refine World.ownsRow.kept (row := row) h hg ?_
  by_cases he : v.ownBlock = none
  · exact .inl he
  · refine .inr fun e => ?_
    obtain ⟨k, hk⟩ := Option.ne_none_iff_exists'.1 he
    exact hne k hk (by rw [← e]; exact hk)
theorem OwnS.away {w : World} {base g j : Nat} {v : Value} {l : List ByteArray} (h : OwnS w base v l) (hg : v.ownBlock ≠ some g) (u : Value) : OwnS (w.setCell ⟨g, j, none⟩ u) base v l :=
  h.grown (row := some g) ⟨rfl, rfl, rfl, by simp, fun k hk hne => Below.heap_setCell w _ u k (fun e => hne (by rw [e]))⟩ (fun k hk e => hg (by rw [e]; exact hk))
theorem OwnS.cellsAway {base g : Nat} {v : Value} {l : List ByteArray} (hg : v.ownBlock ≠ some g) : ∀ (us : List Value) (o : Nat) (W : World), OwnS W base v l → OwnS (W.setCells g o us) base v l := by
  intro us
  induction us with
  | nil => intro o W h; exact h
  | cons u r ih => intro o W h; exact ih _ _ (h.away hg u)
/-- The first n of a list of texts. -/
theorem OwnS.take {w : World} {base g c : Nat} {l : List ByteArray} (h : OwnS w base (.slice (some ⟨g, 0, none⟩) l.length c) l) (n : Nat) (hn : n ≤ l.length) : OwnS w base (.slice (some ⟨g, 0, none⟩) n c) (l.take n) := by
  have hlen : (l.take n).length = n := by rw [List.length_take]; omega
  refine ⟨by rw [hlen]; simp; omega, .inr ?_⟩
  rcases h.2 with ⟨hv, _⟩ | ⟨g', cap, cur, hv, hb, hh, h1, h2, h3, h4⟩
  · cases hv
  · injection hv with hv1 _ hv2
    injection hv1 with hv3
    injection hv3 with hv4
    subst hv4
    subst hv2
    refine ⟨_, _, cur, by rw [hlen], hb, hh, by rw [hlen]; omega, h2, h3, ?_⟩
    rw [hlen, List.map_take, ← h4, List.take_take]
    congr 1
    omega

def Apt (a b : Option Nat) : Prop := ∀ k, a = some k → b ≠ some k
structure TK (w W : World) (g3 g5 : Nat) (v6 v7 vq : Value) (b : Int) (O6 O7 O : List ByteArray) (d m : Nat) (q : Bool) : Prop where
  below : Below w.heap.size w W
  bs : Box W g3 (seL (O.length : Int) b vq (d : Int))
  br : Box W g5 (rcL (m : Int) false q (m : Int))
  h3 : w.heap.size ≤ g3
  h5 : w.heap.size ≤ g5
  h35 : g3 ≠ g5
  o6 : OwnS W w.heap.size v6 O6
  o7 : OwnS W w.heap.size v7 O7
  oq : OwnO W w.heap.size vq (wtL O d)
  a63 : v6.ownBlock ≠ some g3
  a65 : v6.ownBlock ≠ some g5
  a73 : v7.ownBlock ≠ some g3
  a75 : v7.ownBlock ≠ some g5
  aq3 : vq.ownBlock ≠ some g3
  aq5 : vq.ownBlock ≠ some g5
  a67 : Apt v6.ownBlock v7.ownBlock
  a6q : Apt v6.ownBlock vq.ownBlock
  a7q : Apt v7.ownBlock vq.ownBlock
  ti : TI O m d b
theorem TK.more {w W W' : World} {g3 g5 : Nat} {v6 v7 vq : Value} {b : Int} {O6 O7 O : List ByteArray} {d m : Nat} {q : Bool} (h : TK w W g3 g5 v6 v7 vq b O6 O7 O d m q) (hb : Below W.heap.size W W') : TK w W' g3 g5 v6 v7 vq b O6 O7 O d m q :=
  ⟨h.below.trans (hb.mono h.below.size), h.bs.more hb, h.br.more hb, h.h3, h.h5, h.h35, h.o6.more hb, h.o7.more hb, h.oq.more hb, h.a63, h.a65, h.a73, h.a75, h.aq3, h.aq5, h.a67, h.a6q, h.a7q, h.ti⟩
theorem TK.setS {w W : World} {g3 g5 : Nat} {v6 v7 vq : Value} {b : Int} {O6 O7 O : List ByteArray} {d m : Nat} {q : Bool} (h : TK w W g3 g5 v6 v7 vq b O6 O7 O d m q) {vq' : Value} {O' : List ByteArray} {d' : Nat} (ho : OwnO W w.heap.size vq' (wtL O' d')) (a3 : vq'.ownBlock ≠ some g3) (a5 : vq'.ownBlock ≠ some g5) (a6 : Apt v6.ownBlock vq'.ownBlock) (a7 : Apt v7.ownBlock vq'.ownBlock) (ti : TI O' m d' b) :
    TK w (W.setCells g3 0 (seL (O'.length : Int) b vq' (d' : Int))) g3 g5 v6 v7 vq' b O6 O7 O' d' m q :=
  ⟨below_setCells h.h3 _ 0 _ h.below, h.bs.all rfl, Box.allOther (W := W) (by have := h.h35; omega) _ 0 _ h.br, h.h3, h.h5, h.h35, OwnS.cellsAway h.a63 _ 0 _ h.o6, OwnS.cellsAway h.a73 _ 0 _ h.o7, OwnO.cellsPast a3 _ 0 _ ho, h.a63, h.a65, h.a73, h.a75, a3, a5, h.a67, a6, a7, ti⟩
theorem TK.setR {w W : World} {g3 g5 : Nat} {v6 v7 vq : Value} {b : Int} {O6 O7 O : List ByteArray} {d m : Nat} {q : Bool} (h : TK w W g3 g5 v6 v7 vq b O6 O7 O d m q) {m' : Nat} {q' : Bool} (ti : TI O m' d b) :
    TK w (W.setCells g5 0 (rcL (m' : Int) false q' (m' : Int))) g3 g5 v6 v7 vq b O6 O7 O d m' q' :=
  ⟨below_setCells h.h5 _ 0 _ h.below, Box.allOther (W := W) (by have := h.h35; omega) _ 0 _ h.bs, h.br.all rfl, h.h3, h.h5, h.h35, OwnS.cellsAway h.a65 _ 0 _ h.o6, OwnS.cellsAway h.a75 _ 0 _ h.o7, OwnO.cellsPast h.aq5 _ 0 _ h.oq, h.a63, h.a65, h.a73, h.a75, h.aq3, h.aq5, h.a67, h.a6q, h.a7q, ti⟩
theorem TK.app6 {w W W' : World} {g3 g5 : Nat} {v6 v7 vq : Value} {b : Int} {O6 O7 O : List ByteArray} {d m : Nat} {q : Bool} (h : TK w W g3 g5 v6 v7 vq b O6 O7 O d m q) {v' : Value} {l' : List ByteArray} (hg : W.grownBy W' v6.ownBlock) (ho : OwnS W' w.heap.size v' l') (hw : v'.ownBlock = v6.ownBlock ∨ v'.ownBlock = some W.heap.size) : TK w W' g3 g5 v' v7 vq b l' O7 O d m q := by
  have b3 := h.bs.lt
  have b5 := h.br.lt
  have n3 : v'.ownBlock ≠ some g3 := by
    rcases hw with e | e
    · rw [e]; exact h.a63
    · rw [e]; intro e2; simp at e2; omega
  have n5 : v'.ownBlock ≠ some g5 := by
    rcases hw with e | e
    · rw [e]; exact h.a65
    · rw [e]; intro e2; simp at e2; omega
  have n7 : Apt v'.ownBlock v7.ownBlock := by
    rcases hw with e | e
    · rw [e]; exact h.a67
    · rw [e]; intro k hk hk2; simp at hk; have := (h.o7.up k hk2).2; omega
  have nq : Apt v'.ownBlock vq.ownBlock := by
    rcases hw with e | e
    · rw [e]; exact h.a6q
    · rw [e]; intro k hk hk2; simp at hk; have := (h.oq.up k hk2).2; omega
  exact ⟨h.below.grown hg h.below.size (fun k hk => (h.o6.up k hk).1), h.bs.grown hg h.a63, h.br.grown hg h.a65, h.h3, h.h5, h.h35, ho, h.o7.grown hg (fun k hk e => h.a67 k e hk), h.oq.grown hg (fun k hk e => h.a6q k e hk), n3, n5, h.a73, h.a75, h.aq3, h.aq5, n7, nq, h.a7q, h.ti⟩
theorem TK.app7 {w W W' : World} {g3 g5 : Nat} {v6 v7 vq : Value} {b : Int} {O6 O7 O : List ByteArray} {d m : Nat} {q : Bool} (h : TK w W g3 g5 v6 v7 vq b O6 O7 O d m q) {v' : Value} {l' : List ByteArray} (hg : W.grownBy W' v7.ownBlock) (ho : OwnS W' w.heap.size v' l') (hw : v'.ownBlock = v7.ownBlock ∨ v'.ownBlock = some W.heap.size) : TK w W' g3 g5 v6 v' vq b O6 l' O d m q := by
  have b3 := h.bs.lt
  have b5 := h.br.lt
  have n3 : v'.ownBlock ≠ some g3 := by
    rcases hw with e | e
    · rw [e]; exact h.a73
    · rw [e]; intro e2; simp at e2; omega
  have n5 : v'.ownBlock ≠ some g5 := by
    rcases hw with e | e
    · rw [e]; exact h.a75
    · rw [e]; intro e2; simp at e2; omega
  have n6 : Apt v6.ownBlock v'.ownBlock := by
    rcases hw with e | e
    · rw [e]; exact h.a67
    · rw [e]; intro k hk hk2; simp at hk2; have := (h.o6.up k hk).2; omega
  have nq : Apt v'.ownBlock vq.ownBlock := by
    rcases hw with e | e
    · rw [e]; exact h.a7q
    · rw [e]; intro k hk hk2; simp at hk; have := (h.oq.up k hk2).2; omega
  exact ⟨h.below.grown hg h.below.size (fun k hk => (h.o7.up k hk).1), h.bs.grown hg h.a73, h.br.grown hg h.a75, h.h3, h.h5, h.h35, h.o6.grown hg (fun k hk e => h.a67 k hk e), ho, h.oq.grown hg (fun k hk e => h.a7q k e hk), h.a63, h.a65, n3, n5, h.aq3, h.aq5, n6, h.a6q, nq, h.ti⟩
/-- The append of one text, and where it may have gone. -/
theorem app_textG {ops : Array Oper} {rest : List Oper} {o : Oper} {a : Act} {Q : Exit → Act → World → Prop} (w : World) (hgd : o.guard = none) (s x : Operand)
    (ho : o.op = .call { callee := .builtin .append, args := #[s, x], argTypes := #[32, 32] })
    (base : Nat) (v : Value) (l : List ByteArray) (t : ByteArray) (hs : a.eval s = v) (hown : OwnS w base v l) (T : TypeId) (c : Nat)
    (hx : a.eval x = .slice (some ⟨w.heap.size, 0, none⟩) 1 c)
    (hlen : l.length ≤ 1000000) (hbase : base ≤ w.heap.size)
    (h : ∀ v' w', OwnS w' base v' (l ++ [t]) → (w.alloc (.cells #[.string t] T)).grownBy w' v.ownBlock → (v'.ownBlock = v.ownBlock ∨ v'.ownBlock = some (w.alloc (.cells #[.string t] T)).heap.size) → wpList Tryd.prog ops Q rest (a.put o.dst v') w') :
    wpList Tryd.prog ops Q (o :: rest) a (w.alloc (.cells #[.string t] T)) := by
  obtain ⟨i, hi, hz0, hz1, hz2⟩ := info_parts info_str
  have fl : ∀ L : List ByteArray, (L.map fun t => [Value.string t]).flatten = L.map Value.string := fun L => by induction L <;> simp_all
  have hown' : OwnR 9 1 (w.alloc (.cells #[.string t] T)) base v (l.map fun t => [Value.string t]) := ⟨by rw [fl, List.length_map]; exact World.ownsRow.alloc hown _, fun x hx => by obtain ⟨_, _, rfl⟩ := List.mem_map.1 hx; rfl⟩
  refine app_rows 9 32 1 16 (.string ⟨#[]⟩) i _ hgd s x ho Tryd.underlying32 hi hz0 hz1 hz2 rfl (by decide) (by decide) base v _ hs hown' (some ⟨w.heap.size, 0, none⟩) [[.string t]] c hx (by simp) (by simp [Value.oneCell']) (.inr ⟨w.heap.size, 0, rfl, fun j u hu => ?_⟩) (by simp; omega) (by simp; omega) (fun v' w' hown2 hg hw => ?_)
  · rw [Nat.zero_add, World.cell?_alloc_at _ _ _ _ rfl]
    simpa using hu
  · refine h v' w' ?_ hg hw
    have h2 := hown2.1
    rw [show ((l.map fun t => [Value.string t]) ++ [[Value.string t]]) = (l ++ [t]).map fun t => [Value.string t] by simp, fl, List.length_map] at h2
    exact h2
end Go.Proofs.YtebfefkknaalpaaDoor
