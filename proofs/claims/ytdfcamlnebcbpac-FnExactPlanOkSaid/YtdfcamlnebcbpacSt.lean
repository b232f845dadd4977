/- What this text proves: a list of things that lie apart in a world (boxes, lists, structs of lists): what a call leaves of them. -/
import Derived.Test.YtdfcamlnebcbpacTch
namespace Go.Proofs.Ytdfcamlnebcbpac
open Go.ChangeShapes Go.WideShapes Go.ChangeAt Go.RowKit
set_option linter.unusedVariables false

/-- What lies in some blocks, and stays as long as these stay. -/
structure Thing where
  F : Nat → Prop
  P : World → Prop
  lt : ∀ W, P W → ∀ k, F k → k < W.heap.size
  keep : ∀ W W' S, P W → Touch W W' S → (∀ k, F k → ¬ S k) → P W'
/-- The things of the list lie in W apart from each other, and in nothing that was in w; all that was in w is as it was. -/
structure St (w W : World) (L : List Thing) : Prop where
  below : Below w.heap.size w W
  all : ∀ t ∈ L, t.P W
  past : ∀ t ∈ L, ∀ k, t.F k → w.heap.size ≤ k
  apart : L.Pairwise fun a b => ∀ k, a.F k → ¬ b.F k
theorem St.start (w : World) : St w w [] := ⟨Below.refl _ _, (fun _ h => by cases h), (fun _ h => by cases h), List.Pairwise.nil⟩
theorem St.nth {w W : World} {L : List Thing} (h : St w W L) (i : Nat) (t : Thing) (e : L[i]? = some t) : t.P W := h.all t (List.mem_of_getElem? e)
theorem St.nthPast {w W : World} {L : List Thing} (h : St w W L) (i : Nat) (t : Thing) (e : L[i]? = some t) : ∀ k, t.F k → w.heap.size ≤ k := h.past t (List.mem_of_getElem? e)
theorem St.more {w W W' : World} {L : List Thing} (h : St w W L) (hb : Below W.heap.size W W') : St w W' L :=
  ⟨h.below.trans (hb.mono h.below.size), fun t ht => t.keep W W' (fun _ => False) (h.all t ht) (Touch.of_below hb _) (fun _ _ e => e), h.past, h.apart⟩
theorem St.drew {w W : World} {L : List Thing} (h : St w W L) : St w W.drew L := h.more (Below.refl _ _).drew
theorem St.drewN {w W : World} {L : List Thing} (h : St w W L) (n : Nat) : St w (W.drewN n) L := h.more (below_draws (Below.refl _ _) n)
theorem St.addAt {w W : World} {L : List Thing} (h : St w W L) (t : Thing) (hp : t.P W) (hn : ∀ k, t.F k → w.heap.size ≤ k) (ha : ∀ b ∈ L, ∀ k, t.F k → ¬ b.F k) : St w W (t :: L) := by
  refine ⟨h.below, ?_, ?_, List.pairwise_cons.2 ⟨ha, h.apart⟩⟩
  · intro s hs
    rcases List.mem_cons.1 hs with rfl | hs
    · exact hp
    · exact h.all s hs
  · intro s hs
    rcases List.mem_cons.1 hs with rfl | hs
    · exact hn
    · exact h.past s hs
/-- A new thing. -/
theorem St.add {w W W' : World} {L : List Thing} (h : St w W L) (t : Thing) (hb : Below W.heap.size W W') (hp : t.P W') (hn : ∀ k, t.F k → W.heap.size ≤ k) : St w W' (t :: L) :=
  (h.more hb).addAt t hp (fun k hk => Nat.le_trans h.below.size (hn k hk)) (fun b hbm k hk hbk => by
    have h1 := hn k hk
    have h2 := b.lt W (h.all b hbm) k hbk
    omega)
/-- The rest of the things. -/
theorem St.sub {w W : World} {L L' : List Thing} (h : St w W L) (hs : L'.Sublist L) : St w W L' := ⟨h.below, fun t ht => h.all t (hs.subset ht), fun t ht => h.past t (hs.subset ht), h.apart.sublist hs⟩
theorem pair_nth {α : Type} {R : α → α → Prop} (hsym : ∀ a b, R a b → R b a) : ∀ {L : List α} (hp : L.Pairwise R) (i j : Nat) (hi : i < L.length) (hj : j < L.length), i ≠ j → R L[i] L[j] := by
  intro L hp i j hi hj hne
  rw [List.pairwise_iff_getElem] at hp
  rcases Nat.lt_or_ge i j with h | h
  · exact hp i j hi hj h
  · exact hsym _ _ (hp j i hj hi (by omega))
theorem St.two {w W : World} {L : List Thing} (h : St w W L) (i j : Nat) (a b : Thing) (ea : L[i]? = some a) (eb : L[j]? = some b) (hne : i ≠ j) : ∀ k, a.F k → ¬ b.F k := by
  obtain ⟨hi, rfl⟩ := List.getElem?_eq_some_iff.1 ea
  obtain ⟨hj, rfl⟩ := List.getElem?_eq_some_iff.1 eb
  exact pair_nth (R := fun a b : Thing => ∀ k, a.F k → ¬ b.F k) (fun a b h k hb ha => h k ha hb) h.apart i j hi hj hne
/-- Only the blocks of one thing have changed, and another thing lies in them now, or in new blocks. -/
theorem St.put {w W W' : World} {L : List Thing} (h : St w W L) (i : Nat) (t : Thing) (e : L[i]? = some t) {S : Nat → Prop} (ht : Touch W W' S) (hS : ∀ k, S k → t.F k) (t' : Thing) (hp : t'.P W') (hF : ∀ k, t'.F k → t.F k ∨ W.heap.size ≤ k) : St w W' (L.set i t') := by
  obtain ⟨hi, hti⟩ := List.getElem?_eq_some_iff.1 e
  have hall : ∀ (j : Nat) (hj : j < (L.set i t').length), (L.set i t')[j].P W' := fun j hj => by
    rw [List.getElem_set]
    by_cases hij : i = j
    · rw [if_pos hij]; exact hp
    · rw [if_neg hij]
      rw [List.length_set] at hj
      refine L[j].keep W W' S (h.all _ (List.getElem_mem _)) ht fun k hk hs => ?_
      exact h.two i j t L[j] e (List.getElem?_eq_getElem hj) hij k (hS k hs) hk
  have hz := h.below.size
  refine ⟨h.below.trans (ht.below (fun k hk => h.past t (List.mem_of_getElem? e) k (hS k hk)) h.below.size), fun s hs => ?_, fun s hs => ?_, ?_⟩
  · obtain ⟨j, hj, rfl⟩ := List.mem_iff_getElem.1 hs
    exact hall j hj
  · rcases List.mem_or_eq_of_mem_set hs with hs | rfl
    · exact h.past s hs
    · intro k hk
      rcases hF k hk with h1 | h1
      · exact h.past t (List.mem_of_getElem? e) k h1
      · omega
  · rw [List.pairwise_iff_getElem]
    intro a b ha hb hab k hk1 hk2
    rw [List.length_set] at ha hb
    rw [List.getElem_set] at hk1 hk2
    have hw := List.pairwise_iff_getElem.1 h.apart
    by_cases h1 : i = a
    · subst h1
      rw [if_pos rfl] at hk1
      rw [if_neg (by omega)] at hk2
      rcases hF k hk1 with h3 | h3
      · exact hw i b ha hb hab k (by rw [hti]; exact h3) hk2
      · have h4 := L[b].lt W (h.all _ (List.getElem_mem _)) k hk2
        omega
    · rw [if_neg h1] at hk1
      by_cases h2 : i = b
      · subst h2
        rw [if_pos rfl] at hk2
        rcases hF k hk2 with h3 | h3
        · exact hw a i ha hb hab k hk1 (by rw [hti]; exact h3)
        · have h4 := L[a].lt W (h.all _ (List.getElem_mem _)) k hk1
          omega
      · rw [if_neg h2] at hk2
        exact hw a b ha hb hab k hk1 hk2
theorem St.fresh {w W : World} {L : List Thing} (h : St w W L) : ∀ t ∈ L, ∀ k, t.F k → k < W.heap.size := fun t ht k hk => t.lt W (h.all t ht) k hk
theorem Box.lt' {W : World} {g : Nat} {vs : List Value} (h : Box W g vs) : g < W.heap.size := h.lt
/-- The cells of a struct. -/
def boxT (g : Nat) (vs : List Value) : Thing := ⟨fun k => k = g, fun W => Box W g vs, fun W h k hk => by subst hk; exact h.lt, fun W W' S h ht hne => h.touch ht (hne g rfl)⟩
/-- A list of rows. -/
def lsT (n : Nat) (v : Value) (l : List (List Value)) : Thing := ⟨fun k => v.ownBlock = some k, fun W => LsO n W 0 v l, fun W h k hk => (h.up k hk).2, fun W W' S h ht hne => LsO.touch h ht hne⟩
theorem St.box {w W : World} {L : List Thing} (h : St w W L) (i g : Nat) (vs : List Value) (e : L[i]? = some (boxT g vs)) : Box W g vs := h.nth i _ e
theorem St.ls {w W : World} {L : List Thing} (h : St w W L) (i n : Nat) (v : Value) (l : List (List Value)) (e : L[i]? = some (lsT n v l)) : LsO n W 0 v l := h.nth i _ e
/-- A struct is boxed. -/
theorem St.made {w W : World} {L : List Thing} (h : St w W L) (vs : List Value) (T : TypeId) : St w (W.alloc (.cells vs.toArray T)) (boxT W.heap.size vs :: L) :=
  h.add _ ((Below.refl _ _).alloc (Nat.le_refl _) _) (Box.made W vs T _ rfl) (fun k hk => by rw [show k = W.heap.size from hk]; exact Nat.le_refl _)
theorem touch_set (W : World) (g j : Nat) (u : Value) : Touch W (W.setCell ⟨g, j, none⟩ u) (fun k => k = g) :=
  ⟨rfl, rfl, rfl, by simp, fun k hk hne => Below.heap_setCell W _ u k (fun e => hne e)⟩
theorem touch_cells (g : Nat) : ∀ (us : List Value) (o : Nat) (W : World), Touch W (W.setCells g o us) (fun k => k = g) := by
  intro us
  induction us with
  | nil => intro o W; exact Touch.refl W _
  | cons v r ih => intro o W; exact (touch_set W g o v).trans (ih _ _)
/-- A cell of a box is stored. -/
theorem St.setBox {w W : World} {L : List Thing} (h : St w W L) (i g : Nat) (vs : List Value) (e : L[i]? = some (boxT g vs)) (j : Nat) (hj : j < vs.length) (u : Value) : St w (W.setCell ⟨g, j, none⟩ u) (L.set i (boxT g (vs.set j u))) :=
  h.put i _ e (touch_set W g j u) (fun k hk => hk) _ ((h.box i g vs e).set j hj u) (fun k hk => .inl hk)
/-- All cells of a box are stored. -/
theorem St.setAll {w W : World} {L : List Thing} (h : St w W L) (i g : Nat) (vs : List Value) (e : L[i]? = some (boxT g vs)) (us : List Value) (hl : us.length = vs.length) : St w (W.setCells g 0 us) (L.set i (boxT g us)) :=
  h.put i _ e (touch_cells g us 0 W) (fun k hk => hk) _ ((h.box i g vs e).all hl) (fun k hk => .inl hk)
theorem OwnR.touch {E : TypeId} {sz : Nat} {w w' : World} {base : Nat} {v : Value} {l : List (List Value)} {S : Nat → Prop} (h : OwnR E sz w base v l) (ht : Touch w w' S) (hne : ∀ k, v.ownBlock = some k → ¬ S k) : OwnR E sz w' base v l := by
  refine ⟨⟨h.1.1, ?_⟩, h.2⟩
  rcases h.1.2 with h1 | ⟨g, cap, cur, hv, hb, hh, h4⟩
  · exact .inl h1
  · have hg : g < w.heap.size := (World.ownsRow.lt h.1 g (by rw [hv]; rfl)).2
    exact .inr ⟨g, cap, cur, hv, hb, (ht.block g hg (hne g (by rw [hv]; rfl))).trans hh, h4⟩
/-- A list that may be appended to. -/
def rowT (E : TypeId) (sz : Nat) (v : Value) (l : List (List Value)) : Thing := ⟨fun k => v.ownBlock = some k, fun W => OwnR E sz W 0 v l, fun W h k hk => (World.ownsRow.lt h.1 k hk).2, fun W W' S h ht hne => OwnR.touch h ht hne⟩
theorem St.row {w W : World} {L : List Thing} (h : St w W L) (i : Nat) (E : TypeId) (sz : Nat) (v : Value) (l : List (List Value)) (e : L[i]? = some (rowT E sz v l)) : OwnR E sz W 0 v l := h.nth i _ e
/-- A list has grown. -/
theorem St.grow {w W W' : World} {L : List Thing} (h : St w W L) (i : Nat) (E : TypeId) (sz : Nat) (v : Value) (l : List (List Value)) (e : L[i]? = some (rowT E sz v l)) (hg : W.grownBy W' v.ownBlock) (v' : Value) (l' : List (List Value)) (hp : OwnR E sz W' 0 v' l') (hv : v'.ownBlock = v.ownBlock ∨ ∃ k, W.heap.size ≤ k ∧ v'.ownBlock = some k) : St w W' (L.set i (rowT E sz v' l')) :=
  h.put i _ e (Touch.of_grown hg) (fun k hk => hk) _ hp (fun k hk => by
    rcases hv with h1 | ⟨k', h1, h2⟩
    · exact .inl (h1.symm.trans hk)
    · refine .inr ?_
      have h3 : some k' = some k := h2.symm.trans hk
      injection h3 with h3
      omega)
/-- An empty list is made. -/
theorem St.lit {w W : World} {L : List Thing} (h : St w W L) (E : TypeId) (sz : Nat) : St w (W.alloc (.cells #[] E)) (rowT E sz (.slice (some ⟨W.heap.size, 0, none⟩) 0 0) [] :: L) :=
  h.add _ ((Below.refl _ _).alloc (Nat.le_refl _) _) (OwnR.empty W 0 (Nat.zero_le _)) (fun k hk => by
    have h1 : (some W.heap.size : Option Nat) = some k := hk
    injection h1 with h1
    omega)
/-- A list that may be appended to, as a list to be read. -/
theorem St.asLs {w W : World} {L : List Thing} {E : TypeId} {sz : Nat} {v : Value} {l : List (List Value)} (h : St w W (rowT E sz v l :: L)) : St w W (lsT sz v l :: L) :=
  (h.sub (List.sublist_cons_self _ _)).addAt (lsT sz v l) (h.row 0 _ _ _ _ rfl).toO (fun k hk => h.nthPast 0 _ rfl k hk) (fun b hb k hk => (List.pairwise_cons.1 h.apart).1 b hb k hk)
/-- Cells that are read. -/
def seeT (g : Nat) (l : List Value) : Thing := ⟨fun k => k = g, fun W => g < W.heap.size ∧ ∀ j (hj : j < l.length), W.cell? ⟨g, j, none⟩ = some l[j], fun W h k hk => by rw [show k = g from hk]; exact h.1, fun W W' S h ht hne => by
  have hb : W'.heap[g]? = W.heap[g]? := ht.block g h.1 (hne g rfl)
  exact ⟨Nat.lt_of_lt_of_le h.1 ht.size, fun j hj => by rw [← h.2 j hj]; simp [World.cell?, hb]⟩⟩
theorem St.see {w W : World} {L : List Thing} (h : St w W L) (i g : Nat) (l : List Value) (e : L[i]? = some (seeT g l)) : ∀ j (hj : j < l.length), W.cell? ⟨g, j, none⟩ = some l[j] := (h.nth i _ e).2
/-- A call that hands back a thing of its own. -/
def Gives (w : World) (T : Value → Thing) (e : Ending) (w' : World) : Prop := ∃ v, e = .returned v ∧ (T v).P w' ∧ (∀ k, (T v).F k → w.heap.size ≤ k) ∧ Below w.heap.size w w'
/-- A call that answers a question. -/
def BoolEnd (w : World) (b : Bool) (e : Ending) (w' : World) : Prop := e = .returned (.bool b) ∧ Below w.heap.size w w'
end Go.Proofs.Ytdfcamlnebcbpac
