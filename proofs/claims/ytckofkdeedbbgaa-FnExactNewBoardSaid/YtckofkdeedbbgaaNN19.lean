/- What this text proves: the parts St, StB, RoT of the proof, each under its own words. -/
import Derived.Test.YtckofkdeedbbgaaNN13
import Derived.Test.YtckofkdeedbbgaaNN18
import Derived.Test.YtckofkdeedbbgaaNN14
/- What this text proves: a list of things that lie apart in a world (boxes, lists, structs of lists): what a call leaves of them. -/
namespace Go.Proofs.Ytckofkdeedbbgaa
open Go.ChangeShapes Go.WideShapes Go.ChangeAt Go.RowKit
set_option linter.unusedVariables false

/-- What lies in some blocks, and stays as long as these stay. -/
structure Thing where
  F : Nat → Prop
  P : World → Prop
  lt : ∀ W, P W → ∀ k, F k → k < W.heap.size
  keep : ∀ W W' S, P W → Touch W W' S → (∀ k, F k → ¬ S k) → P W'
/-- The things of the list lie in W apart from each other, and in nothing that was in w; all that was in w is as it was. -/
structure St (w W : World) (L : List Thing) : Prop where
  below : Below w.heap.size w W
  all : ∀ t ∈ L, t.P W
  past : ∀ t ∈ L, ∀ k, t.F k → w.heap.size ≤ k
  apart : L.Pairwise fun a b => ∀ k, a.F k → ¬ b.F k
theorem St.start (w : World) : St w w [] := ⟨Below.refl _ _, (fun _ h => by cases h), (fun _ h => by cases h), List.Pairwise.nil⟩
theorem St.nth {w W : World} {L : List Thing} (h : St w W L) (i : Nat) (t : Thing) (e : L[i]? = some t) : t.P W := h.all t (List.mem_of_getElem? e)
theorem St.nthPast {w W : World} {L : List Thing} (h : St w W L) (i : Nat) (t : Thing) (e : L[i]? = some t) : ∀ k, t.F k → w.heap.size ≤ k := h.past t (List.mem_of_getElem? e)
theorem St.more {w W W' : World} {L : List Thing} (h : St w W L) (hb : Below W.heap.size W W') : St w W' L :=
  ⟨h.below.trans (hb.mono h.below.size), fun t ht => t.keep W W' (fun _ => False) (h.all t ht) (Touch.of_below hb _) (fun _ _ e => e), h.past, h.apart⟩
theorem St.drew {w W : World} {L : List Thing} (h : St w W L) : St w W.drew L := h.more (Below.refl _ _).drew
theorem St.drewN {w W : World} {L : List Thing} (h : St w W L) (n : Nat) : St w (W.drewN n) L := h.more (below_draws (Below.refl _ _) n)
theorem St.addAt {w W : World} {L : List Thing} (h : St w W L) (t : Thing) (hp : t.P W) (hn : ∀ k, t.F k → w.heap.size ≤ k) (ha : ∀ b ∈ L, ∀ k, t.F k → ¬ b.F k) : St w W (t :: L) := by
  refine ⟨h.below, ?_, ?_, List.pairwise_cons.2 ⟨ha, h.apart⟩⟩
  · intro s hs
    rcases List.mem_cons.1 hs with rfl | hs
    · exact hp
    · exact h.all s hs
  · intro s hs
    rcases List.mem_cons.1 hs with rfl | hs
    · exact hn
    · exact h.past s hs
/-- A new thing. -/
theorem St.add {w W W' : World} {L : List Thing} (h : St w W L) (t : Thing) (hb : Below W.heap.size W W') (hp : t.P W') (hn : ∀ k, t.F k → W.heap.size ≤ k) : St w W' (t :: L) :=
  (h.more hb).addAt t hp (fun k hk => Nat.le_trans h.below.size (hn k hk)) (fun b hbm k hk hbk => by
    have h1 := hn k hk
    have h2 := b.lt W (h.all b hbm) k hbk
    omega)
/-- The rest of the things. -/
theorem St.sub {w W : World} {L L' : List Thing} (h : St w W L) (hs : L'.Sublist L) : St w W L' := ⟨h.below, fun t ht => h.all t (hs.subset ht), fun t ht => h.past t (hs.subset ht), h.apart.sublist hs⟩
theorem pair_nth {α : Type} {R : α → α → Prop} (hsym : ∀ a b, R a b → R b a) : ∀ {L : List α} (hp : L.Pairwise R) (i j : Nat) (hi : i < L.length) (hj : j < L.length), i ≠ j → R L[i] L[j] := by
  intro L hp i j hi hj hne
  rw [List.pairwise_iff_getElem] at hp
  rcases Nat.lt_or_ge i j with h | h
  · exact hp i j hi hj h
  · exact hsym _ _ (hp j i hj hi (by omega))
theorem St.two {w W : World} {L : List Thing} (h : St w W L) (i j : Nat) (a b : Thing) (ea : L[i]? = some a) (eb : L[j]? = some b) (hne : i ≠ j) : ∀ k, a.F k → ¬ b.F k := by
  obtain ⟨hi, rfl⟩ := List.getElem?_eq_some_iff.1 ea
  obtain ⟨hj, rfl⟩ := List.getElem?_eq_some_iff.1 eb
  exact pair_nth (R := fun a b : Thing => ∀ k, a.F k → ¬ b.F k) (fun a b h k hb ha => h k ha hb) h.apart i j hi hj hne
/-- Only the blocks of one thing have changed, and another thing lies in them now, or in new blocks. -/
theorem St.put {w W W' : World} {L : List Thing} (h : St w W L) (i : Nat) (t : Thing) (e : L[i]? = some t) {S : Nat → Prop} (ht : Touch W W' S) (hS : ∀ k, S k → t.F k) (t' : Thing) (hp : t'.P W') (hF : ∀ k, t'.F k → t.F k ∨ W.heap.size ≤ k) : St w W' (L.set i t') := by
  obtain ⟨hi, hti⟩ := List.getElem?_eq_some_iff.1 e
  have hall : ∀ (j : Nat) (hj : j < (L.set i t').length), (L.set i t')[j].P W' := fun j hj => by
    rw [List.getElem_set]
    by_cases hij : i = j
    · rw [if_pos hij]; exact hp
    · rw [if_neg hij]
      rw [List.length_set] at hj
      refine L[j].keep W W' S (h.all _ (List.getElem_mem _)) ht fun k hk hs => ?_
      exact h.two i j t L[j] e (List.getElem?_eq_getElem hj) hij k (hS k hs) hk
  have hz := h.below.size
  refine ⟨h.below.trans (ht.below (fun k hk => h.past t (List.mem_of_getElem? e) k (hS k hk)) h.below.size), fun s hs => ?_, fun s hs => ?_, ?_⟩
  · obtain ⟨j, hj, rfl⟩ := List.mem_iff_getElem.1 hs
    exact hall j hj
  · rcases List.mem_or_eq_of_mem_set hs with hs | rfl
    · exact h.past s hs
    · intro k hk
      rcases hF k hk with h1 | h1
      · exact h.past t (List.mem_of_getElem? e) k h1
      · omega
  · rw [List.pairwise_iff_getElem]
    intro a b ha hb hab k hk1 hk2
    rw [List.length_set] at ha hb
    rw [List.getElem_set] at hk1 hk2
    have hw := List.pairwise_iff_getElem.1 h.apart
    by_cases h1 : i = a
    · subst h1
      rw [if_pos rfl] at hk1
      rw [if_neg (by omega)] at hk2
      rcases hF k hk1 with h3 | h3
      · exact hw i b ha hb hab k (by rw [hti]; exact h3) hk2
      · have h4 := L[b].lt W (h.all _ (List.getElem_mem _)) k hk2
        omega
    · rw [if_neg h1] at hk1
      by_cases h2 : i = b
      · subst h2
        rw [if_pos rfl] at hk2
        rcases hF k hk2 with h3 | h3
        · exact hw a i ha hb hab k hk1 (by rw [hti]; exact h3)
        · have h4 := L[a].lt W (h.all _ (List.getElem_mem _)) k hk1
          omega
      · rw [if_neg h2] at hk2
        exact hw a b ha hb hab k hk1 hk2
theorem St.fresh {w W : World} {L : List Thing} (h : St w W L) : ∀ t ∈ L, ∀ k, t.F k → k < W.heap.size := fun t ht k hk => t.lt W (h.all t ht) k hk
theorem Box.lt' {W : World} {g : Nat} {vs : List Value} (h : Box W g vs) : g < W.heap.size := h.lt
/-- The cells of a struct. -/
def boxT (g : Nat) (vs : List Value) : Thing := ⟨fun k => k = g, fun W => Box W g vs, fun W h k hk => by subst hk; exact h.lt, fun W W' S h ht hne => h.touch ht (hne g rfl)⟩
/-- A list of rows. -/
def lsT (n : Nat) (v : Value) (l : List (List Value)) : Thing := ⟨fun k => v.ownBlock = some k, fun W => LsO n W 0 v l, fun W h k hk => (h.up k hk).2, fun W W' S h ht hne => LsO.touch h ht hne⟩
theorem St.box {w W : World} {L : List Thing} (h : St w W L) (i g : Nat) (vs : List Value) (e : L[i]? = some (boxT g vs)) : Box W g vs := h.nth i _ e
theorem St.ls {w W : World} {L : List Thing} (h : St w W L) (i n : Nat) (v : Value) (l : List (List Value)) (e : L[i]? = some (lsT n v l)) : LsO n W 0 v l := h.nth i _ e
/-- A struct is boxed. -/
theorem St.made {w W : World} {L : List Thing} (h : St w W L) (vs : List Value) (T : TypeId) : St w (W.alloc (.cells vs.toArray T)) (boxT W.heap.size vs :: L) :=
  h.add _ ((Below.refl _ _).alloc (Nat.le_refl _) _) (Box.made W vs T _ rfl) (fun k hk => by rw [show k = W.heap.size from hk]; exact Nat.le_refl _)
theorem touch_set (W : World) (g j : Nat) (u : Value) : Touch W (W.setCell ⟨g, j, none⟩ u) (fun k => k = g) :=
  ⟨rfl, rfl, rfl, by simp, fun k hk hne => Below.heap_setCell W _ u k (fun e => hne e)⟩
theorem touch_cells (g : Nat) : ∀ (us : List Value) (o : Nat) (W : World), Touch W (W.setCells g o us) (fun k => k = g) := by
  intro us
  induction us with
  | nil => intro o W; exact Touch.refl W _
  | cons v r ih => intro o W; exact (touch_set W g o v).trans (ih _ _)
/-- A cell of a box is stored. -/
theorem St.setBox {w W : World} {L : List Thing} (h : St w W L) (i g : Nat) (vs : List Value) (e : L[i]? = some (boxT g vs)) (j : Nat) (hj : j < vs.length) (u : Value) : St w (W.setCell ⟨g, j, none⟩ u) (L.set i (boxT g (vs.set j u))) :=
  h.put i _ e (touch_set W g j u) (fun k hk => hk) _ ((h.box i g vs e).set j hj u) (fun k hk => .inl hk)
/-- All cells of a box are stored. -/
theorem St.setAll {w W : World} {L : List Thing} (h : St w W L) (i g : Nat) (vs : List Value) (e : L[i]? = some (boxT g vs)) (us : List Value) (hl : us.length = vs.length) : St w (W.setCells g 0 us) (L.set i (boxT g us)) :=
  h.put i _ e (touch_cells g us 0 W) (fun k hk => hk) _ ((h.box i g vs e).all hl) (fun k hk => .inl hk)
theorem OwnR.touch {E : TypeId} {sz : Nat} {w w' : World} {base : Nat} {v : Value} {l : List (List Value)} {S : Nat → Prop} (h : OwnR E sz w base v l) (ht : Touch w w' S) (hne : ∀ k, v.ownBlock = some k → ¬ S k) : OwnR E sz w' base v l := by
  refine ⟨⟨h.1.1, ?_⟩, h.2⟩
  rcases h.1.2 with h1 | ⟨g, cap, cur, hv, hb, hh, h4⟩
  · exact .inl h1
  · have hg : g < w.heap.size := (World.ownsRow.lt h.1 g (by rw [hv]; rfl)).2
    exact .inr ⟨g, cap, cur, hv, hb, (ht.block g hg (hne g (by rw [hv]; rfl))).trans hh, h4⟩
/-- A list that may be appended to. -/
def rowT (E : TypeId) (sz : Nat) (v : Value) (l : List (List Value)) : Thing := ⟨fun k => v.ownBlock = some k, fun W => OwnR E sz W 0 v l, fun W h k hk => (World.ownsRow.lt h.1 k hk).2, fun W W' S h ht hne => OwnR.touch h ht hne⟩
theorem St.row {w W : World} {L : List Thing} (h : St w W L) (i : Nat) (E : TypeId) (sz : Nat) (v : Value) (l : List (List Value)) (e : L[i]? = some (rowT E sz v l)) : OwnR E sz W 0 v l := h.nth i _ e
/-- A list has grown. -/
theorem St.grow {w W W' : World} {L : List Thing} (h : St w W L) (i : Nat) (E : TypeId) (sz : Nat) (v : Value) (l : List (List Value)) (e : L[i]? = some (rowT E sz v l)) (hg : W.grownBy W' v.ownBlock) (v' : Value) (l' : List (List Value)) (hp : OwnR E sz W' 0 v' l') (hv : v'.ownBlock = v.ownBlock ∨ ∃ k, W.heap.size ≤ k ∧ v'.ownBlock = some k) : St w W' (L.set i (rowT E sz v' l')) :=
  h.put i _ e (Touch.of_grown hg) (fun k hk => hk) _ hp (fun k hk => by
    rcases hv with h1 | ⟨k', h1, h2⟩
    · exact .inl (h1.symm.trans hk)
    · refine .inr ?_
      have h3 : some k' = some k := h2.symm.trans hk
      injection h3 with h3
      omega)
/-- An empty list is made. -/
theorem St.lit {w W : World} {L : List Thing} (h : St w W L) (E : TypeId) (sz : Nat) : St w (W.alloc (.cells #[] E)) (rowT E sz (.slice (some ⟨W.heap.size, 0, none⟩) 0 0) [] :: L) :=
  h.add _ ((Below.refl _ _).alloc (Nat.le_refl _) _) (OwnR.empty W 0 (Nat.zero_le _)) (fun k hk => by
    have h1 : (some W.heap.size : Option Nat) = some k := hk
    injection h1 with h1
    omega)
/-- A list that may be appended to, as a list to be read. -/
theorem St.asLs {w W : World} {L : List Thing} {E : TypeId} {sz : Nat} {v : Value} {l : List (List Value)} (h : St w W (rowT E sz v l :: L)) : St w W (lsT sz v l :: L) :=
  (h.sub (List.sublist_cons_self _ _)).addAt (lsT sz v l) (h.row 0 _ _ _ _ rfl).toO (fun k hk => h.nthPast 0 _ rfl k hk) (fun b hb k hk => (List.pairwise_cons.1 h.apart).1 b hb k hk)
/-- Cells that are read. -/
def seeT (g : Nat) (l : List Value) : Thing := ⟨fun k => k = g, fun W => g < W.heap.size ∧ ∀ j (hj : j < l.length), W.cell? ⟨g, j, none⟩ = some l[j], fun W h k hk => by rw [show k = g from hk]; exact h.1, fun W W' S h ht hne => by
  have hb : W'.heap[g]? = W.heap[g]? := ht.block g h.1 (hne g rfl)
  exact ⟨Nat.lt_of_lt_of_le h.1 ht.size, fun j hj => by rw [← h.2 j hj]; simp [World.cell?, hb]⟩⟩
theorem St.see {w W : World} {L : List Thing} (h : St w W L) (i g : Nat) (l : List Value) (e : L[i]? = some (seeT g l)) : ∀ j (hj : j < l.length), W.cell? ⟨g, j, none⟩ = some l[j] := (h.nth i _ e).2
/-- A call that hands back a thing of its own. -/
def Gives (w : World) (T : Value → Thing) (e : Ending) (w' : World) : Prop := ∃ v, e = .returned v ∧ (T v).P w' ∧ (∀ k, (T v).F k → w.heap.size ≤ k) ∧ Below w.heap.size w w'
/-- A call that answers a question. -/
def BoolEnd (w : World) (b : Bool) (e : Ending) (w' : World) : Prop := e = .returned (.bool b) ∧ Below w.heap.size w w'
end Go.Proofs.Ytckofkdeedbbgaa
/- What this text proves: things that lie apart, taken together as one thing; some of the things, in any order. -/
namespace Go.Proofs.Ytckofkdeedbbgaa
open Go.ChangeShapes Go.WideShapes Go.ChangeAt Go.RowKit
set_option linter.unusedVariables false

/-- Several things that lie apart, as one. -/
def allT (L : List Thing) : Thing where
  F := fun k => ∃ t ∈ L, t.F k
  P := fun W => (∀ t ∈ L, t.P W) ∧ List.Pairwise (fun (a b : Thing) => ∀ k : Nat, a.F k → ¬ b.F k) L
  lt := fun W h k hk => by
    obtain ⟨t, ht, hk⟩ := hk
    exact t.lt W (h.1 t ht) k hk
  keep := fun W W' S h ht hne => ⟨fun t hm => t.keep W W' S (h.1 t hm) ht (fun k hk => hne k ⟨t, hm, hk⟩), h.2⟩
theorem St.join {w W : World} {L1 L2 : List Thing} (h : St w W (L1 ++ L2)) : St w W (allT L1 :: L2) := by
  have ha := List.pairwise_append.1 h.apart
  refine ⟨h.below, fun t ht => ?_, fun t ht k hk => ?_, List.pairwise_cons.2 ⟨fun b hb k hk hk2 => ?_, ha.2.1⟩⟩
  · rcases List.mem_cons.1 ht with rfl | ht
    · exact ⟨fun t ht => h.all t (List.mem_append_left _ ht), ha.1⟩
    · exact h.all t (List.mem_append_right _ ht)
  · rcases List.mem_cons.1 ht with rfl | ht
    · obtain ⟨t, ht, hk⟩ := hk
      exact h.past t (List.mem_append_left _ ht) k hk
    · exact h.past t (List.mem_append_right _ ht) k hk
  · obtain ⟨t, ht, hk⟩ := hk
    exact ha.2.2 t ht b hb k hk hk2
theorem St.split {w W : World} {L1 L2 : List Thing} (h : St w W (allT L1 :: L2)) : St w W (L1 ++ L2) := by
  have hp := List.pairwise_cons.1 h.apart
  have h1 := h.all _ (List.mem_cons_self ..)
  refine ⟨h.below, fun t ht => ?_, fun t ht k hk => ?_, List.pairwise_append.2 ⟨h1.2, hp.2, fun a ha b hb k hk hk2 => hp.1 b hb k ⟨a, ha, hk⟩ hk2⟩⟩
  · rcases List.mem_append.1 ht with ht | ht
    · exact h1.1 t ht
    · exact h.all t (List.mem_cons_of_mem _ ht)
  · rcases List.mem_append.1 ht with ht | ht
    · exact h.past _ (List.mem_cons_self ..) k ⟨t, ht, hk⟩
    · exact h.past t (List.mem_cons_of_mem _ ht) k hk
/-- A thing with the same blocks, in its place. -/
theorem St.as {w W : World} {L : List Thing} (h : St w W L) (i : Nat) (t : Thing) (e : L[i]? = some t) (t' : Thing) (hp : t'.P W) (hF : ∀ k, t'.F k → t.F k) : St w W (L.set i t') :=
  h.put i t e (Touch.refl W (fun _ => False)) (fun k hk => hk.elim) t' hp (fun k hk => .inl (hF k hk))
def pickL (L : List Thing) : List Nat → List Thing
  | [] => []
  | i :: r => match L[i]? with
    | some t => t :: pickL L r
    | none => pickL L r
theorem pickL_mem {L : List Thing} : ∀ {is : List Nat} {t : Thing}, t ∈ pickL L is → ∃ i ∈ is, L[i]? = some t := by
  intro is
  induction is with
  | nil => intro t h; cases h
  | cons i r ih =>
    intro t h
    unfold pickL at h
    split at h
    · next u hu =>
      rcases List.mem_cons.1 h with rfl | h
      · exact ⟨i, List.mem_cons_self .., hu⟩
      · obtain ⟨j, hj, e⟩ := ih h
        exact ⟨j, List.mem_cons_of_mem _ hj, e⟩
    · obtain ⟨j, hj, e⟩ := ih h
      exact ⟨j, List.mem_cons_of_mem _ hj, e⟩
/-- Some of the things, in any order. -/
theorem St.pick {w W : World} {L : List Thing} (h : St w W L) (is : List Nat) (hn : is.Nodup) : St w W (pickL L is) := by
  refine ⟨h.below, fun t ht => ?_, fun t ht => ?_, ?_⟩
  · obtain ⟨i, _, e⟩ := pickL_mem ht
    exact h.nth i t e
  · obtain ⟨i, _, e⟩ := pickL_mem ht
    exact h.nthPast i t e
  · induction is with
    | nil => exact List.Pairwise.nil
    | cons i r ih =>
      have hr := List.nodup_cons.1 hn
      unfold pickL
      split
      · next u hu =>
        refine List.pairwise_cons.2 ⟨fun b hb => ?_, ih hr.2⟩
        obtain ⟨j, hj, e⟩ := pickL_mem hb
        exact h.two i j u b hu e (fun hij => hr.1 (hij ▸ hj))
      · exact ih hr.2
/-- Two lists of different elements lie in different blocks. -/
theorem own_apartG {E E' : TypeId} {sz sz' : Nat} (hne : E ≠ E') {w : World} {b b' : Nat} {v v' : Value} {l l' : List (List Value)} (h : OwnR E sz w b v l) (h' : OwnR E' sz' w b' v' l') : ∀ k, v.ownBlock = some k → ¬ v'.ownBlock = some k := by
  intro k hk hk'
  rcases h.1.2 with h1 | ⟨g, cap, cur, hv, hb, hh, h4⟩
  · rw [h1.1] at hk; cases hk
  · rcases h'.1.2 with h1' | ⟨g', cap', cur', hv', hb', hh', h4'⟩
    · rw [h1'.1] at hk'; cases hk'
    · rw [hv] at hk
      rw [hv'] at hk'
      have e1 : (some g : Option Nat) = some k := hk
      have e2 : (some g' : Option Nat) = some k := hk'
      injection e1 with e1
      injection e2 with e2
      subst e1 e2
      rw [hh] at hh'
      injection hh' with e3
      injection e3 with _ e4
      exact hne e4
end Go.Proofs.Ytckofkdeedbbgaa
/- What this text proves: recorders as things that lie apart: to be read, to be appended to, marked; their lists as things of their own. -/
namespace Go.Proofs.Ytckofkdeedbbgaa
open Go.ChangeShapes Go.WideShapes Go.ChangeAt Go.RowKit
set_option linter.unusedVariables false

/-- A recorder of the call's own, to be read. -/
def roT (v : Value) (r : Int) (l : List Rc) (d : List Int) : Thing := ⟨blkRo v, fun W => OwnRo W 0 v r l d, fun W h k hk => (h.blk hk).2, fun W W' S h ht hne => h.touch ht hne⟩
theorem OwnRr.touch {w w' : World} {base : Nat} {v : Value} {r : Int} {l : List Rc} {d : List Int} {S : Nat → Prop} (h : OwnRr w base v r l d) (ht : Touch w w' S) (hne : ∀ k, blkRo v k → ¬ S k) : OwnRr w' base v r l d := by
  obtain ⟨A, c, A2, c2, rfl, h1, h2, h3⟩ := h.form
  exact ⟨A, c, A2, c2, rfl, OwnR.touch h1 ht (fun k hk => hne k (blkRo_iff.2 (.inl hk))), OwnR.touch h2 ht (fun k hk => hne k (blkRo_iff.2 (.inr hk))), h3⟩
/-- A recorder of the call's own, to be appended to. -/
def rrT (v : Value) (r : Int) (l : List Rc) (d : List Int) : Thing := ⟨blkRo v, fun W => OwnRr W 0 v r l d, fun W h k hk => (h.toO.blk hk).2, fun W W' S h ht hne => h.touch ht hne⟩
theorem MkRo.blk {w : World} {base : Nat} {v : Value} {M n m : Nat} (h : MkRo w base v M n m) {k : Nat} (hk : blkRo v k) : k < w.heap.size := by
  obtain ⟨r, A, c, A2, c2, rfl, h1, h2⟩ := h.form
  rcases blkRo_iff.1 hk with e | e
  · exact (LsO.up h1 k e).2
  · exact (LsO.up h2 k e).2
/-- A recorder that bears marks. -/
def rmT (v : Value) (M n m : Nat) : Thing := ⟨blkRo v, fun W => MkRo W 0 v M n m, fun W h k hk => h.blk hk, fun W W' S h ht hne => h.touch ht hne⟩
/-- The two lists of a recorder, each by itself. -/
abbrev roRows (A : Option Addr) (c : Nat) (A2 : Option Addr) (c2 : Nat) (l : List Rc) (d : List Int) : List Thing := [rowT 50 4 (.slice A l.length c) (l.map rcC), rowT 3 1 (.slice A2 d.length c2) (d.map inC)]
theorem OwnRr.rows {W : World} {base : Nat} {r : Int} {A A2 : Option Addr} {c c2 : Nat} {l : List Rc} {d : List Int} (h : OwnRr W base (roV r (.slice A l.length c) (.slice A2 d.length c2)) r l d) : OwnR 50 4 W base (.slice A l.length c) (l.map rcC) ∧ OwnR 3 1 W base (.slice A2 d.length c2) (d.map inC) ∧ Apart (.slice A l.length c) (.slice A2 d.length c2) := by
  obtain ⟨A', c', A2', c2', e, h1, h2, h3⟩ := h.form
  simp only [roV, Value.agg.injEq, Array.mk.injEq, List.cons.injEq, Value.slice.injEq, true_and, and_true] at e
  obtain ⟨⟨e1, e2⟩, e3, e4⟩ := e
  subst e1 e2 e3 e4
  exact ⟨h1, h2, h3⟩
theorem St.splitR {w W : World} {L : List Thing} {r : Int} {A A2 : Option Addr} {c c2 : Nat} {l : List Rc} {d : List Int} (h : St w W (rrT (roV r (.slice A l.length c) (.slice A2 d.length c2)) r l d :: L)) : St w W (roRows A c A2 c2 l d ++ L) := by
  have hr : OwnRr W 0 (roV r (.slice A l.length c) (.slice A2 d.length c2)) r l d := h.nth 0 _ rfl
  obtain ⟨h1, h2, h3⟩ := hr.rows
  refine (h.as 0 _ rfl (allT (roRows A c A2 c2 l d)) ⟨fun t ht => ?_, List.pairwise_cons.2 ⟨fun t ht k hk hu => ?_, List.pairwise_singleton _ _⟩⟩ (fun k hk => ?_)).split
  · simp only [roRows, List.mem_cons, List.not_mem_nil, or_false] at ht
    rcases ht with rfl | rfl
    · exact h1
    · exact h2
  · rw [List.mem_singleton.1 ht] at hu
    exact h3 k hk hu
  · obtain ⟨t, ht, hk⟩ := hk
    simp only [roRows, List.mem_cons, List.not_mem_nil, or_false] at ht
    rcases ht with rfl | rfl
    · exact blkRo_iff.2 (.inl hk)
    · exact blkRo_iff.2 (.inr hk)
/-- Two lists that lie apart make a recorder. -/
theorem St.ownRr {w W : World} {L : List Thing} (h : St w W L) (r : Int) {A A2 : Option Addr} {c c2 : Nat} {l : List Rc} {d : List Int} (i j : Nat) (ei : L[i]? = some (rowT 50 4 (.slice A l.length c) (l.map rcC))) (ej : L[j]? = some (rowT 3 1 (.slice A2 d.length c2) (d.map inC))) (hne : i ≠ j) :
    (rrT (roV r (.slice A l.length c) (.slice A2 d.length c2)) r l d).P W ∧ ∀ k, (rrT (roV r (.slice A l.length c) (.slice A2 d.length c2)) r l d).F k → w.heap.size ≤ k := by
  refine ⟨⟨A, c, A2, c2, rfl, h.row i _ _ _ _ ei, h.row j _ _ _ _ ej, fun k hk hu => h.two i j _ _ ei ej hne k hk hu⟩, fun k hk => ?_⟩
  rcases blkRo_iff.1 hk with e | e
  · exact h.nthPast i _ ei k e
  · exact h.nthPast j _ ej k e
/-- A call that hands back a recorder of its own. -/
abbrev RrEnd (w : World) (r : Int) (l : List Rc) (d : List Int) : Ending → World → Prop := Gives w fun v => rrT v r l d
theorem rrT.ro {W : World} {v : Value} {r : Int} {l : List Rc} {d : List Int} (h : (rrT v r l d).P W) : (roT v r l d).P W := OwnRr.toO h
theorem rr_gives {w : World} {f : Nat} {args : Array Value} {r : Int} {l : List Rc} {d : List Int} (h : Calls Try.prog f args w fun e w' => ∃ v, e = .returned v ∧ OwnRr w' w.heap.size v r l d ∧ Below w.heap.size w w') : Calls Try.prog f args w (RrEnd w r l d) :=
  h.mono fun e w' ⟨v, h1, h2, h3⟩ => ⟨v, h1, h2.lower (Nat.zero_le _), fun k hk => (h2.toO.blk hk).1, h3⟩
theorem ro_gives {w : World} {f : Nat} {args : Array Value} {r : Int} {l : List Rc} {d : List Int} (h : Calls Try.prog f args w fun e w' => ∃ v, e = .returned v ∧ OwnRo w' w.heap.size v r l d ∧ Below w.heap.size w w') : Calls Try.prog f args w (Gives w fun v => roT v r l d) :=
  h.mono fun e w' ⟨v, h1, h2, h3⟩ => ⟨v, h1, h2.lower (Nat.zero_le _), fun k hk => (h2.blk hk).1, h3⟩
theorem rrT.form {W : World} {v : Value} {r : Int} {l : List Rc} {d : List Int} (h : (rrT v r l d).P W) : ∃ A c A2 c2, v = roV r (.slice A l.length c) (.slice A2 d.length c2) := by
  obtain ⟨A, c, A2, c2, rfl, _⟩ := OwnRr.form h
  exact ⟨A, c, A2, c2, rfl⟩
end Go.Proofs.Ytckofkdeedbbgaa
