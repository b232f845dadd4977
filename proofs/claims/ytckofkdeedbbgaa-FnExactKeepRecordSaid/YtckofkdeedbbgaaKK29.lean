/- What this text proves: the parts SZ of the proof, each under its own words. -/
import Derived.Test.YtckofkdeedbbgaaKK15
/- What this text proves: things that a drawn region makes, beside one box that it may make at any moment. -/
namespace Go.Proofs.Ytckofkdeedbbgaa
open Go.ChangeShapes Go.WideShapes Go.ChangeAt Go.RowKit
set_option linter.unusedVariables false

def optB : Option (Nat × List Value) → List Thing
  | none => []
  | some z => [boxT z.1 z.2]
/-- What has been made since the world b: some things, and the region's own box once it is there. -/
structure SZ (b W : World) (zo : Option (Nat × List Value)) (L : List Thing) : Prop where
  st : St b W (optB zo ++ L)
theorem SZ.start (b : World) : SZ b b none [] := ⟨St.start b⟩
theorem SZ.more {b W W' : World} {zo : Option (Nat × List Value)} {L : List Thing} (h : SZ b W zo L) (hb : Below W.heap.size W W') : SZ b W' zo L := ⟨h.st.more hb⟩
theorem SZ.drew {b W : World} {zo : Option (Nat × List Value)} {L : List Thing} (h : SZ b W zo L) : SZ b W.drew zo L := ⟨h.st.drew⟩
theorem SZ.below {b W : World} {zo : Option (Nat × List Value)} {L : List Thing} (h : SZ b W zo L) : Below b.heap.size b W := h.st.below
theorem SZ.new {b W : World} {L : List Thing} (h : SZ b W none L) (zs : List Value) (T : TypeId) : SZ b (W.alloc (.cells zs.toArray T)) (some (W.heap.size, zs)) L := ⟨h.st.made zs T⟩
theorem SZ.add {b W W' : World} {zo : Option (Nat × List Value)} {L : List Thing} (h : SZ b W zo L) (t : Thing) (hb : Below W.heap.size W W') (hp : t.P W') (hn : ∀ k, t.F k → W.heap.size ≤ k) : SZ b W' zo (t :: L) := by
  cases zo with
  | none => exact ⟨h.st.add t hb hp hn⟩
  | some z =>
    refine ⟨?_⟩
    have h1 := h.st.add t hb hp hn
    have h2 : St b W' ((t :: boxT z.1 z.2 :: L)) := h1
    refine ⟨h2.below, fun s hs => h2.all s ?_, fun s hs => h2.past s ?_, ?_⟩
    · have h3 : s ∈ boxT z.1 z.2 :: t :: L := hs
      simp only [List.mem_cons] at h3 ⊢
      rcases h3 with h3 | h3 | h3
      · exact .inr (.inl h3)
      · exact .inl h3
      · exact .inr (.inr h3)
    · have h3 : s ∈ boxT z.1 z.2 :: t :: L := hs
      simp only [List.mem_cons] at h3 ⊢
      rcases h3 with h3 | h3 | h3
      · exact .inr (.inl h3)
      · exact .inl h3
      · exact .inr (.inr h3)
    · have h4 := List.pairwise_cons.1 h2.apart
      have h5 := List.pairwise_cons.1 h4.2
      refine List.pairwise_cons.2 ⟨fun u hu k hk hk2 => ?_, List.pairwise_cons.2 ⟨fun u hu => h4.1 u (List.mem_cons_of_mem _ hu), h5.2⟩⟩
      rcases List.mem_cons.1 hu with rfl | hu
      · exact h4.1 _ (List.mem_cons_self ..) k hk2 hk
      · exact h5.1 u hu k hk hk2
theorem SZ.has {b W : World} {zo : Option (Nat × List Value)} {L : List Thing} (h : SZ b W zo L) (t : Thing) (ht : t ∈ L) : t.P W := h.st.all t (List.mem_append_right _ ht)
theorem SZ.box {b W : World} {g : Nat} {zs : List Value} {L : List Thing} (h : SZ b W (some (g, zs)) L) : Box W g zs := h.st.box 0 g zs rfl
/-- The box is made at the end, with its values. -/
theorem SZ.fin_made {b W : World} {zo : Option (Nat × List Value)} {L : List Thing} (h : SZ b W zo L) (us : List Value) (T : TypeId) : St b (W.alloc (.cells us.toArray T)) (boxT W.heap.size us :: L) :=
  (h.st.sub (List.sublist_append_right _ _)).made us T
/-- The box was there, and is stored. -/
theorem SZ.fin_put {b W : World} {g : Nat} {zs : List Value} {L : List Thing} (h : SZ b W (some (g, zs)) L) (us : List Value) (hl : us.length = zs.length) : St b (W.setCells g 0 us) (boxT g us :: L) := h.st.setAll 0 g zs rfl us hl
/-- Things of before a world, and things that were made since. -/
theorem St.trans {w b W : World} {L L' : List Thing} (h : St w b L) (h' : St b W L') : St w W (L' ++ L) := by
  have h0 := h.more h'.below
  have hz := h.below.size
  refine ⟨h0.below, fun t ht => ?_, fun t ht k hk => ?_, List.pairwise_append.2 ⟨h'.apart, h0.apart, fun a ha c hc k hk hk2 => ?_⟩⟩
  · rcases List.mem_append.1 ht with ht | ht
    · exact h'.all t ht
    · exact h0.all t ht
  · rcases List.mem_append.1 ht with ht | ht
    · exact Nat.le_trans hz (h'.past t ht k hk)
    · exact h0.past t ht k hk
  · have h1 := h'.past a ha k hk
    have h2 := h.fresh c hc k hk2
    omega
/-- A thing of before is there still. -/
theorem Thing.stays {t : Thing} {b W : World} (h : t.P b) (hb : Below b.heap.size b W) : t.P W := t.keep b W (fun _ => False) h (Touch.of_below hb _) (fun _ _ e => e)
end Go.Proofs.Ytckofkdeedbbgaa
