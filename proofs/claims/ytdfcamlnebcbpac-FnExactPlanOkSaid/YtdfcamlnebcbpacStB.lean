/- What this text proves: things that lie apart, taken together as one thing; some of the things, in any order. -/
import Derived.Test.YtdfcamlnebcbpacSt
namespace Go.Proofs.Ytdfcamlnebcbpac
open Go.ChangeShapes Go.WideShapes Go.ChangeAt Go.RowKit
set_option linter.unusedVariables false

/-- Several things that lie apart, as one. -/
def allT (L : List Thing) : Thing where
  F := fun k => ∃ t ∈ L, t.F k
  P := fun W => (∀ t ∈ L, t.P W) ∧ List.Pairwise (fun (a b : Thing) => ∀ k : Nat, a.F k → ¬ b.F k) L
  lt := fun W h k hk => by
    obtain ⟨t, ht, hk⟩ := hk
    exact t.lt W (h.1 t ht) k hk
  keep := fun W W' S h ht hne => ⟨fun t hm => t.keep W W' S (h.1 t hm) ht (fun k hk => hne k ⟨t, hm, hk⟩), h.2⟩
theorem St.join {w W : World} {L1 L2 : List Thing} (h : St w W (L1 ++ L2)) : St w W (allT L1 :: L2) := by
  have ha := List.pairwise_append.1 h.apart
  refine ⟨h.below, fun t ht => ?_, fun t ht k hk => ?_, List.pairwise_cons.2 ⟨fun b hb k hk hk2 => ?_, ha.2.1⟩⟩
  · rcases List.mem_cons.1 ht with rfl | ht
    · exact ⟨fun t ht => h.all t (List.mem_append_left _ ht), ha.1⟩
    · exact h.all t (List.mem_append_right _ ht)
  · rcases List.mem_cons.1 ht with rfl | ht
    · obtain ⟨t, ht, hk⟩ := hk
      exact h.past t (List.mem_append_left _ ht) k hk
    · exact h.past t (List.mem_append_right _ ht) k hk
  · obtain ⟨t, ht, hk⟩ := hk
    exact ha.2.2 t ht b hb k hk hk2
theorem St.split {w W : World} {L1 L2 : List Thing} (h : St w W (allT L1 :: L2)) : St w W (L1 ++ L2) := by
  have hp := List.pairwise_cons.1 h.apart
  have h1 := h.all _ (List.mem_cons_self ..)
  refine ⟨h.below, fun t ht => ?_, fun t ht k hk => ?_, List.pairwise_append.2 ⟨h1.2, hp.2, fun a ha b hb k hk hk2 => hp.1 b hb k ⟨a, ha, hk⟩ hk2⟩⟩
  · rcases List.mem_append.1 ht with ht | ht
    · exact h1.1 t ht
    · exact h.all t (List.mem_cons_of_mem _ ht)
  · rcases List.mem_append.1 ht with ht | ht
    · exact h.past _ (List.mem_cons_self ..) k ⟨t, ht, hk⟩
    · exact h.past t (List.mem_cons_of_mem _ ht) k hk
/-- A thing with the same blocks, in its place. -/
theorem St.as {w W : World} {L : List Thing} (h : St w W L) (i : Nat) (t : Thing) (e : L[i]? = some t) (t' : Thing) (hp : t'.P W) (hF : ∀ k, t'.F k → t.F k) : St w W (L.set i t') :=
  h.put i t e (Touch.refl W (fun _ => False)) (fun k hk => hk.elim) t' hp (fun k hk => .inl (hF k hk))
def pickL (L : List Thing) : List Nat → List Thing
  | [] => []
  | i :: r => match L[i]? with
    | some t => t :: pickL L r
    | none => pickL L r
theorem pickL_mem {L : List Thing} : ∀ {is : List Nat} {t : Thing}, t ∈ pickL L is → ∃ i ∈ is, L[i]? = some t := by
  intro is
  induction is with
  | nil => intro t h; cases h
  | cons i r ih =>
    intro t h
    unfold pickL at h
    split at h
    · next u hu =>
      rcases List.mem_cons.1 h with rfl | h
      · exact ⟨i, List.mem_cons_self .., hu⟩
      · obtain ⟨j, hj, e⟩ := ih h
        exact ⟨j, List.mem_cons_of_mem _ hj, e⟩
    · obtain ⟨j, hj, e⟩ := ih h
      exact ⟨j, List.mem_cons_of_mem _ hj, e⟩
/-- Some of the things, in any order. -/
theorem St.pick {w W : World} {L : List Thing} (h : St w W L) (is : List Nat) (hn : is.Nodup) : St w W (pickL L is) := by
  refine ⟨h.below, fun t ht => ?_, fun t ht => ?_, ?_⟩
  · obtain ⟨i, _, e⟩ := pickL_mem ht
    exact h.nth i t e
  · obtain ⟨i, _, e⟩ := pickL_mem ht
    exact h.nthPast i t e
  · induction is with
    | nil => exact List.Pairwise.nil
    | cons i r ih =>
      have hr := List.nodup_cons.1 hn
      unfold pickL
      split
      · next u hu =>
        refine List.pairwise_cons.2 ⟨fun b hb => ?_, ih hr.2⟩
        obtain ⟨j, hj, e⟩ := pickL_mem hb
        exact h.two i j u b hu e (fun hij => hr.1 (hij ▸ hj))
      · exact ih hr.2
/-- Two lists of different elements lie in different blocks. -/
theorem own_apartG {E E' : TypeId} {sz sz' : Nat} (hne : E ≠ E') {w : World} {b b' : Nat} {v v' : Value} {l l' : List (List Value)} (h : OwnR E sz w b v l) (h' : OwnR E' sz' w b' v' l') : ∀ k, v.ownBlock = some k → ¬ v'.ownBlock = some k := by
  intro k hk hk'
  rcases h.1.2 with h1 | ⟨g, cap, cur, hv, hb, hh, h4⟩
  · rw [h1.1] at hk; cases hk
  · rcases h'.1.2 with h1' | ⟨g', cap', cur', hv', hb', hh', h4'⟩
    · rw [h1'.1] at hk'; cases hk'
    · rw [hv] at hk
      rw [hv'] at hk'
      have e1 : (some g : Option Nat) = some k := hk
      have e2 : (some g' : Option Nat) = some k := hk'
      injection e1 with e1
      injection e2 with e2
      subst e1 e2
      rw [hh] at hh'
      injection hh' with e3
      injection e3 with _ e4
      exact hne e4
end Go.Proofs.Ytdfcamlnebcbpac
