/- What this text proves: what a valid plan is, and that plans are valid and leave no visible time that a request could use. -/
import Derived.Test.YtdfcamlnebcbpacPlM
namespace Go.Proofs.Ytdfcamlnebcbpac
set_option linter.unusedVariables false
/-- The slots are valid, one by one: at a visible time, later than the one before, of a request within its times. -/
def SlOne (V : Int → Bool) (L : List Rq) (P : List Sl) (k : Nat) : Prop := V (slAt P k).1 = true ∧ (0 < k → (slAt P (k - 1)).1 < (slAt P k).1) ∧ ∃ i, i < L.length ∧ rI L i = (slAt P k).2 ∧ rR L i ≤ (slAt P k).1 ∧ (slAt P k).1 ≤ rD L i
/-- And no request has more slots than its Need. -/
def SlNeed (L : List Rq) (P : List Sl) : Prop := ∀ i, i < L.length → (soR P (rI L i) : Int) ≤ rN L i
def PlkP (V : Int → Bool) (L : List Rq) (P : List Sl) : Prop := (∀ k, k < P.length → SlOne V L P k) ∧ SlNeed L P
theorem soN_pos {l : List Sl} {i : Int} {n : Nat} (h : 0 < soN l i n) : ∃ k, k < n ∧ (slAt l k).2 = i := by
  induction n with
  | zero => simp [soN] at h
  | succ n ih =>
    unfold soN at h
    by_cases e : (slAt l n).2 = i
    · exact ⟨n, by omega, e⟩
    · rw [if_neg e] at h
      obtain ⟨k, a, b⟩ := ih (by omega)
      exact ⟨k, by omega, b⟩
/-- What the model asks of each slot. -/
def SlMod (V : Int → Bool) (L : List Rq) (P : List Sl) (k : Nat) : Prop := V (slAt P k).1 = true ∧ (0 < k → (slAt P (k - 1)).1 < (slAt P k).1) ∧ ∃ i, i < L.length ∧ rI L i = (slAt P k).2 ∧ (rR L i ≤ (slAt P k).1 ∧ (slAt P k).1 ≤ rD L i) ∧ (soR P (rI L i) : Int) ≤ rN L i
theorem plk_model {V : Int → Bool} {L : List Rq} {P : List Sl} (h : RqsOk L) : (∀ k, k < P.length → SlMod V L P k) ↔ PlkP V L P := by
  constructor
  · intro hm
    refine ⟨fun k hk => ?_, fun i hi => ?_⟩
    · obtain ⟨a, b, i, c, d, e, f⟩ := hm k hk
      exact ⟨a, b, i, c, d, e.1, e.2⟩
    · rcases Nat.eq_zero_or_pos (soR P (rI L i)) with h0 | h0
      · have : 1 ≤ rN L i := (h.at hi).2.2.2.1
        omega
      · obtain ⟨k, hk, e⟩ := soN_pos h0
        obtain ⟨a, b, j, c, d, e2, f⟩ := hm k hk
        have := h.inj c hi (d.trans e)
        subst this
        exact f
  · rintro ⟨h1, h2⟩ k hk
    obtain ⟨a, b, i, c, d, e, f⟩ := h1 k hk
    exact ⟨a, b, i, c, d, ⟨e, f⟩, h2 i c⟩
/-- The index of the request with an Id; -1 if there is none. -/
def IdxIs (L : List Rq) (id i : Int) : Prop := (i = -1 ∧ ∀ k, k < L.length → rI L k ≠ id) ∨ ∃ k : Nat, k < L.length ∧ i = k ∧ rI L k = id ∧ ∀ j, j < k → rI L j ≠ id
/-- The plan. -/
def plnR (V : Int → Bool) (o : Prop) [Decidable o] (L : List Rq) : List Sl := if o ∧ RqsOk L then plN V L 1000001 else []
theorem pl_bound {V : Int → Bool} {L : List Rq} (h : RqsOk L) (t : Nat) : (plN V L t).length ≤ 1200 := by
  have e := pl_len (V := V) h t
  have a := sumP_le (fun _ => True) (gAt V L t) (rN L) L.length (fun k hk _ => (g_bounds h t k hk).2)
  have b : ∀ n, n ≤ L.length → sumP (fun _ => True) (rN L) n ≤ 100 * n := fun n => by
    induction n with
    | zero => intro _; exact Int.le_refl _
    | succ n ih =>
      intro hn
      have := ih (by omega)
      have hN : rN L n ≤ 100 := (h.at (k := n) (by omega)).2.2.2.2
      unfold sumP
      rw [if_pos trivial]
      omega
  have := b _ (Nat.le_refl _)
  have := h.1
  omega
/-- A plan keeps its rules. -/
theorem pl_keeps {V : Int → Bool} {L : List Rq} (h : RqsOk L) (t : Nat) : PlkP V L (plN V L t) := by
  refine ⟨fun k hk => ?_, fun i hi => ?_⟩
  · have hm : slAt (plN V L t) k ∈ plN V L t := by simp only [slAt, List.getD_eq_getElem?_getD, List.getElem?_eq_getElem hk, Option.getD_some]; exact List.getElem_mem hk
    obtain ⟨a, b, i, c, d, e, f⟩ := pl_slot h t _ hm
    refine ⟨a, fun h0 => ?_, i, c, d.symm, e, f⟩
    have := List.pairwise_iff_getElem.1 (pl_asc (V := V) h t) (k - 1) k (by omega) hk (by omega)
    simp only [slAt, List.getD_eq_getElem?_getD, List.getElem?_eq_getElem hk, List.getElem?_eq_getElem (show k - 1 < (plN V L t).length by omega), Option.getD_some]
    exact this
  · rw [g_count h t i hi]
    exact (g_bounds h t i hi).2
/-- The slot at the time of a slot is this one. -/
theorem pl_sot {V : Int → Bool} {L : List Rq} (h : RqsOk L) (t k : Nat) (hk : k < (plN V L t).length) : sotR (plN V L t) (slAt (plN V L t) k).1 = (slAt (plN V L t) k).2 := by
  refine sotR_at _ _ k hk (fun j hj e => ?_) rfl
  have := List.pairwise_iff_getElem.1 (pl_asc (V := V) h t) j k (by omega) hk hj
  simp only [slAt, List.getD_eq_getElem?_getD, List.getElem?_eq_getElem hk, List.getElem?_eq_getElem (show j < (plN V L t).length by omega), Option.getD_some] at e
  omega
/-- Nothing is missed exactly if every request has all its slots. -/
theorem mis_nil {V : Int → Bool} {L : List Rq} (h : RqsOk L) (t : Nat) : misP L (plN V L t) = [] ↔ ∀ k, k < L.length → rN L k ≤ gAt V L t k := by
  constructor
  · intro e k hk
    apply Classical.byContradiction
    intro hc
    have : rI L k ∈ misP L (plN V L t) := misN_mem.2 ⟨k, hk, rfl, by rw [g_count h t k hk]; omega⟩
    rw [e] at this; simp at this
  · intro hh
    rw [List.eq_nil_iff_forall_not_mem]
    intro i hi
    obtain ⟨k, hk, rfl, hlt⟩ := misN_mem.1 hi
    rw [g_count h t k hk] at hlt
    have := hh k hk
    omega
/-- No request could use a visible time that is left over. -/
theorem pl_noidle {V : Int → Bool} {L : List Rq} (h : RqsOk L) (T t k : Nat) (ht : t < T) (hk : k < L.length) (hv : V t = true) (hs : sotR (plN V L T) t < 0) (hr : rR L k ≤ t) (hd : (t : Int) ≤ rD L k) : rN L k ≤ gAt V L T k := by
  rw [pl_at h T t ht] at hs
  cases hp : pik V L (gAt V L t) t with
  | none =>
    have := (pik_none h).1 hp hv k hk
    have hg : ¬ gAt V L t k < rN L k := fun hlt => this ⟨hr, hd, hlt⟩
    have := g_mono (V := V) (L := L) t (T - t) k
    rw [show t + (T - t) = T by omega] at this
    omega
  | some j =>
    rw [hp] at hs
    have : 0 ≤ rI L j := (h.at ((pik_some h).1 hp).2.1).1.1
    simp only [] at hs
    omega
end Go.Proofs.Ytdfcamlnebcbpac
