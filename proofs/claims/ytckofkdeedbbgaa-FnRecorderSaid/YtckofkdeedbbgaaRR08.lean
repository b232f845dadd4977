/- What this text proves: the parts KpM of the proof, each under its own words. -/
import Derived.Test.YtckofkdeedbbgaaRR07
/- What this text proves: which records a recorder gives up for a new one: the program's way and the model's come to the same. -/
namespace Go.Proofs.Ytckofkdeedbbgaa
set_option linter.unusedVariables false

/-- The bytes of a list of records, all of it. -/
def sumR (l : List Rc) : Nat := (l.map fun x => 6 + x.2.2.2.size).sum
theorem sumR_app (a b : List Rc) : sumR (a ++ b) = sumR a + sumR b := by simp [sumR]
theorem sumR_cons (x : Rc) (l : List Rc) : sumR (x :: l) = 6 + x.2.2.2.size + sumR l := by simp [sumR]
theorem useR_take (l : List Rc) : ∀ k, k ≤ l.length → useR l k = sumR (l.take k) := by
  intro k
  induction k with
  | zero => intro _; rw [useR_zero]; rfl
  | succ k ih =>
    intro hk
    rw [useR_succ, ih (by omega), getRc_at (show k < l.length by omega), List.take_succ_eq_append_getElem (show k < l.length by omega), sumR_app, sumR_cons]
    rfl
theorem useR_sum (l : List Rc) : useR l l.length = sumR l := by rw [useR_take l _ (Nat.le_refl _), List.take_length]
theorem sumR_erase {l : List Rc} {k : Nat} (h : k < l.length) : sumR (l.eraseIdx k) + (6 + l[k].2.2.2.size) = sumR l := by
  have h1 : l = l.take k ++ l[k] :: l.drop (k + 1) := by rw [← List.drop_eq_getElem_cons, List.take_append_drop]
  have h2 : sumR l = sumR (l.take k) + (6 + l[k].2.2.2.size + sumR (l.drop (k + 1))) := by
    have h3 := congrArg sumR h1
    rw [sumR_app, sumR_cons] at h3
    omega
  rw [List.eraseIdx_eq_take_drop_succ, sumR_app]
  omega
/-- The first record of the least priority below p among the first k; -1 if there is none. -/
def lsB (l : List Rc) (p : Int) : Nat → Int
  | 0 => -1
  | k + 1 => if (l.getD k rc0).2.1 < p ∧ (lsB l p k < 0 ∨ (l.getD k rc0).2.1 < (l.getD (lsB l p k).toNat rc0).2.1) then (k : Int) else lsB l p k
/-- The first record of the least priority among the first k. -/
def loB (l : List Rc) : Nat → Nat
  | 0 => 0
  | k + 1 => if (l.getD k rc0).2.1 < (l.getD (loB l k) rc0).2.1 then k else loB l k
/-- The bytes of those of the first k whose priority is less than p. -/
def lessL (l : List Rc) (p : Int) (k : Nat) : List Rc := (l.take k).filter fun x => decide (x.2.1 < p)
def IsLs (l : List Rc) (p : Int) (n : Nat) (b : Nat) : Prop := b < n ∧ (l.getD b rc0).2.1 < p ∧ (∀ j, j < n → (l.getD b rc0).2.1 ≤ (l.getD j rc0).2.1) ∧ (∀ j, j < b → (l.getD b rc0).2.1 < (l.getD j rc0).2.1)
theorem lsB_at (l : List Rc) (p : Int) : ∀ n, (lsB l p n = -1 ∧ ∀ j, j < n → p ≤ (l.getD j rc0).2.1) ∨ (∃ b : Nat, lsB l p n = (b : Int) ∧ IsLs l p n b) := by
  intro n
  induction n with
  | zero => exact .inl ⟨rfl, fun j h => absurd h (Nat.not_lt_zero _)⟩
  | succ n ih =>
    unfold lsB
    rcases ih with ⟨h1, h2⟩ | ⟨b, h1, h2, h3, h4, h5⟩
    · rw [h1]
      by_cases h : (l.getD n rc0).2.1 < p
      · rw [if_pos ⟨h, .inl (by omega)⟩]
        refine .inr ⟨n, rfl, by omega, h, fun j hj => ?_, fun j hj => ?_⟩
        · rcases Nat.lt_or_ge j n with g | g
          · have := h2 j g; omega
          · obtain rfl : j = n := by omega
            exact Int.le_refl _
        · have := h2 j hj; omega
      · rw [if_neg (fun g => h g.1)]
        refine .inl ⟨rfl, fun j hj => ?_⟩
        rcases Nat.lt_or_ge j n with g | g
        · exact h2 j g
        · obtain rfl : j = n := by omega
          omega
    · rw [h1]
      have hb : ((b : Int)).toNat = b := by omega
      rw [hb]
      by_cases h : (l.getD n rc0).2.1 < (l.getD b rc0).2.1
      · rw [if_pos ⟨by omega, .inr h⟩]
        refine .inr ⟨n, rfl, by omega, by omega, fun j hj => ?_, fun j hj => ?_⟩
        · rcases Nat.lt_or_ge j n with g | g
          · have := h4 j g; omega
          · obtain rfl : j = n := by omega
            exact Int.le_refl _
        · have := h4 j hj; omega
      · rw [if_neg (fun g => by rcases g.2 with g2 | g2; omega; exact h g2)]
        refine .inr ⟨b, rfl, by omega, h3, fun j hj => ?_, h5⟩
        rcases Nat.lt_or_ge j n with g | g
        · exact h4 j g
        · obtain rfl : j = n := by omega
          omega
theorem loB_at (l : List Rc) : ∀ n, 0 < n → loB l n < n ∧ (∀ j, j < n → (l.getD (loB l n) rc0).2.1 ≤ (l.getD j rc0).2.1) ∧ (∀ j, j < loB l n → (l.getD (loB l n) rc0).2.1 < (l.getD j rc0).2.1) := by
  intro n
  induction n with
  | zero => intro h; exact absurd h (Nat.lt_irrefl _)
  | succ n ih =>
    intro _
    rcases Nat.eq_zero_or_pos n with h0 | h0
    · subst h0
      have : loB l (0 + 1) = 0 := by simp [loB]
      rw [this]
      refine ⟨by omega, fun j hj => ?_, fun j hj => absurd hj (Nat.not_lt_zero _)⟩
      obtain rfl : j = 0 := by omega
      exact Int.le_refl _
    · obtain ⟨h1, h2, h3⟩ := ih h0
      unfold loB
      by_cases h : (l.getD n rc0).2.1 < (l.getD (loB l n) rc0).2.1
      · rw [if_pos h]
        refine ⟨by omega, fun j hj => ?_, fun j hj => ?_⟩
        · rcases Nat.lt_or_ge j n with g | g
          · have := h2 j g; omega
          · obtain rfl : j = n := by omega
            exact Int.le_refl _
        · have := h2 j hj; omega
      · rw [if_neg h]
        refine ⟨by omega, fun j hj => ?_, h3⟩
        rcases Nat.lt_or_ge j n with g | g
        · exact h2 j g
        · obtain rfl : j = n := by omega
          omega
/-- Where one of lesser priority is, the least of them is the least of all. -/
theorem loB_lsB {l : List Rc} {p : Int} {n : Nat} (h : ¬ lsB l p n = -1) : lsB l p n = (loB l n : Int) ∧ loB l n < n ∧ (l.getD (loB l n) rc0).2.1 < p := by
  rcases lsB_at l p n with ⟨h1, _⟩ | ⟨b, h1, h2, h3, h4, h5⟩
  · exact absurd h1 h
  · obtain ⟨g1, g2, g3⟩ := loB_at l n (by omega)
    have : b = loB l n := by
      rcases Nat.lt_trichotomy b (loB l n) with e | e | e
      · have := g3 b e; have := h4 _ g1; omega
      · exact e
      · have := h5 _ e; have := g2 _ h2; omega
    subst this
    exact ⟨h1, g1, h3⟩
theorem lsB_no {l : List Rc} {p : Int} : lsB l p l.length = -1 ↔ l.filter (fun x => decide (x.2.1 < p)) = [] := by
  rw [List.filter_eq_nil_iff]
  rcases lsB_at l p l.length with ⟨h1, h2⟩ | ⟨b, h1, h2, h3, _⟩
  · refine ⟨fun _ x hx => ?_, fun _ => h1⟩
    obtain ⟨j, hj, rfl⟩ := List.mem_iff_getElem.1 hx
    have := h2 j hj
    rw [getRc_at hj] at this
    simp; omega
  · refine ⟨fun e => by omega, fun e => ?_⟩
    have := e l[b] (List.getElem_mem h2)
    rw [getRc_at h2] at h3
    simp at this
    omega
/-- Records of lesser priority are given up, one after the other, until those that stay have room: no answer where there would not be enough. -/
def kpGo (p n : Int) : Nat → List Rc → List Int → Option (List Rc × List Int)
  | f, l, d => if (sumR l : Int) ≤ n then some (l, d) else match f with
    | 0 => none
    | f + 1 => if lsB l p l.length = -1 then none else kpGo p n f (l.eraseIdx (loB l l.length)) (d ++ [(l.getD (loB l l.length) rc0).1])
theorem kpGo_done {p n : Int} {f : Nat} {l : List Rc} {d : List Int} (h : (sumR l : Int) ≤ n) : kpGo p n f l d = some (l, d) := by unfold kpGo; rw [if_pos h]
theorem kpGo_stuck {p n : Int} {f : Nat} {l : List Rc} {d : List Int} (h : ¬ (sumR l : Int) ≤ n) (h2 : lsB l p l.length = -1) : kpGo p n f l d = none := by
  unfold kpGo
  rw [if_neg h]
  cases f with
  | zero => rfl
  | succ f => show (if _ then _ else _) = _; rw [if_pos h2]
theorem kpGo_step {p n : Int} {f : Nat} {l : List Rc} {d : List Int} (h : ¬ (sumR l : Int) ≤ n) (h2 : ¬ lsB l p l.length = -1) : kpGo p n (f + 1) l d = kpGo p n f (l.eraseIdx (loB l l.length)) (d ++ [(l.getD (loB l l.length) rc0).1]) := by
  conv => lhs; unfold kpGo
  rw [if_neg h]
  show (if _ then _ else _) = _
  rw [if_neg h2]
/-- There is an answer just if those of lesser priority are enough. -/
theorem kpGo_some {p n : Int} : ∀ (f : Nat) (l : List Rc) (d : List Int), l.length ≤ f → ((kpGo p n f l d).isSome = true ↔ (sumR l : Int) - n ≤ sumR (l.filter fun x => decide (x.2.1 < p)) ∨ (sumR l : Int) ≤ n) := by
  intro f
  induction f with
  | zero =>
    intro l d hl
    obtain rfl : l = [] := List.eq_nil_of_length_eq_zero (by omega)
    by_cases h : ((sumR ([] : List Rc) : Nat) : Int) ≤ n
    · rw [kpGo_done h]; simp [h]
    · rw [kpGo_stuck h rfl]
      simp [sumR] at h ⊢
      omega
  | succ f ih =>
    intro l d hl
    by_cases h : (sumR l : Int) ≤ n
    · rw [kpGo_done h]; simp [h]
    · by_cases h2 : lsB l p l.length = -1
      · rw [kpGo_stuck h h2, lsB_no.1 h2]
        simp [sumR] at h ⊢
        omega
      · rw [kpGo_step h h2]
        obtain ⟨g1, g2, g3⟩ := loB_lsB h2
        rw [ih _ _ (by rw [List.length_eraseIdx]; split <;> omega)]
        have e1 := sumR_erase g2
        generalize hm : loB l l.length = m at *
        have e2 : l.filter (fun x => decide (x.2.1 < p)) = (l.take m).filter (fun x => decide (x.2.1 < p)) ++ l[m] :: (l.drop (m + 1)).filter (fun x => decide (x.2.1 < p)) := by
          have h1 : l = l.take m ++ l[m] :: l.drop (m + 1) := by rw [← List.drop_eq_getElem_cons, List.take_append_drop]
          conv => lhs; rw [h1]
          rw [getRc_at g2] at g3
          rw [List.filter_append, List.filter_cons, if_pos (by simpa using g3)]
        have e3 : (l.eraseIdx m).filter (fun x => decide (x.2.1 < p)) = (l.take m).filter (fun x => decide (x.2.1 < p)) ++ (l.drop (m + 1)).filter (fun x => decide (x.2.1 < p)) := by
          rw [List.eraseIdx_eq_take_drop_succ, List.filter_append]
        rw [e2, e3]
        have e4 : ∀ (a b : List Rc) (x : Rc), sumR (a ++ x :: b) = sumR a + (6 + x.2.2.2.size) + sumR b := fun a b x => by simp [sumR]; omega
        rw [e4, sumR_app]
        omega
theorem kpGo_le {p n : Int} : ∀ (f : Nat) (l : List Rc) (d : List Int) (l' : List Rc) (d' : List Int), kpGo p n f l d = some (l', d') → l'.length ≤ l.length ∧ d'.length ≤ d.length + l.length ∧ sumR l' ≤ sumR l ∧ (sumR l' : Int) ≤ n := by
  intro f
  induction f with
  | zero =>
    intro l d l' d' h
    by_cases h1 : (sumR l : Int) ≤ n
    · rw [kpGo_done h1] at h
      injection h with h; injection h with h2 h3; subst h2 h3
      exact ⟨Nat.le_refl _, by omega, Nat.le_refl _, h1⟩
    · unfold kpGo at h
      rw [if_neg h1] at h
      cases h
  | succ f ih =>
    intro l d l' d' h
    by_cases h1 : (sumR l : Int) ≤ n
    · rw [kpGo_done h1] at h
      injection h with h; injection h with h2 h3; subst h2 h3
      exact ⟨Nat.le_refl _, by omega, Nat.le_refl _, h1⟩
    · by_cases h2 : lsB l p l.length = -1
      · rw [kpGo_stuck h1 h2] at h
        cases h
      · rw [kpGo_step h1 h2] at h
        obtain ⟨g1, g2, g3⟩ := loB_lsB h2
        have := ih _ _ _ _ h
        have e1 := sumR_erase g2
        have e2 : (l.eraseIdx (loB l l.length)).length = l.length - 1 := by rw [List.length_eraseIdx, if_pos g2]
        rw [List.length_append] at this
        simp at this
        omega
theorem lessL_yes {l : List Rc} {p : Int} {k : Nat} (hk : k < l.length) (h : l[k].2.1 < p) : lessL l p (k + 1) = lessL l p k ++ [l[k]] := by
  unfold lessL
  rw [List.take_succ_eq_append_getElem hk, List.filter_append, List.filter_cons, if_pos (by simpa using h)]
  rfl
theorem lessL_no {l : List Rc} {p : Int} {k : Nat} (hk : k < l.length) (h : ¬ l[k].2.1 < p) : lessL l p (k + 1) = lessL l p k := by
  unfold lessL
  rw [List.take_succ_eq_append_getElem hk, List.filter_append, List.filter_cons, if_neg (by simpa using h)]
  simp
theorem lessL_len (l : List Rc) (p : Int) (k : Nat) : (lessL l p k).length ≤ l.length := by
  unfold lessL
  exact Nat.le_trans (List.length_filter_le _ _) (List.length_take_le' _ _)
theorem lessL_all (l : List Rc) (p : Int) : lessL l p l.length = l.filter fun x => decide (x.2.1 < p) := by
  unfold lessL
  rw [List.take_length]
theorem loB_lt {l : List Rc} {k : Nat} (hk : k < l.length) : loB l k < l.length := by
  rcases Nat.eq_zero_or_pos k with h | h
  · subst h; exact hk
  · have := (loB_at l k h).1; omega
theorem loB_yes {l : List Rc} {k : Nat} (hk : k < l.length) (hb : loB l k < l.length) (h : l[k].2.1 < l[loB l k].2.1) : loB l (k + 1) = k := by
  show (if _ then _ else _) = _
  rw [getRc_at hk, getRc_at hb, if_pos h]
theorem loB_no {l : List Rc} {k : Nat} (hk : k < l.length) (hb : loB l k < l.length) (h : ¬ l[k].2.1 < l[loB l k].2.1) : loB l (k + 1) = loB l k := by
  show (if _ then _ else _) = _
  rw [getRc_at hk, getRc_at hb, if_neg h]
/-- One step of the search: not lesser; the first of the lesser; lesser than the one before, or not. -/
theorem lsB_next {l : List Rc} {p : Int} {k : Nat} (hk : k < l.length) :
    (¬ l[k].2.1 < p ∧ lsB l p (k + 1) = lsB l p k) ∨ (l[k].2.1 < p ∧ lsB l p k = -1 ∧ lsB l p (k + 1) = (k : Int)) ∨
    (∃ b : Nat, True ∧ lsB l p k = (b : Int) ∧ ∃ hb : b < l.length, l[k].2.1 < p ∧ ((l[k].2.1 < l[b].2.1 ∧ lsB l p (k + 1) = (k : Int)) ∨ (¬ l[k].2.1 < l[b].2.1 ∧ lsB l p (k + 1) = (b : Int)))) := by
  have e : lsB l p (k + 1) = if (l.getD k rc0).2.1 < p ∧ (lsB l p k < 0 ∨ (l.getD k rc0).2.1 < (l.getD (lsB l p k).toNat rc0).2.1) then (k : Int) else lsB l p k := rfl
  rw [getRc_at hk] at e
  by_cases h : l[k].2.1 < p
  · rcases lsB_at l p k with ⟨h1, _⟩ | ⟨b, h1, h2, _⟩
    · rw [h1] at e ⊢
      rw [if_pos ⟨h, .inl (by omega)⟩] at e
      exact .inr (.inl ⟨h, rfl, e⟩)
    · have hb : b < l.length := by omega
      rw [h1] at e ⊢
      rw [show ((b : Int)).toNat = b by omega, getRc_at hb] at e
      refine .inr (.inr ⟨b, trivial, rfl, hb, h, ?_⟩)
      by_cases h3 : l[k].2.1 < l[b].2.1
      · rw [if_pos ⟨h, .inr h3⟩] at e
        exact .inl ⟨h3, e⟩
      · rw [if_neg (fun g => by rcases g.2 with g2 | g2; omega; exact h3 g2)] at e
        exact .inr ⟨h3, e⟩
  · rw [if_neg (fun g => h g.1)] at e
    exact .inl ⟨h, e⟩
/-- A valid record may be kept by a valid recorder. -/
def KpIn (r : Int) (l : List Rc) (d : List Int) (x : Rc) : Prop := RcrOk r l d ∧ RdC x ∧ befR l l.length < x.1
def kpRaw (r : Int) (l : List Rc) (d : List Int) (x : Rc) : List Rc × List Int := match kpGo x.2.1 (r - ((6 + x.2.2.2.size : Nat) : Int)) l.length l d with
  | none => (l, d ++ [x.1])
  | some y => (y.1 ++ [x], y.2)
/-- What KeepRecord leaves. -/
noncomputable def keepR (r : Int) (l : List Rc) (d : List Int) (x : Rc) : List Rc × List Int := open Classical in if KpIn r l d x ∧ RcrOk r (kpRaw r l d x).1 (kpRaw r l d x).2 then kpRaw r l d x else (l, d)
theorem keepR_yes {r : Int} {l : List Rc} {d : List Int} {x : Rc} (h : KpIn r l d x) (h2 : RcrOk r (kpRaw r l d x).1 (kpRaw r l d x).2) : keepR r l d x = kpRaw r l d x := by unfold keepR; rw [if_pos ⟨h, h2⟩]
theorem keepR_no {r : Int} {l : List Rc} {d : List Int} {x : Rc} (h : ¬ KpIn r l d x) : keepR r l d x = (l, d) := by unfold keepR; rw [if_neg (fun g => h g.1)]
theorem keepR_bad {r : Int} {l : List Rc} {d : List Int} {x : Rc} (h2 : ¬ RcrOk r (kpRaw r l d x).1 (kpRaw r l d x).2) : keepR r l d x = (l, d) := by unfold keepR; rw [if_neg (fun g => h2 g.2)]
theorem rcr_short {r : Int} {l : List Rc} {d : List Int} (h : RcrOk r l d) : l.length ≤ 666 ∧ totRc l l.length ≤ 4000 ∧ d.length ≤ 65536 := by
  have h1 := h.2.2.1
  have h2 := h.1.2
  have h3 : useR l l.length = 6 * l.length + totRc l l.length := rfl
  have h4 := h.2.2.2.1
  omega
theorem keepR_len (r : Int) (l : List Rc) (d : List Int) (x : Rc) : ((keepR r l d x).1.length ≤ l.length + 666) ∧ (keepR r l d x).2.length ≤ d.length + 65536 := by
  by_cases h : KpIn r l d x ∧ RcrOk r (kpRaw r l d x).1 (kpRaw r l d x).2
  · rw [keepR_yes h.1 h.2]
    have := rcr_short h.2
    omega
  · unfold keepR
    rw [if_neg h]
    show l.length ≤ _ ∧ d.length ≤ _
    omega
theorem kpRaw_none {r : Int} {l : List Rc} {d : List Int} {x : Rc} (h : kpGo x.2.1 (r - ((6 + x.2.2.2.size : Nat) : Int)) l.length l d = none) : kpRaw r l d x = (l, d ++ [x.1]) := by unfold kpRaw; rw [h]
theorem kpRaw_some {r : Int} {l : List Rc} {d : List Int} {x : Rc} {y : List Rc × List Int} (h : kpGo x.2.1 (r - ((6 + x.2.2.2.size : Nat) : Int)) l.length l d = some y) : kpRaw r l d x = (y.1 ++ [x], y.2) := by unfold kpRaw; rw [h]
/-- The program's own test: those of lesser priority are not enough. -/
theorem kp_test {r : Int} {l : List Rc} {d : List Int} {x : Rc} : ((sumR (lessL l x.2.1 l.length) : Nat) : Int) < ((6 + x.2.2.2.size : Nat) : Int) - (r - ((sumR l : Nat) : Int)) ∧ (0 : Int) < ((6 + x.2.2.2.size : Nat) : Int) - (r - ((sumR l : Nat) : Int)) ↔ kpGo x.2.1 (r - ((6 + x.2.2.2.size : Nat) : Int)) l.length l d = none := by
  have h := kpGo_some (p := x.2.1) (n := r - ((6 + x.2.2.2.size : Nat) : Int)) l.length l d (Nat.le_refl _)
  rw [lessL_all]
  constructor
  · intro ⟨g1, g2⟩
    rcases e : kpGo x.2.1 (r - ((6 + x.2.2.2.size : Nat) : Int)) l.length l d with _ | y
    · rfl
    · rw [e] at h
      have := h.1 rfl
      omega
  · intro e
    rw [e] at h
    have h3 : ¬ ((sumR l : Int) - (r - ((6 + x.2.2.2.size : Nat) : Int)) ≤ sumR (l.filter fun x_1 => decide (x_1.2.1 < x.2.1)) ∨ (sumR l : Int) ≤ r - ((6 + x.2.2.2.size : Nat) : Int)) := fun g => by
      have := h.2 g
      cases this
    omega
theorem kpGo_run {p n : Int} {l : List Rc} {d : List Int} {y : List Rc × List Int} (h : kpGo p n l.length l d = some y) (h1 : ¬ (sumR l : Int) ≤ n) :
    loB l l.length < l.length ∧ ∃ (hb : loB l l.length < l.length), kpGo p n (l.eraseIdx (loB l l.length)).length (l.eraseIdx (loB l l.length)) (d ++ [l[loB l l.length].1]) = some y ∧ sumR (l.eraseIdx (loB l l.length)) + (6 + l[loB l l.length].2.2.2.size) = sumR l ∧ (l.eraseIdx (loB l l.length)).length + 1 = l.length ∧ totRc (l.eraseIdx (loB l l.length)) (l.eraseIdx (loB l l.length)).length ≤ totRc l l.length := by
  by_cases h2 : lsB l p l.length = -1
  · rw [kpGo_stuck h1 h2] at h
    cases h
  · obtain ⟨g1, g2, g3⟩ := loB_lsB h2
    have e1 := sumR_erase g2
    have e2 : (l.eraseIdx (loB l l.length)).length + 1 = l.length := by rw [List.length_eraseIdx, if_pos g2]; omega
    have e3 := useR_sum l
    have e4 := useR_sum (l.eraseIdx (loB l l.length))
    have e5 : useR l l.length = 6 * l.length + totRc l l.length := rfl
    have e6 : useR (l.eraseIdx (loB l l.length)) (l.eraseIdx (loB l l.length)).length = 6 * (l.eraseIdx (loB l l.length)).length + totRc (l.eraseIdx (loB l l.length)) (l.eraseIdx (loB l l.length)).length := rfl
    refine ⟨g2, g2, ?_, e1, e2, by omega⟩
    rw [← e2] at h
    have h3 := kpGo_step (f := (l.eraseIdx (loB l l.length)).length) (d := d) h1 h2
    rw [h3, getRc_at g2] at h
    exact h
theorem kpGo_end {p n : Int} {f : Nat} {l : List Rc} {d : List Int} {y : List Rc × List Int} (h : kpGo p n f l d = some y) (h1 : (sumR l : Int) ≤ n) : y = (l, d) := by
  rw [kpGo_done h1] at h
  injection h with h
  exact h.symm
theorem kpGo_lsB {p n : Int} {l : List Rc} {d : List Int} (h1 : ¬ (sumR l : Int) ≤ n) (h2 : ¬ lsB l p l.length = -1) : lsB l p l.length = ((loB l l.length : Nat) : Int) ∧ ∃ (hb : loB l l.length < l.length), kpGo p n l.length l d = kpGo p n (l.eraseIdx (loB l l.length)).length (l.eraseIdx (loB l l.length)) (d ++ [l[loB l l.length].1]) ∧ (l.eraseIdx (loB l l.length)).length + 1 = l.length ∧ totRc (l.eraseIdx (loB l l.length)) (l.eraseIdx (loB l l.length)).length ≤ totRc l l.length := by
  obtain ⟨g1, g2, g3⟩ := loB_lsB h2
  have e1 := sumR_erase g2
  have e2 : (l.eraseIdx (loB l l.length)).length + 1 = l.length := by rw [List.length_eraseIdx, if_pos g2]; omega
  have e3 := useR_sum l
  have e4 := useR_sum (l.eraseIdx (loB l l.length))
  have e5 : useR l l.length = 6 * l.length + totRc l l.length := rfl
  have e6 : useR (l.eraseIdx (loB l l.length)) (l.eraseIdx (loB l l.length)).length = 6 * (l.eraseIdx (loB l l.length)).length + totRc (l.eraseIdx (loB l l.length)) (l.eraseIdx (loB l l.length)).length := rfl
  refine ⟨g1, g2, ?_, e2, by omega⟩
  have h3 := kpGo_step (f := (l.eraseIdx (loB l l.length)).length) (d := d) h1 h2
  rw [getRc_at g2] at h3
  rw [← h3, e2]
theorem kpRaw_len {r : Int} {l : List Rc} {d : List Int} {x : Rc} (h : RcrOk r l d) (hx : RdC x) : (kpRaw r l d x).1.length ≤ 667 ∧ totRc (kpRaw r l d x).1 (kpRaw r l d x).1.length ≤ 5000 ∧ (kpRaw r l d x).2.length ≤ 66300 := by
  obtain ⟨h1, h2, h3⟩ := rcr_short h
  have h4 := h.1
  have hx4 : x.2.2.2.size ≤ 34 := hx.2.2.2
  rcases e : kpGo x.2.1 (r - ((6 + x.2.2.2.size : Nat) : Int)) l.length l d with _ | y
  · rw [kpRaw_none e]
    refine ⟨by show l.length ≤ _; omega, by show totRc l l.length ≤ _; omega, ?_⟩
    show (d ++ [x.1]).length ≤ _
    rw [List.length_append]; simp; omega
  · rw [kpRaw_some e]
    obtain ⟨g1, g2, g3, g4⟩ := kpGo_le _ _ _ _ _ (show kpGo x.2.1 (r - ((6 + x.2.2.2.size : Nat) : Int)) l.length l d = some (y.1, y.2) from e)
    have k1 := useR_sum l
    have k2 : useR l l.length = 6 * l.length + totRc l l.length := rfl
    have k3 := useR_sum (y.1 ++ [x])
    have k4 : useR (y.1 ++ [x]) (y.1 ++ [x]).length = 6 * (y.1 ++ [x]).length + totRc (y.1 ++ [x]) (y.1 ++ [x]).length := rfl
    have k5 : sumR (y.1 ++ [x]) = sumR y.1 + (6 + x.2.2.2.size) := by rw [sumR_app, sumR_cons]; rfl
    have k6 : (y.1 ++ [x]).length = y.1.length + 1 := by simp
    refine ⟨?_, ?_, ?_⟩
    · show (y.1 ++ [x]).length ≤ _; omega
    · show totRc (y.1 ++ [x]) (y.1 ++ [x]).length ≤ _; omega
    · show y.2.length ≤ _; omega
end Go.Proofs.Ytckofkdeedbbgaa
