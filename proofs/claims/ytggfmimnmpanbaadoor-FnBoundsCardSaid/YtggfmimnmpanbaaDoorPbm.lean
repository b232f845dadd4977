/- What this text proves: pairs of what a clock shows and the true time, as lists of numbers: the bounds and the estimate that they give. -/
import Derived.Test.YtggfmimnmpanbaaDoorPrS
import Derived.Test.YtggfmimnmpanbaaDoorCkm
namespace Go.Proofs.YtggfmimnmpanbaaDoor
set_option linter.unusedVariables false

/-- The k-th pair; (0, 0) where there is none. -/
abbrev pAt (l : List Pr) (k : Nat) : Pr := l.getD k (0, 0)
abbrev befAll : Pr := (-1, -1)
abbrev behAll : Pr := (2000001, 1000001)
/-- The pair before the k-th one. -/
def befP (l : List Pr) : Nat → Pr
  | 0 => befAll
  | k + 1 => pAt l k
def PrIn (p : Pr) : Prop := (0 ≤ p.1 ∧ p.1 ≤ 2000000) ∧ (0 ≤ p.2 ∧ p.2 ≤ 1000000)
def PrAf (p q : Pr) : Prop := PrIn p ∧ (q.1 < p.1 ∧ q.2 < p.2)
instance (p : Pr) : Decidable (PrIn p) := by unfold PrIn; infer_instance
instance (p q : Pr) : Decidable (PrAf p q) := by unfold PrAf; infer_instance
def PrUp (l : List Pr) (n : Nat) : Prop := ∀ k, k < n → PrAf (pAt l k) (befP l k)
instance (l : List Pr) (n : Nat) : Decidable (PrUp l n) := by unfold PrUp; infer_instance
def PrsOk (l : List Pr) : Prop := l.length ≤ 200 ∧ PrUp l l.length
instance (l : List Pr) : Decidable (PrsOk l) := by unfold PrsOk; infer_instance
theorem PrUp.zero (l : List Pr) : PrUp l 0 := fun k h => absurd h (Nat.not_lt_zero k)
theorem PrUp.succ {l : List Pr} {n : Nat} (h : PrUp l n) (h2 : PrAf (pAt l n) (befP l n)) : PrUp l (n + 1) := fun k hk => by
  rcases Nat.lt_succ_iff_lt_or_eq.1 hk with h3 | rfl
  · exact h k h3
  · exact h2
theorem PrUp.not {l : List Pr} {k n : Nat} (hk : k < n) (h2 : ¬ PrAf (pAt l k) (befP l k)) : ¬ PrUp l n := fun h => h2 (h k hk)
theorem PrsOk.at {l : List Pr} (h : PrsOk l) {k : Nat} (hk : k < l.length) : PrIn (pAt l k) := (h.2 k hk).1
theorem PrsOk.step {l : List Pr} (h : PrsOk l) {k : Nat} (hk : k + 1 < l.length) : (pAt l k).1 < (pAt l (k + 1)).1 ∧ (pAt l k).2 < (pAt l (k + 1)).2 := (h.2 (k + 1) hk).2
theorem PrsOk.lt {l : List Pr} (h : PrsOk l) {i : Nat} (d : Nat) (hk : i + (d + 1) < l.length) : (pAt l i).1 < (pAt l (i + (d + 1))).1 ∧ (pAt l i).2 < (pAt l (i + (d + 1))).2 := by
  induction d with
  | zero => exact h.step hk
  | succ d ih =>
    have a := ih (by omega)
    have b := h.step (k := i + (d + 1)) (by omega)
    rw [show i + (d + 1 + 1) = i + (d + 1) + 1 by omega]
    omega
theorem PrsOk.asc {l : List Pr} (h : PrsOk l) {i j : Nat} (hij : i < j) (hj : j < l.length) : (pAt l i).1 < (pAt l j).1 ∧ (pAt l i).2 < (pAt l j).2 := by
  have := h.lt (i := i) (j - i - 1) (by omega)
  rwa [show i + (j - i - 1 + 1) = j by omega] at this
theorem behind_not {p : Pr} (h : PrIn p) : p ≠ behAll := fun e => by
  rw [e] at h; unfold PrIn behAll at h; simp at h
theorem before_not {p : Pr} (h : PrIn p) : p ≠ befAll := fun e => by
  rw [e] at h; unfold PrIn befAll at h; simp at h
/-- The last of the first n pairs with a lesser Board. -/
def lesF (l : List Pr) (b : Int) : Nat → Pr
  | 0 => befAll
  | n + 1 => if (pAt l n).1 < b then pAt l n else lesF l b n
/-- The first of the first n pairs with a greater Board. -/
def greF (l : List Pr) (b : Int) : Nat → Pr
  | 0 => behAll
  | n + 1 => if b < (pAt l n).1 ∧ greF l b n = behAll then pAt l n else greF l b n
theorem les_over {l : List Pr} {b : Int} (h : PrsOk l) {k : Nat} (hk : k < l.length) (hb : b < (pAt l k).1) (hg : greF l b k = behAll) (d : Nat) (hd : k + d + 1 ≤ l.length) :
    lesF l b (k + d + 1) = lesF l b k ∧ greF l b (k + d + 1) = pAt l k := by
  induction d with
  | zero =>
    constructor
    · show (if (pAt l k).1 < b then pAt l k else lesF l b k) = _
      rw [if_neg (by omega)]
    · show (if b < (pAt l k).1 ∧ greF l b k = behAll then pAt l k else greF l b k) = _
      rw [if_pos ⟨hb, hg⟩]
  | succ d ih =>
    obtain ⟨i1, i2⟩ := ih (by omega)
    have a := h.asc (i := k) (j := k + d + 1) (by omega) (by omega)
    constructor
    · show (if (pAt l (k + d + 1)).1 < b then pAt l (k + d + 1) else lesF l b (k + d + 1)) = _
      rw [if_neg (by omega), i1]
    · show (if b < (pAt l (k + d + 1)).1 ∧ greF l b (k + d + 1) = behAll then pAt l (k + d + 1) else greF l b (k + d + 1)) = _
      rw [if_neg (by rw [i2]; exact fun e => behind_not (h.at hk) e.2), i2]
theorem les_end {l : List Pr} {b : Int} (h : PrsOk l) {k : Nat} (hk : k < l.length) (hb : b < (pAt l k).1) (hg : greF l b k = behAll) :
    lesF l b l.length = lesF l b k ∧ greF l b l.length = pAt l k := by
  have := les_over h hk hb hg (l.length - k - 1) (by omega)
  rwa [show k + (l.length - k - 1) + 1 = l.length by omega] at this
def bouR (l : List Pr) (b : Int) : Int × Int × Bool := if PrsOk l ∧ (0 ≤ b ∧ b ≤ 2000000) then ((lesF l b l.length).2 + 1, (greF l b l.length).2 - 1, true) else (0, 0, false)
/-- The bounds of what lies between. -/
theorem lesF_in {l : List Pr} (h : PrsOk l) (b : Int) (n : Nat) (hn : n ≤ l.length) : lesF l b n = befAll ∨ PrIn (lesF l b n) := by
  induction n with
  | zero => exact .inl rfl
  | succ n ih =>
    show (if (pAt l n).1 < b then pAt l n else lesF l b n) = _ ∨ PrIn (if (pAt l n).1 < b then pAt l n else lesF l b n)
    by_cases hb : (pAt l n).1 < b
    · rw [if_pos hb]; exact .inr (h.at (by omega))
    · rw [if_neg hb]; exact ih (by omega)
theorem greF_in {l : List Pr} (h : PrsOk l) (b : Int) (n : Nat) (hn : n ≤ l.length) : greF l b n = behAll ∨ PrIn (greF l b n) := by
  induction n with
  | zero => exact .inl rfl
  | succ n ih =>
    show (if b < (pAt l n).1 ∧ greF l b n = behAll then pAt l n else greF l b n) = _ ∨ PrIn (if b < (pAt l n).1 ∧ greF l b n = behAll then pAt l n else greF l b n)
    by_cases hb : b < (pAt l n).1 ∧ greF l b n = behAll
    · rw [if_pos hb]; exact .inr (h.at (by omega))
    · rw [if_neg hb]; exact ih (by omega)
theorem lesF_num {l : List Pr} (h : PrsOk l) (b : Int) (n : Nat) (hn : n ≤ l.length) : -1 ≤ (lesF l b n).2 ∧ (lesF l b n).2 ≤ 1000000 := by
  rcases lesF_in h b n hn with e | e
  · rw [e]; exact ⟨by decide, by decide⟩
  · unfold PrIn at e; omega
theorem greF_num {l : List Pr} (h : PrsOk l) (b : Int) (n : Nat) (hn : n ≤ l.length) : 0 ≤ (greF l b n).2 ∧ (greF l b n).2 ≤ 1000001 := by
  rcases greF_in h b n hn with e | e
  · rw [e]; exact ⟨by decide, by decide⟩
  · unfold PrIn at e; omega
/-- The place of the second one of the first two pairs of which the second one has a Board of at least b: from k on, at most f further. -/
def segD (l : List Pr) (b : Int) : Nat → Nat → Nat
  | 0, k => k
  | f + 1, k => if (pAt l k).1 < b then segD l b f (k + 1) else k
def segI (l : List Pr) (b : Int) : Nat := segD l b (l.length - 2) 1
theorem segD_in (l : List Pr) (b : Int) (f k : Nat) : k ≤ segD l b f k ∧ segD l b f k ≤ k + f := by
  induction f generalizing k with
  | zero => exact ⟨Nat.le_refl _, Nat.le_refl _⟩
  | succ f ih =>
    show k ≤ (if (pAt l k).1 < b then segD l b f (k + 1) else k) ∧ (if (pAt l k).1 < b then segD l b f (k + 1) else k) ≤ _
    split
    · have := ih (k + 1); omega
    · omega
theorem segD_stop {l : List Pr} {b : Int} (f : Nat) {k : Nat} (h : ¬ (pAt l k).1 < b) : segD l b f k = k := by
  cases f with
  | zero => rfl
  | succ f => exact if_neg h
theorem segD_go {l : List Pr} {b : Int} (f : Nat) {k : Nat} (h : (pAt l k).1 < b) : segD l b (f + 1) k = segD l b f (k + 1) := if_pos h
/-- What lies before it has a lesser Board; it itself, or it is the last one. -/
theorem segD_is (l : List Pr) (b : Int) (f k : Nat) : (∀ j, k ≤ j → j < segD l b f k → (pAt l j).1 < b) ∧ (segD l b f k = k + f ∨ b ≤ (pAt l (segD l b f k)).1) := by
  induction f generalizing k with
  | zero => exact ⟨fun j h1 h2 => absurd h2 (by show ¬ j < k; omega), .inl rfl⟩
  | succ f ih =>
    by_cases h : (pAt l k).1 < b
    · rw [segD_go f h]
      obtain ⟨i1, i2⟩ := ih (k + 1)
      refine ⟨fun j h1 h2 => ?_, ?_⟩
      · rcases Nat.eq_or_lt_of_le h1 with rfl | h3
        · exact h
        · exact i1 j h3 h2
      · rcases i2 with i2 | i2
        · exact .inl (by omega)
        · exact .inr i2
    · rw [segD_stop _ h]
      exact ⟨fun j h1 h2 => by omega, .inr (by omega)⟩
def gueV (x y : Pr) (b : Int) : Int := x.2 + (b - x.1) * (y.2 - x.2) / (y.1 - x.1)
def gueR (l : List Pr) (b : Int) : Int × Bool := if PrsOk l ∧ 2 ≤ l.length ∧ (0 ≤ b ∧ b ≤ 2000000) then (gueV (pAt l (segI l b - 1)) (pAt l (segI l b)) b, true) else (0, false)
def ratV (x y : Pr) : Int := ((y.1 - x.1) - (y.2 - x.2)) * 1000 / (y.2 - x.2)
def ratR (l : List Pr) : Int × Bool := if PrsOk l ∧ 2 ≤ l.length then (ratV (pAt l 0) (pAt l (l.length - 1)), true) else (0, false)
def addP (l : List Pr) (p : Pr) : List Pr := if PrsOk (l ++ [p]) then l ++ [p] else l
theorem pAt_eq {l : List Pr} {k : Nat} (h : k < l.length) : l[k] = pAt l k := by
  unfold pAt; rw [List.getD_eq_getElem?_getD, List.getElem?_eq_getElem h]; rfl
/-- The pairs of a clock at some times. -/
abbrev ckP (r o t : Int) : Pr := (btI r o t, t)
abbrev ckL (r o : Int) (ts : List Int) : List Pr := ts.map (ckP r o)
abbrev tAt (ts : List Int) (k : Nat) : Int := ts.getD k 0
/-- Times that are at least 20 apart. -/
def TsOk (ts : List Int) : Prop := ts.length ≤ 200 ∧ (∀ k, k < ts.length → 0 ≤ tAt ts k ∧ tAt ts k ≤ 1000000) ∧ ∀ k, k + 1 < ts.length → tAt ts k + 20 ≤ tAt ts (k + 1)
theorem ck_at {r o : Int} {ts : List Int} {k : Nat} (h : k < ts.length) : pAt (ckL r o ts) k = ckP r o (tAt ts k) := by
  show List.getD _ _ _ = ckP r o (List.getD _ _ _)
  rw [List.getD_eq_getElem?_getD, List.getD_eq_getElem?_getD, List.getElem?_map, List.getElem?_eq_getElem h]
  rfl
theorem ck_ok {r o : Int} (hd : DrOk r o) {ts : List Int} (h : TsOk ts) : PrsOk (ckL r o ts) := by
  obtain ⟨h1, h2, h3⟩ := h
  refine ⟨by rw [List.length_map]; exact h1, fun k hk => ?_⟩
  rw [List.length_map] at hk
  rw [ck_at hk]
  have hb := btI_yes ⟨hd, h2 k hk⟩
  have hr := h2 k hk
  refine ⟨⟨hb.2, hr⟩, ?_⟩
  cases k with
  | zero => 
    show (-1 : Int) < btI r o _ ∧ (-1 : Int) < tAt ts 0
    omega
  | succ k =>
    show (pAt (ckL r o ts) k).1 < btI r o _ ∧ (pAt (ckL r o ts) k).2 < tAt ts (k + 1)
    rw [ck_at (by omega)]
    have hs := h3 k hk
    have h0 := h2 k (by omega)
    exact ⟨bt_far hd h0.1 (by omega) hr.2, by show tAt ts k < _; omega⟩
theorem tAt_more {ts : List Int} {t : Int} {k : Nat} (h : k < ts.length) : tAt (ts ++ [t]) k = tAt ts k := by
  show List.getD _ _ _ = List.getD _ _ _
  rw [List.getD_eq_getElem?_getD, List.getD_eq_getElem?_getD, List.getElem?_append_left h]
theorem tAt_last {ts : List Int} {t : Int} : tAt (ts ++ [t]) ts.length = t := by
  show List.getD _ _ _ = _
  rw [List.getD_eq_getElem?_getD, List.getElem?_append_right (Nat.le_refl _)]
  simp
theorem TsOk.more {ts : List Int} (h : TsOk ts) {t : Int} (h1 : ts.length < 200) (h2 : 0 ≤ t ∧ t ≤ 1000000) (h3 : ∀ k, k + 1 = ts.length → tAt ts k + 20 ≤ t) : TsOk (ts ++ [t]) := by
  obtain ⟨a1, a2, a3⟩ := h
  refine ⟨by simp; omega, fun k hk => ?_, fun k hk => ?_⟩
  · rw [List.length_append, List.length_singleton] at hk
    by_cases h : k < ts.length
    · rw [tAt_more h]; exact a2 k h
    · rw [show k = ts.length by omega, tAt_last]; exact h2
  · rw [List.length_append, List.length_singleton] at hk
    by_cases h : k + 1 < ts.length
    · rw [tAt_more h, tAt_more (by omega)]; exact a3 k h
    · rw [show k + 1 = ts.length by omega, tAt_last, tAt_more (by omega)]; exact h3 k (by omega)
theorem ck_add {r o : Int} (hd : DrOk r o) {ts : List Int} {t : Int} (h : TsOk (ts ++ [t])) : addP (ckL r o ts) (btI r o t, t) = ckL r o (ts ++ [t]) := by
  have e : ckL r o ts ++ [(btI r o t, t)] = ckL r o (ts ++ [t]) := by simp
  unfold addP
  rw [e, if_pos (ck_ok hd h)]
theorem lesF_is (l : List Pr) (b : Int) (n : Nat) : lesF l b n = befAll ∨ ∃ j, j < n ∧ lesF l b n = pAt l j ∧ (pAt l j).1 < b := by
  induction n with
  | zero => exact .inl rfl
  | succ n ih =>
    by_cases hb : (pAt l n).1 < b
    · have e : lesF l b (n + 1) = pAt l n := if_pos hb
      exact .inr ⟨n, by omega, e, hb⟩
    · have e : lesF l b (n + 1) = lesF l b n := if_neg hb
      rw [e]
      rcases ih with i | ⟨j, j1, j2, j3⟩
      · exact .inl i
      · exact .inr ⟨j, by omega, j2, j3⟩
theorem greF_is (l : List Pr) (b : Int) (n : Nat) : greF l b n = behAll ∨ ∃ j, j < n ∧ greF l b n = pAt l j ∧ b < (pAt l j).1 := by
  induction n with
  | zero => exact .inl rfl
  | succ n ih =>
    by_cases hb : b < (pAt l n).1 ∧ greF l b n = behAll
    · have e : greF l b (n + 1) = pAt l n := if_pos hb
      exact .inr ⟨n, by omega, e, hb.1⟩
    · have e : greF l b (n + 1) = greF l b n := if_neg hb
      rw [e]
      rcases ih with i | ⟨j, j1, j2, j3⟩
      · exact .inl i
      · exact .inr ⟨j, by omega, j2, j3⟩
theorem TsOk.asc {ts : List Int} (h : TsOk ts) (d i : Nat) (hj : i + d < ts.length) : tAt ts i ≤ tAt ts (i + d) := by
  induction d with
  | zero => exact Int.le_refl _
  | succ d ih =>
    have a := ih (by omega)
    have b := h.2.2 (i + d) (by omega)
    rw [show i + (d + 1) = i + d + 1 by omega]
    omega
theorem ck_bounds {r o : Int} (hd : DrOk r o) {ts : List Int} (h : TsOk ts) {x : Int} (hx : 0 ≤ x ∧ x ≤ 1000000) :
    ∃ lo hi, bouR (ckL r o ts) (btI r o x) = (lo, hi, true) ∧ (-9223372036854775808 ≤ lo ∧ lo ≤ x) ∧ (x ≤ hi ∧ hi ≤ 9223372036854775807) := by
  have hb := btI_yes ⟨hd, hx⟩
  refine ⟨_, _, if_pos ⟨ck_ok hd h, hb.2⟩, ?_, ?_⟩
  · rcases lesF_is (ckL r o ts) (btI r o x) (ckL r o ts).length with e | ⟨j, j1, j2, j3⟩
    · rw [e]; show (_ : Int) ≤ -1 + 1 ∧ (-1 : Int) + 1 ≤ x; omega
    · rw [List.length_map] at j1
      rw [j2, ck_at j1] at *
      have := h.2.1 j j1
      show (_ : Int) ≤ tAt ts j + 1 ∧ tAt ts j + 1 ≤ x
      have j3' : btI r o (tAt ts j) < btI r o x := j3
      by_cases hlt : tAt ts j < x
      · omega
      · have := bt_mono hd hx.1 (show x ≤ tAt ts j by omega) this.2
        omega
  · rcases greF_is (ckL r o ts) (btI r o x) (ckL r o ts).length with e | ⟨j, j1, j2, j3⟩
    · rw [e]; show x ≤ (1000001 : Int) - 1 ∧ (1000001 : Int) - 1 ≤ _; omega
    · rw [List.length_map] at j1
      rw [j2, ck_at j1] at *
      have := h.2.1 j j1
      show x ≤ tAt ts j - 1 ∧ tAt ts j - 1 ≤ _
      have j3' : btI r o x < btI r o (tAt ts j) := j3
      by_cases hlt : x < tAt ts j
      · omega
      · have := bt_mono hd this.1 (show tAt ts j ≤ x by omega) hx.2
        omega
theorem ck_guess {r o : Int} (hd : DrOk r o) {ts : List Int} (h : TsOk ts) (hn : 2 ≤ ts.length) {x : Int} (hx : tAt ts 0 ≤ x ∧ x ≤ tAt ts (ts.length - 1)) :
    ∃ g, gueR (ckL r o ts) (btI r o x) = (g, true) ∧ x - 3 ≤ g ∧ g ≤ x + 3 := by
  have hf := h.2.1 0 (by omega)
  have hl := h.2.1 (ts.length - 1) (by omega)
  have hb := btI_yes (t := x) ⟨hd, by omega, by omega⟩
  refine ⟨_, if_pos ⟨ck_ok hd h, by rw [List.length_map]; exact hn, hb.2⟩, ?_⟩
  have hin := segD_in (ckL r o ts) (btI r o x) ((ckL r o ts).length - 2) 1
  obtain ⟨s1, s2⟩ := segD_is (ckL r o ts) (btI r o x) ((ckL r o ts).length - 2) 1
  change 1 ≤ segI (ckL r o ts) (btI r o x) ∧ segI (ckL r o ts) (btI r o x) ≤ _ at hin
  change ∀ j, 1 ≤ j → j < segI (ckL r o ts) (btI r o x) → _ at s1
  change segI (ckL r o ts) (btI r o x) = _ ∨ _ ≤ (pAt (ckL r o ts) (segI (ckL r o ts) (btI r o x))).1 at s2
  generalize segI (ckL r o ts) (btI r o x) = k at *
  rw [List.length_map] at hin s2
  rw [ck_at (k := k) (by omega)] at s2 ⊢
  rw [ck_at (k := k - 1) (by omega)]
  have hstep := h.2.2 (k - 1) (by omega)
  rw [show k - 1 + 1 = k by omega] at hstep
  have hk := h.2.1 k (by omega)
  have hk1 := h.2.1 (k - 1) (by omega)
  have hS : tAt ts (k - 1) ≤ x := by
    by_cases h1 : k = 1
    · rw [h1]; exact hx.1
    · have j3 := s1 (k - 1) (by omega) (by omega)
      rw [ck_at (by omega)] at j3
      have j3' : btI r o (tAt ts (k - 1)) < btI r o x := j3
      by_cases hlt : tAt ts (k - 1) ≤ x
      · exact hlt
      · have := bt_mono hd (s := x) (t := tAt ts (k - 1)) (by omega) (by omega) hk1.2
        omega
  have hU : x ≤ tAt ts k + 1 := by
    rcases s2 with s2 | s2
    · rw [show k = ts.length - 1 by omega]; omega
    · have s2' : btI r o x ≤ btI r o (tAt ts k) := s2
      by_cases hlt : x ≤ tAt ts k + 1
      · exact hlt
      · have := bt_far hd (s := tAt ts k) (t := x) hk.1 (by omega) (by omega)
        omega
  exact guess_near hd hk1.1 hk.2 hstep hS hU (by omega)
theorem ck_rate {r o : Int} (hd : DrOk r o) {ts : List Int} (h : TsOk ts) (hn : 2 ≤ ts.length) :
    ∃ g, ratR (ckL r o ts) = (g, true) ∧ g - r ≤ 1000 / (tAt ts (ts.length - 1) - tAt ts 0) + 1 ∧ r - g ≤ 1000 / (tAt ts (ts.length - 1) - tAt ts 0) + 1 := by
  refine ⟨_, if_pos ⟨ck_ok hd h, by rw [List.length_map]; exact hn⟩, ?_⟩
  have hlen : (ckL r o ts).length = ts.length := List.length_map _
  rw [hlen]
  rw [ck_at (by omega), ck_at (by omega)]
  have hf := h.2.1 0 (by omega)
  have hl := h.2.1 (ts.length - 1) (by omega)
  have hs : tAt ts 0 + 20 ≤ tAt ts 1 := h.2.2 0 (by omega)
  have ha := h.asc (ts.length - 1 - 1) 1 (by omega)
  rw [show 1 + (ts.length - 1 - 1) = ts.length - 1 by omega] at ha
  exact rate_near hd hf.1 hl.2 (by omega)
end Go.Proofs.YtggfmimnmpanbaaDoor
