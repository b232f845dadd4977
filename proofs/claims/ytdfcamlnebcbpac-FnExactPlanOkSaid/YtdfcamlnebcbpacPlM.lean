/- What this text proves: plans that serve, at each visible time, the request with the least Deadline: they keep their rules, and miss nothing exactly if no stretch of time is asked for more than it has. -/
import Derived.Test.YtdfcamlnebcbpacRqS
import Derived.Test.YtdfcamlnebcbpacSlS
namespace Go.Proofs.Ytdfcamlnebcbpac
set_option linter.unusedVariables false
abbrev rqAt (L : List Rq) (k : Nat) : Rq := L.getD k (0, 0, 0, 0)
abbrev slAt (l : List Sl) (k : Nat) : Sl := l.getD k (0, 0)
abbrev rI (L : List Rq) (k : Nat) : Int := (rqAt L k).1
abbrev rR (L : List Rq) (k : Nat) : Int := (rqAt L k).2.1
abbrev rD (L : List Rq) (k : Nat) : Int := (rqAt L k).2.2.1
abbrev rN (L : List Rq) (k : Nat) : Int := (rqAt L k).2.2.2
def RqOk (x : Rq) : Prop := (0 ≤ x.1 ∧ x.1 ≤ 255) ∧ (0 ≤ x.2.1 ∧ x.2.1 ≤ 1000000) ∧ (x.2.1 ≤ x.2.2.1 ∧ x.2.2.1 ≤ min 1000000 (x.2.1 + 2000)) ∧ (1 ≤ x.2.2.2 ∧ x.2.2.2 ≤ 100)
instance (x : Rq) : Decidable (RqOk x) := by unfold RqOk; infer_instance
/-- The first n requests are valid, each by itself and beside those before it. -/
def RqUp (L : List Rq) (n : Nat) : Prop := ∀ k, k < n → RqOk (rqAt L k) ∧ ∀ i, i < k → rI L i ≠ rI L k
instance (L : List Rq) (n : Nat) : Decidable (RqUp L n) := by unfold RqUp; infer_instance
def RqsOk (L : List Rq) : Prop := L.length ≤ 12 ∧ RqUp L L.length
instance (L : List Rq) : Decidable (RqsOk L) := by unfold RqsOk; infer_instance
theorem RqUp.zero (L : List Rq) : RqUp L 0 := fun k h => absurd h (Nat.not_lt_zero k)
theorem RqUp.succ {L : List Rq} {n : Nat} (h : RqUp L n) (h2 : RqOk (rqAt L n)) (h3 : ∀ i, i < n → rI L i ≠ rI L n) : RqUp L (n + 1) := fun k hk => by
  rcases Nat.lt_succ_iff_lt_or_eq.1 hk with h4 | rfl
  · exact h k h4
  · exact ⟨h2, h3⟩
theorem RqsOk.at {L : List Rq} (h : RqsOk L) {k : Nat} (hk : k < L.length) : RqOk (rqAt L k) := (h.2 k hk).1
theorem RqsOk.inj {L : List Rq} (h : RqsOk L) {i k : Nat} (hi : i < L.length) (hk : k < L.length) (e : rI L i = rI L k) : i = k := by
  rcases Nat.lt_trichotomy i k with h1 | h1 | h1
  · exact absurd e ((h.2 k hk).2 i h1)
  · exact h1
  · exact absurd e.symm ((h.2 i hi).2 k h1)
-- ---------- plans as lists of slots
/-- The Id of the first slot at a time, from the k-th on. -/
def sotR (l : List Sl) (t : Int) : Int := match l with
  | [] => -1
  | x :: l => if x.1 = t then x.2 else sotR l t
theorem sotR_at (l : List Sl) (t : Int) (k : Nat) (hk : k < l.length) (h : ∀ j, j < k → (slAt l j).1 ≠ t) (h2 : (slAt l k).1 = t) : sotR l t = (slAt l k).2 := by
  induction l generalizing k with
  | nil => simp at hk
  | cons x l ih =>
    unfold sotR
    cases k with
    | zero => rw [if_pos (by simpa using h2)]; simp
    | succ k =>
      rw [if_neg (by have := h 0 (by omega); simpa using this)]
      have := ih k (by simpa using hk) (fun j hj => by have := h (j + 1) (by omega); simpa using this) (by simpa using h2)
      rw [this]; simp
theorem sotR_none (l : List Sl) (t : Int) (h : ∀ j, j < l.length → (slAt l j).1 ≠ t) : sotR l t = -1 := by
  induction l with
  | nil => rfl
  | cons x l ih =>
    unfold sotR
    rw [if_neg (by have := h 0 (by simp); simpa using this)]
    exact ih (fun j hj => by have := h (j + 1) (by simpa using hj); simpa using this)
theorem sotR_append (l m : List Sl) (t : Int) (h : ∀ x ∈ l, x.1 ≠ t) : sotR (l ++ m) t = sotR m t := by
  induction l with
  | nil => rfl
  | cons x l ih =>
    rw [List.cons_append]
    unfold sotR
    rw [if_neg (h x (by simp))]
    rw [ih (fun y hy => h y (by simp [hy]))]
    cases m <;> rfl
theorem sotR_left (l m : List Sl) (t : Int) (h : ∃ x ∈ l, x.1 = t) : sotR (l ++ m) t = sotR l t := by
  induction l with
  | nil => simp at h
  | cons x l ih =>
    rw [List.cons_append]
    show (if x.1 = t then x.2 else sotR (l ++ m) t) = (if x.1 = t then x.2 else sotR l t)
    split
    · rfl
    · rename_i hx
      apply ih
      obtain ⟨y, hy, e⟩ := h
      rcases List.mem_cons.1 hy with rfl | hy
      · exact absurd e hx
      · exact ⟨y, hy, e⟩
/-- How many of the first n slots have an Id. -/
def soN (l : List Sl) (i : Int) : Nat → Nat
  | 0 => 0
  | n + 1 => soN l i n + (if (slAt l n).2 = i then 1 else 0)
def soR (l : List Sl) (i : Int) : Nat := soN l i l.length
theorem soN_le (l : List Sl) (i : Int) (n : Nat) : soN l i n ≤ n := by
  induction n with
  | zero => exact Nat.le_refl _
  | succ n ih => unfold soN; split <;> omega
theorem soN_append (l m : List Sl) (i : Int) (n : Nat) (hn : n ≤ l.length) : soN (l ++ m) i n = soN l i n := by
  induction n with
  | zero => rfl
  | succ n ih =>
    unfold soN
    rw [ih (by omega)]
    have : slAt (l ++ m) n = slAt l n := by simp [slAt, List.getElem?_append_left (show n < l.length by omega)]
    rw [this]
theorem soR_one (l : List Sl) (x : Sl) (i : Int) : soR (l ++ [x]) i = soR l i + (if x.2 = i then 1 else 0) := by
  unfold soR
  rw [List.length_append, List.length_singleton]
  show soN (l ++ [x]) i l.length + _ = _
  rw [soN_append l [x] i _ (Nat.le_refl _)]
  have : slAt (l ++ [x]) l.length = x := by simp [slAt]
  rw [this]
/-- The Ids of the first n requests that have fewer slots than their Need. -/
def misN (L : List Rq) (l : List Sl) : Nat → List Int
  | 0 => []
  | n + 1 => misN L l n ++ (if (soR l (rI L n) : Int) < rN L n then [rI L n] else [])
def misP (L : List Rq) (l : List Sl) : List Int := misN L l L.length
theorem misN_len (L : List Rq) (l : List Sl) (n : Nat) : (misN L l n).length ≤ n := by
  induction n with
  | zero => exact Nat.le_refl _
  | succ n ih => unfold misN; split <;> simp <;> omega
theorem misN_mem {L : List Rq} {l : List Sl} {n : Nat} {i : Int} : i ∈ misN L l n ↔ ∃ k, k < n ∧ rI L k = i ∧ (soR l (rI L k) : Int) < rN L k := by
  induction n with
  | zero => simp [misN]
  | succ n ih =>
    unfold misN
    rw [List.mem_append, ih]
    constructor
    · rintro (⟨k, h1, h2⟩ | h)
      · exact ⟨k, by omega, h2⟩
      · split at h
        · rename_i hh; exact ⟨n, by omega, (List.mem_singleton.1 h).symm, hh⟩
        · simp at h
    · rintro ⟨k, h1, h2, h3⟩
      rcases Nat.lt_succ_iff_lt_or_eq.1 h1 with h4 | rfl
      · exact .inl ⟨k, h4, h2, h3⟩
      · right; rw [if_pos h3]; simp [h2]
/-- The sum of f over the first n numbers with a property. -/
def sumP (P : Nat → Prop) [DecidablePred P] (f : Nat → Int) : Nat → Int
  | 0 => 0
  | n + 1 => sumP P f n + (if P n then f n else 0)
theorem sumP_le (P : Nat → Prop) [DecidablePred P] (f g : Nat → Int) (n : Nat) (h : ∀ k, k < n → P k → f k ≤ g k) : sumP P f n ≤ sumP P g n := by
  induction n with
  | zero => exact Int.le_refl _
  | succ n ih =>
    have i := ih (fun k hk => h k (by omega))
    unfold sumP
    split
    · rename_i hp; have := h n (by omega) hp; omega
    · omega
theorem sumP_lt (P : Nat → Prop) [DecidablePred P] (f g : Nat → Int) (n : Nat) (h : ∀ k, k < n → P k → f k ≤ g k) (j : Nat) (hj : j < n) (hp : P j) (h2 : f j < g j) : sumP P f n < sumP P g n := by
  induction n with
  | zero => omega
  | succ n ih =>
    unfold sumP
    rcases Nat.lt_succ_iff_lt_or_eq.1 hj with h4 | rfl
    · have i := ih (fun k hk => h k (by omega)) h4
      split
      · rename_i hp; have := h n (by omega) hp; omega
      · omega
    · have i := sumP_le P f g j (fun k hk => h k (by omega))
      rw [if_pos hp, if_pos hp]; omega
theorem sumP_congr (P Q : Nat → Prop) [DecidablePred P] [DecidablePred Q] (f : Nat → Int) (n : Nat) (h : ∀ k, k < n → (P k ↔ Q k)) : sumP P f n = sumP Q f n := by
  induction n with
  | zero => rfl
  | succ n ih =>
    have i := ih (fun k hk => h k (by omega))
    unfold sumP
    rw [i]
    have := h n (by omega)
    by_cases hp : P n
    · rw [if_pos hp, if_pos (this.1 hp)]
    · rw [if_neg hp, if_neg (fun q => hp (this.2 q))]
theorem sumP_zero (P : Nat → Prop) [DecidablePred P] (n : Nat) : sumP P (fun _ => 0) n = 0 := by
  induction n with
  | zero => rfl
  | succ n ih => unfold sumP; rw [ih]; split <;> rfl
theorem sumP_nonneg (P : Nat → Prop) [DecidablePred P] (f : Nat → Int) (n : Nat) (h : ∀ k, k < n → P k → 0 ≤ f k) : 0 ≤ sumP P f n := by
  rw [← sumP_zero P n]; exact sumP_le P _ f n h
/-- f with one more at k. -/
def incF (g : Nat → Int) (k : Nat) : Nat → Int := fun i => if i = k then g i + 1 else g i
theorem sumP_inc (P : Nat → Prop) [DecidablePred P] (g : Nat → Int) (k n : Nat) (hk : k < n) : sumP P (incF g k) n = sumP P g n + (if P k then 1 else 0) := by
  have hbelow : ∀ m, m ≤ k → sumP P (incF g k) m = sumP P g m := fun m => by
    induction m with
    | zero => intro _; rfl
    | succ m ih =>
      intro hm
      unfold sumP
      rw [ih (by omega)]
      have : incF g k m = g m := by unfold incF; rw [if_neg (by omega)]
      rw [this]
  induction n with
  | zero => omega
  | succ n ih =>
    unfold sumP
    by_cases h : k = n
    · subst h
      rw [hbelow k (Nat.le_refl _)]
      have : incF g k k = g k + 1 := by unfold incF; rw [if_pos rfl]
      rw [this]; split <;> omega
    · rw [ih (by omega)]
      have : incF g k n = g n := by unfold incF; rw [if_neg (by omega)]
      rw [this]; omega
abbrev InP (L : List Rq) (a b : Int) (k : Nat) : Prop := a ≤ rR L k ∧ rD L k ≤ b
def demN (L : List Rq) (a b : Int) (n : Nat) : Int := sumP (InP L a b) (rN L) n
def demR (L : List Rq) (a b : Int) : Int := if RqsOk L then demN L a b L.length else 0
theorem demN_bounds {L : List Rq} (h : RqsOk L) (a b : Int) (n : Nat) (hn : n ≤ L.length) : 0 ≤ demN L a b n ∧ demN L a b n ≤ 100 * n := by
  induction n with
  | zero => exact ⟨Int.le_refl _, Int.le_refl _⟩
  | succ n ih =>
    have i := ih (by omega)
    have hn : 1 ≤ rN L n ∧ rN L n ≤ 100 := (h.at (k := n) (by omega)).2.2.2
    unfold demN at i ⊢
    unfold sumP
    generalize rN L n = f at *
    generalize sumP (InP L a b) (rN L) n = e at *
    split <;> omega
-- ---------- what is chosen at a time
/-- A request that can be served at a time. -/
def Elg (L : List Rq) (g : Nat → Int) (t : Int) (k : Nat) : Prop := rR L k ≤ t ∧ t ≤ rD L k ∧ g k < rN L k
instance (L : List Rq) (g : Nat → Int) (t : Int) (k : Nat) : Decidable (Elg L g t k) := by unfold Elg; infer_instance
/-- Its Deadline, or its Id at the same Deadline, is less. -/
def Fst (L : List Rq) (i k : Nat) : Prop := rD L i < rD L k ∨ (rD L i = rD L k ∧ rI L i < rI L k)
instance (L : List Rq) (i k : Nat) : Decidable (Fst L i k) := by unfold Fst; infer_instance
/-- The best of the first n requests at a time. -/
def besN (L : List Rq) (g : Nat → Int) (t : Int) : Nat → Option Nat
  | 0 => none
  | n + 1 => if Elg L g t n then (match besN L g t n with
    | none => some n
    | some b => if Fst L n b then some n else some b) else besN L g t n
theorem besN_spec {L : List Rq} (h : RqsOk L) (g : Nat → Int) (t : Int) (n : Nat) (hn : n ≤ L.length) :
    (besN L g t n = none ∧ ∀ k, k < n → ¬ Elg L g t k) ∨ (∃ b, besN L g t n = some b ∧ b < n ∧ Elg L g t b ∧ ∀ k, k < n → Elg L g t k → k ≠ b → Fst L b k) := by
  induction n with
  | zero => exact .inl ⟨rfl, fun k hk => absurd hk (Nat.not_lt_zero k)⟩
  | succ n ih =>
    have i := ih (by omega)
    unfold besN
    by_cases he : Elg L g t n
    · rw [if_pos he]
      right
      rcases i with ⟨e, h1⟩ | ⟨b, e, h1, h2, h3⟩
      · rw [e]
        refine ⟨n, rfl, by omega, he, fun k hk hek hne => ?_⟩
        exact absurd hek (h1 k (by omega))
      · rw [e]
        by_cases hf : Fst L n b
        · refine ⟨n, by simp [hf], by omega, he, fun k hk hek hne => ?_⟩
          by_cases hkb : k = b
          · rw [hkb]; exact hf
          · have h4 := h3 k (by omega) hek hkb
            unfold Fst at hf h4 ⊢
            omega
        · refine ⟨b, by simp [hf], by omega, h2, fun k hk hek hne => ?_⟩
          rcases Nat.lt_succ_iff_lt_or_eq.1 hk with h4 | rfl
          · exact h3 k h4 hek hne
          · have : rI L k ≠ rI L b := fun e2 => hne (h.inj (by omega) (by omega) e2)
            unfold Fst at hf ⊢
            omega
    · rw [if_neg he]
      rcases i with ⟨e, h1⟩ | ⟨b, e, h1, h2, h3⟩
      · left
        refine ⟨e, fun k hk => ?_⟩
        rcases Nat.lt_succ_iff_lt_or_eq.1 hk with h4 | rfl
        · exact h1 k h4
        · exact he
      · right
        refine ⟨b, e, by omega, h2, fun k hk hek hne => ?_⟩
        rcases Nat.lt_succ_iff_lt_or_eq.1 hk with h4 | rfl
        · exact h3 k h4 hek hne
        · exact absurd hek he
/-- The request that is served at a time. -/
def pik (V : Int → Bool) (L : List Rq) (g : Nat → Int) (t : Int) : Option Nat := if V t then besN L g t L.length else none
theorem pik_some {V : Int → Bool} {L : List Rq} (h : RqsOk L) {g : Nat → Int} {t : Int} {k : Nat} : pik V L g t = some k ↔ V t = true ∧ k < L.length ∧ Elg L g t k ∧ ∀ i, i < L.length → Elg L g t i → i ≠ k → Fst L k i := by
  unfold pik
  constructor
  · intro e
    split at e
    · rename_i hv
      rcases besN_spec h g t L.length (Nat.le_refl _) with ⟨e1, _⟩ | ⟨b, e1, h1, h2, h3⟩
      · rw [e1] at e; simp at e
      · rw [e1] at e; obtain rfl := Option.some.inj e; exact ⟨hv, h1, h2, h3⟩
    · simp at e
  · rintro ⟨hv, h1, h2, h3⟩
    rw [if_pos hv]
    rcases besN_spec h g t L.length (Nat.le_refl _) with ⟨e1, h4⟩ | ⟨b, e1, h4, h5, h6⟩
    · exact absurd h2 (h4 k h1)
    · rw [e1]
      by_cases hbk : b = k
      · rw [hbk]
      · have a := h3 b h4 h5 hbk
        have c := h6 k h1 h2 (fun e => hbk e.symm)
        unfold Fst at a c
        omega
theorem pik_none {V : Int → Bool} {L : List Rq} (h : RqsOk L) {g : Nat → Int} {t : Int} : pik V L g t = none ↔ (V t = true → ∀ i, i < L.length → ¬ Elg L g t i) := by
  unfold pik
  constructor
  · intro e hv
    rw [if_pos hv] at e
    rcases besN_spec h g t L.length (Nat.le_refl _) with ⟨_, h4⟩ | ⟨b, e1, _⟩
    · exact h4
    · rw [e1] at e; simp at e
  · intro hh
    split
    · rename_i hv
      rcases besN_spec h g t L.length (Nat.le_refl _) with ⟨e1, _⟩ | ⟨b, e1, h4, h5, _⟩
      · exact e1
      · exact absurd h5 (hh hv b h4)
    · rfl
def stpG (g : Nat → Int) : Option Nat → (Nat → Int)
  | none => g
  | some k => incF g k
/-- How many slots each request has before the time t. -/
def gAt (V : Int → Bool) (L : List Rq) : Nat → (Nat → Int)
  | 0 => fun _ => 0
  | t + 1 => stpG (gAt V L t) (pik V L (gAt V L t) t)
def sloT (L : List Rq) (t : Int) : Option Nat → List Sl
  | none => []
  | some k => [(t, rI L k)]
/-- The slots before the time t. -/
def plN (V : Int → Bool) (L : List Rq) : Nat → List Sl
  | 0 => []
  | t + 1 => plN V L t ++ sloT L t (pik V L (gAt V L t) t)
theorem g_some {V : Int → Bool} {L : List Rq} {t k : Nat} (h : pik V L (gAt V L t) t = some k) : gAt V L (t + 1) = incF (gAt V L t) k ∧ plN V L (t + 1) = plN V L t ++ [((t : Int), rI L k)] := by
  constructor
  · show stpG _ (pik V L (gAt V L t) t) = _
    rw [h]; rfl
  · show _ ++ sloT L t (pik V L (gAt V L t) t) = _
    rw [h]; rfl
theorem g_none {V : Int → Bool} {L : List Rq} {t : Nat} (h : pik V L (gAt V L t) t = none) : gAt V L (t + 1) = gAt V L t ∧ plN V L (t + 1) = plN V L t := by
  constructor
  · show stpG _ (pik V L (gAt V L t) t) = _
    rw [h]; rfl
  · show _ ++ sloT L t (pik V L (gAt V L t) t) = _
    rw [h]; exact List.append_nil _
/-- Times at which nothing is served are passed over. -/
theorem g_skip {V : Int → Bool} {L : List Rq} {t : Nat} (d : Nat) (h : ∀ u : Nat, t ≤ u → u < t + d → pik V L (gAt V L t) u = none) : gAt V L (t + d) = gAt V L t ∧ plN V L (t + d) = plN V L t := by
  induction d with
  | zero => exact ⟨rfl, rfl⟩
  | succ d ih =>
    obtain ⟨a, b⟩ := ih (fun u h1 h2 => h u h1 (by omega))
    have hp : pik V L (gAt V L (t + d)) ((t + d : Nat) : Int) = none := by
      rw [a]; exact h (t + d) (by omega) (by omega)
    obtain ⟨c, e⟩ := g_none hp
    exact ⟨by rw [← a, ← c]; rfl, by rw [← b, ← e]; rfl⟩
theorem g_bounds {V : Int → Bool} {L : List Rq} (h : RqsOk L) (t k : Nat) (hk : k < L.length) : 0 ≤ gAt V L t k ∧ gAt V L t k ≤ rN L k := by
  have hN : 1 ≤ rN L k ∧ rN L k ≤ 100 := (h.at hk).2.2.2
  induction t with
  | zero => exact ⟨Int.le_refl _, by show (0 : Int) ≤ _; omega⟩
  | succ t ih =>
    cases hp : pik V L (gAt V L t) t with
    | none => rw [(g_none hp).1]; exact ih
    | some j =>
      rw [(g_some hp).1]
      unfold incF
      split
      · rename_i e
        have := ((pik_some h).1 hp).2.2.1.2.2
        rw [e]; rw [e] at ih; omega
      · exact ih
theorem g_mono {V : Int → Bool} {L : List Rq} (t d k : Nat) : gAt V L t k ≤ gAt V L (t + d) k := by
  induction d with
  | zero => exact Int.le_refl _
  | succ d ih =>
    refine Int.le_trans ih ?_
    show gAt V L (t + d) k ≤ stpG (gAt V L (t + d)) (pik V L (gAt V L (t + d)) ((t + d : Nat) : Int)) k
    cases pik V L (gAt V L (t + d)) ((t + d : Nat) : Int) with
    | none => exact Int.le_refl _
    | some j => show gAt V L (t + d) k ≤ incF (gAt V L (t + d)) j k; unfold incF; generalize gAt V L (t + d) k = z; split <;> omega
theorem g_count {V : Int → Bool} {L : List Rq} (h : RqsOk L) (t k : Nat) (hk : k < L.length) : (soR (plN V L t) (rI L k) : Int) = gAt V L t k := by
  induction t with
  | zero => rfl
  | succ t ih =>
    cases hp : pik V L (gAt V L t) t with
    | none => rw [(g_none hp).1, (g_none hp).2]; exact ih
    | some j =>
      rw [(g_some hp).1, (g_some hp).2, soR_one]
      unfold incF
      have hj := ((pik_some h).1 hp).2.1
      by_cases e : k = j
      · subst e; simp only [if_true]; push_cast; omega
      · rw [if_neg (show ¬ rI L j = rI L k from fun e2 => e (h.inj hj hk e2).symm), if_neg e]; push_cast; omega
/-- Every slot is one of a request, within its times, at a visible time; the times ascend. -/
theorem pl_slot {V : Int → Bool} {L : List Rq} (h : RqsOk L) (t : Nat) : ∀ x ∈ plN V L t, V x.1 = true ∧ (0 ≤ x.1 ∧ x.1 < t) ∧ ∃ k, k < L.length ∧ x.2 = rI L k ∧ rR L k ≤ x.1 ∧ x.1 ≤ rD L k := by
  induction t with
  | zero => intro x hx; simp [plN] at hx
  | succ t ih =>
    intro x hx
    cases hp : pik V L (gAt V L t) t with
    | none =>
      rw [(g_none hp).2] at hx
      obtain ⟨a, b, c⟩ := ih x hx
      exact ⟨a, by omega, c⟩
    | some j =>
      rw [(g_some hp).2] at hx
      rcases List.mem_append.1 hx with hx | hx
      · obtain ⟨a, b, c⟩ := ih x hx
        exact ⟨a, by omega, c⟩
      · obtain rfl := List.mem_singleton.1 hx
        obtain ⟨a, b, ⟨c1, c2, c3⟩, d⟩ := (pik_some h).1 hp
        exact ⟨a, by show 0 ≤ (t : Int) ∧ (t : Int) < _; omega, j, b, rfl, c1, c2⟩
theorem pl_asc {V : Int → Bool} {L : List Rq} (h : RqsOk L) (t : Nat) : (plN V L t).Pairwise (fun x y => x.1 < y.1) := by
  induction t with
  | zero => exact List.Pairwise.nil
  | succ t ih =>
    cases hp : pik V L (gAt V L t) t with
    | none => rw [(g_none hp).2]; exact ih
    | some j =>
      rw [(g_some hp).2, List.pairwise_append]
      refine ⟨ih, List.pairwise_singleton _ _, fun x hx y hy => ?_⟩
      obtain rfl := List.mem_singleton.1 hy
      have := (pl_slot h t x hx).2.1
      show x.1 < (t : Int); omega
theorem pl_len {V : Int → Bool} {L : List Rq} (h : RqsOk L) (t : Nat) : (((plN V L t).length : Nat) : Int) = sumP (fun _ => True) (gAt V L t) L.length := by
  induction t with
  | zero => exact (sumP_zero _ _).symm
  | succ t ih =>
    cases hp : pik V L (gAt V L t) t with
    | none => rw [(g_none hp).1, (g_none hp).2]; exact ih
    | some j =>
      rw [(g_some hp).1, (g_some hp).2, sumP_inc _ _ _ _ ((pik_some h).1 hp).2.1, List.length_append]
      simp; exact ih
theorem pl_at {V : Int → Bool} {L : List Rq} (h : RqsOk L) (T t : Nat) (ht : t < T) : sotR (plN V L T) t = (match pik V L (gAt V L t) t with | none => -1 | some k => rI L k) := by
  have h0 : ∀ x ∈ plN V L t, x.1 ≠ (t : Int) := fun x hx => by have := (pl_slot h t x hx).2.1; omega
  have h1 : sotR (plN V L (t + 1)) t = (match pik V L (gAt V L t) t with | none => -1 | some k => rI L k) ∧ (pik V L (gAt V L t) t ≠ none → ∃ x ∈ plN V L (t + 1), x.1 = (t : Int)) := by
    cases hp : pik V L (gAt V L t) t with
    | none =>
      rw [(g_none hp).2]
      refine ⟨?_, fun hh => absurd rfl hh⟩
      have := sotR_append (plN V L t) [] t h0
      rw [List.append_nil] at this
      rw [this]; rfl
    | some j =>
      rw [(g_some hp).2, sotR_append _ _ _ h0]
      exact ⟨by simp [sotR], fun _ => ⟨((t : Int), rI L j), by simp, rfl⟩⟩
  obtain ⟨d, rfl⟩ : ∃ d, T = t + 1 + d := ⟨T - (t + 1), by omega⟩
  clear ht
  induction d with
  | zero => exact h1.1
  | succ d ih =>
    cases hp : pik V L (gAt V L (t + 1 + d)) ((t + 1 + d : Nat) : Int) with
    | none =>
      have := (g_none hp).2
      rw [show t + 1 + (d + 1) = t + 1 + d + 1 by omega, this]; exact ih
    | some j =>
      have e := (g_some hp).2
      rw [show t + 1 + (d + 1) = t + 1 + d + 1 by omega, e]
      by_cases hex : ∃ x ∈ plN V L (t + 1 + d), x.1 = (t : Int)
      · rw [sotR_left _ _ _ hex]; exact ih
      · have h3 : ∀ x ∈ plN V L (t + 1 + d), x.1 ≠ (t : Int) := fun x hx e => hex ⟨x, hx, e⟩
        rw [sotR_append _ _ _ h3]
        have h4 : sotR [(((t + 1 + d : Nat) : Int), rI L j)] (t : Int) = -1 := by
          unfold sotR; rw [if_neg (by show ¬ (((t + 1 + d : Nat) : Int) = (t : Int)); omega)]; rfl
        rw [h4, ← ih]
        have := sotR_append (plN V L (t + 1 + d)) [] t h3
        rw [List.append_nil] at this
        rw [this]; rfl
-- ---------- plans that are feasible
/-- How many of the n times from a on are visible. -/
def visN (V : Int → Bool) (a : Int) : Nat → Int
  | 0 => 0
  | n + 1 => visN V a n + (if V (a + n) then 1 else 0)
theorem visN_succ (V : Int → Bool) (a : Int) (n : Nat) : visN V a (n + 1) = visN V a n + (if V (a + n) then 1 else 0) := rfl
theorem visN_nonneg (V : Int → Bool) (a : Int) (n : Nat) : 0 ≤ visN V a n := by
  induction n with
  | zero => exact Int.le_refl _
  | succ n ih => unfold visN; split <;> omega
/-- The slots of requests that lie within a stretch are no more than its visible times. -/
theorem serve_le {V : Int → Bool} {L : List Rq} (h : RqsOk L) (a n : Nat) (t : Nat) :
    sumP (InP L a ((a : Int) + n - 1)) (gAt V L t) L.length ≤ visN V a (min n (t - a)) := by
  induction t with
  | zero => rw [show gAt V L 0 = fun _ => 0 from rfl, sumP_zero]; exact visN_nonneg _ _ _
  | succ t ih =>
    have hm : visN V a (min n (t - a)) ≤ visN V a (min n (t + 1 - a)) := by
      by_cases e : min n (t + 1 - a) = min n (t - a)
      · rw [e]; exact Int.le_refl _
      · rw [show min n (t + 1 - a) = min n (t - a) + 1 by omega, visN_succ]
        split <;> omega
    cases hp : pik V L (gAt V L t) t with
    | none => rw [(g_none hp).1]; exact Int.le_trans ih hm
    | some j =>
      obtain ⟨hv, hj, ⟨c1, c2, c3⟩, _⟩ := (pik_some h).1 hp
      rw [(g_some hp).1, sumP_inc _ _ _ _ hj]
      split
      · rename_i hin
        obtain ⟨i1, i2⟩ := hin
        have e1 : min n (t + 1 - a) = (t - a) + 1 := by omega
        have e2 : min n (t - a) = t - a := by omega
        rw [e2] at ih
        rw [e1]
        unfold visN
        rw [show (a : Int) + ((t - a : Nat) : Int) = (t : Int) by omega, if_pos hv]
        omega
      · omega
/-- Where each visible time of a stretch serves a request that lies within it, the slots are as many as its visible times. -/
theorem serve_ge {V : Int → Bool} {L : List Rq} (h : RqsOk L) (P : Nat → Prop) [DecidablePred P] (a n : Nat)
    (hs : ∀ u : Nat, a ≤ u → u < a + n → V u = true → ∃ k, pik V L (gAt V L u) u = some k ∧ P k) :
    visN V a n ≤ sumP P (gAt V L (a + n)) L.length := by
  induction n with
  | zero => exact sumP_nonneg _ _ _ (fun k hk _ => (g_bounds h _ k hk).1)
  | succ n ih =>
    have i := ih (fun u h1 h2 h3 => hs u h1 (by omega) h3)
    unfold visN
    have hs' := hs (a + n) (by omega) (by omega)
    rw [show ((a + n : Nat) : Int) = (a : Int) + n by omega] at hs'
    rw [show a + (n + 1) = a + n + 1 by omega]
    cases hp : pik V L (gAt V L (a + n)) ((a + n : Nat) : Int) with
    | none =>
      rw [(g_none hp).1]
      rw [show ((a + n : Nat) : Int) = (a : Int) + n by omega] at hp
      split
      · rename_i hv
        obtain ⟨k, e, _⟩ := hs' hv
        rw [hp] at e; simp at e
      · omega
    | some j =>
      rw [(g_some hp).1, sumP_inc _ _ _ _ ((pik_some h).1 hp).2.1]
      rw [show ((a + n : Nat) : Int) = (a : Int) + n by omega] at hp
      split
      · rename_i hv
        obtain ⟨k, e, hk⟩ := hs' hv
        rw [hp] at e
        obtain rfl := Option.some.inj e
        rw [if_pos hk]; omega
      · split <;> omega
/-- The beginning of the stretch before d in which only requests with a Deadline of at most d are served. -/
theorem stretch {V : Int → Bool} {L : List Rq} (h : RqsOk L) (d : Nat) (n : Nat) (hn : n ≤ d + 1) :
    ∃ t0, t0 ≤ d + 1 ∧ (∀ u : Nat, t0 ≤ u → u ≤ d → d + 1 - n ≤ u → V u = true → ∃ k, pik V L (gAt V L u) u = some k ∧ rD L k ≤ d) ∧
      (d + 1 - n ≤ t0) ∧ (t0 ≤ d + 1 - n ∨ (0 < t0 ∧ V ((t0 : Int) - 1) = true ∧ ∀ k, pik V L (gAt V L (t0 - 1)) ((t0 : Int) - 1) = some k → ¬ rD L k ≤ d)) := by
  induction n with
  | zero => exact ⟨d + 1, by omega, fun u h1 h2 => by omega, by omega, .inl (by omega)⟩
  | succ n ih =>
    obtain ⟨t0, i1, i2, i3, i4⟩ := ih (by omega)
    rcases i4 with i4 | i4
    · -- the stretch reaches as far as was looked
      by_cases hb : V ((t0 : Int) - 1) = true ∧ ∀ k, pik V L (gAt V L (t0 - 1)) ((t0 : Int) - 1) = some k → ¬ rD L k ≤ d
      · exact ⟨t0, i1, fun u h1 h2 h3 h4 => i2 u h1 h2 (by omega) h4, by omega, .inr ⟨by omega, hb⟩⟩
      · refine ⟨t0 - 1, by omega, fun u h1 h2 h3 h4 => ?_, by omega, .inl (by omega)⟩
        by_cases e : u = t0 - 1
        · apply Classical.byContradiction
          intro hc
          apply hb
          rw [e] at h4 hc
          rw [show ((t0 - 1 : Nat) : Int) = (t0 : Int) - 1 by omega] at h4 hc
          exact ⟨h4, fun k hk hd => hc ⟨k, hk, hd⟩⟩
        · exact i2 u (by omega) h2 (by omega) h4
    · exact ⟨t0, i1, fun u h1 h2 h3 h4 => i2 u h1 h2 (by omega) h4, by omega, .inr i4⟩
theorem least_of (L : List Rq) (P : Nat → Prop) [DecidablePred P] (n j : Nat) (hj : j < n) (hp : P j) : ∃ i, i < n ∧ P i ∧ ∀ k, k < n → P k → rR L i ≤ rR L k := by
  induction n generalizing j with
  | zero => omega
  | succ n ih =>
    by_cases hex : ∃ k, k < n ∧ P k
    · obtain ⟨k, hk, hpk⟩ := hex
      obtain ⟨i, a, b, c⟩ := ih k hk hpk
      by_cases hn : P n ∧ rR L n < rR L i
      · refine ⟨n, by omega, hn.1, fun k hk hpk => ?_⟩
        rcases Nat.lt_succ_iff_lt_or_eq.1 hk with h4 | rfl
        · have := c k h4 hpk; omega
        · omega
      · refine ⟨i, by omega, b, fun k hk hpk => ?_⟩
        rcases Nat.lt_succ_iff_lt_or_eq.1 hk with h4 | rfl
        · exact c k h4 hpk
        · have : ¬ rR L k < rR L i := fun hh => hn ⟨hpk, hh⟩
          omega
    · refine ⟨n, by omega, ?_, fun k hk hpk => ?_⟩
      · rcases Nat.lt_succ_iff_lt_or_eq.1 hj with h4 | rfl
        · exact absurd ⟨j, h4, hp⟩ hex
        · exact hp
      · rcases Nat.lt_succ_iff_lt_or_eq.1 hk with h4 | rfl
        · exact absurd ⟨k, h4, hpk⟩ hex
        · exact Int.le_refl _
/-- A request that misses slots: there is a stretch, from a Ready to a Deadline, that is asked for more than it has. -/
theorem missed_full {V : Int → Bool} {L : List Rq} (h : RqsOk L) (T j : Nat) (hj : j < L.length) (hT : rD L j < T) (hm : gAt V L T j < rN L j) :
    ∃ i, i < L.length ∧ rR L i ≤ rD L j ∧ visN V (rR L i) (rD L j - rR L i + 1).toNat < demN L (rR L i) (rD L j) L.length := by
  have hok := fun k hk => h.at (k := k) hk
  have oj : 0 ≤ rR L j ∧ rR L j ≤ rD L j := ⟨(hok j hj).2.1.1, (hok j hj).2.2.1.1⟩
  obtain ⟨d, hd⟩ : ∃ d : Nat, rD L j = d := ⟨(rD L j).toNat, by omega⟩
  obtain ⟨t0, s1, s2, _, s4⟩ := stretch (V := V) h d (d + 1) (Nat.le_refl _)
  -- who is served, or misses, from t0 on, with a Deadline of at most d, is ready from t0 on
  have hr : ∀ (u k : Nat), t0 ≤ u → k < L.length → gAt V L u k < rN L k → (t0 : Int) - 1 ≤ rD L k → rD L k ≤ d → (t0 : Int) ≤ rR L k := by
    intro u k h1 hk h2 h3 h4
    rcases s4 with s4 | ⟨p0, p1, p2⟩
    · have := (hok k hk).2.1.1
      show (t0 : Int) ≤ rR L k
      have : 0 ≤ rR L k := this
      omega
    · apply Classical.byContradiction
      intro hc
      have hg : gAt V L (t0 - 1) k < rN L k := by
        have := g_mono (V := V) (L := L) (t0 - 1) (u - (t0 - 1)) k
        rw [show t0 - 1 + (u - (t0 - 1)) = u by omega] at this
        omega
      have he : Elg L (gAt V L (t0 - 1)) ((t0 : Int) - 1) k := ⟨by omega, h3, hg⟩
      cases hp : pik V L (gAt V L (t0 - 1)) ((t0 : Int) - 1) with
      | none => exact (pik_none h).1 hp p1 k hk he
      | some b =>
        obtain ⟨_, hb, hb2, hb3⟩ := (pik_some h).1 hp
        have := p2 b hp
        by_cases e : k = b
        · rw [e] at h4; exact this h4
        · have := hb3 k hk he e
          unfold Fst at this; omega
  have hjr := hr (max t0 T) j (by omega) hj (by
    have := g_mono (V := V) (L := L) T (max t0 T - T) j
    -- no slot of j behind its Deadline
    have hstay : ∀ e, gAt V L (T + e) j = gAt V L T j := fun e => by
      induction e with
      | zero => rfl
      | succ e ih =>
        cases hp : pik V L (gAt V L (T + e)) ((T + e : Nat) : Int) with
        | none => rw [show T + (e + 1) = T + e + 1 by omega, (g_none hp).1]; exact ih
        | some b =>
          rw [show T + (e + 1) = T + e + 1 by omega, (g_some hp).1]
          obtain ⟨_, hb, ⟨_, hb2, _⟩, _⟩ := (pik_some h).1 hp
          unfold incF
          by_cases e2 : j = b
          · rw [← e2] at hb2; omega
          · rw [if_neg e2]; exact ih
    have := hstay (max t0 T - T)
    rw [show T + (max t0 T - T) = max t0 T by omega] at this
    omega) (by omega) (by omega)
  obtain ⟨i, hi, hiP, hmin⟩ := least_of L (fun k => (t0 : Int) ≤ rR L k ∧ rD L k ≤ d) L.length j hj ⟨hjr, by omega⟩
  have hij := hmin j hj ⟨hjr, by omega⟩
  obtain ⟨a, ha⟩ : ∃ a : Nat, rR L i = a := ⟨(rR L i).toNat, by have : 0 ≤ rR L i := (hok i hi).2.1.1; omega⟩
  refine ⟨i, hi, by omega, ?_⟩
  rw [ha, hd]
  have hn : ((d : Int) - a + 1).toNat = d + 1 - a := by omega
  rw [hn]
  have hge := serve_ge (V := V) h (InP L a d) a (d + 1 - a) (fun u h1 h2 h3 => by
    obtain ⟨k, e, e2⟩ := s2 u (by omega) (by omega) (by omega) h3
    obtain ⟨_, hk, ⟨c1, c2, c3⟩, _⟩ := (pik_some h).1 e
    have := hr u k (by omega) hk c3 (by omega) e2
    have := hmin k hk ⟨this, e2⟩
    exact ⟨k, e, by omega, e2⟩)
  rw [show a + (d + 1 - a) = d + 1 by omega] at hge
  refine Int.lt_of_le_of_lt hge ?_
  have hgj : gAt V L (d + 1) j < rN L j := by
    have := g_mono (V := V) (L := L) (d + 1) (T - (d + 1)) j
    rw [show d + 1 + (T - (d + 1)) = T by omega] at this
    omega
  exact sumP_lt _ _ _ _ (fun k hk _ => (g_bounds h _ k hk).2) j hj ⟨by omega, by omega⟩ hgj
/-- Where nothing is missed, no stretch is asked for more than it has. -/
theorem full_missed {V : Int → Bool} {L : List Rq} (h : RqsOk L) (T : Nat) (hm : ∀ k, k < L.length → rN L k ≤ gAt V L T k) (a b : Int) (ha : 0 ≤ a) (hab : a ≤ b) :
    demN L a b L.length ≤ visN V a (b - a + 1).toNat := by
  obtain ⟨a', rfl⟩ : ∃ a' : Nat, a = a' := ⟨a.toNat, by omega⟩
  have h1 := serve_le (V := V) h a' (b - a' + 1).toNat T
  rw [show (a' : Int) + ((b - a' + 1).toNat : Int) - 1 = b by omega] at h1
  have h2 : demN L a' b L.length ≤ sumP (InP L a' b) (gAt V L T) L.length := sumP_le _ _ _ _ (fun k hk _ => hm k hk)
  refine Int.le_trans (Int.le_trans h2 h1) ?_
  have : ∀ n m : Nat, n ≤ m → visN V a' n ≤ visN V a' m := fun n m hnm => by
    induction m with
    | zero => rw [show n = 0 by omega]; exact Int.le_refl _
    | succ m ih =>
      by_cases e : n = m + 1
      · rw [e]; exact Int.le_refl _
      · refine Int.le_trans (ih (by omega)) ?_
        rw [visN_succ]; split <;> omega
  exact this _ _ (by omega)
end Go.Proofs.Ytdfcamlnebcbpac
