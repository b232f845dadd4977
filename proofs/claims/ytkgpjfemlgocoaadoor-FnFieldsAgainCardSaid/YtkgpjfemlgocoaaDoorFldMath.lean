/- What this text proves: the fields of a line, each followed by one space, are the fields of what is so made. -/
import Derived.Test.YtkgpjfemlgocoaaDoorSplit
import Derived.Lib.Strings
namespace Go.Proofs.YtkgpjfemlgocoaaDoor
open Go.ChangeShapes Go.WideShapes Go.ChangeAt Go.RowKit
set_option linter.unusedVariables false

/-- A field: not empty, no space, no byte that is not allowed. -/
def Word (t : ByteArray) : Prop := 0 < t.size ∧ ∀ i, i < t.size → byteAt t i ≠ 32 ∧ ByteOk t i
/-- The texts, each followed by one space. -/
def joinB : List ByteArray → List UInt8
  | [] => []
  | t :: l => t.data.toList ++ 32 :: joinB l
theorem joinB_nil : joinB [] = [] := rfl
theorem joinB_cons (t : ByteArray) (l : List ByteArray) : joinB (t :: l) = t.data.toList ++ 32 :: joinB l := rfl
theorem joinB_app (a b : List ByteArray) : joinB (a ++ b) = joinB a ++ joinB b := by
  induction a with
  | nil => rfl
  | cons t a ih => rw [List.cons_append, joinB_cons, joinB_cons, ih]; simp
def ofL (l : List UInt8) : ByteArray := ⟨l.toArray⟩
theorem ofL_list (l : List UInt8) : (ofL l).data.toList = l := by simp [ofL]
theorem ofL_size (l : List UInt8) : (ofL l).size = l.length := by rw [Lib.size_eq, ofL_list]
theorem byteAt_ofL (l : List UInt8) (i : Nat) : byteAt (ofL l) i = (l.getD i 0).toNat := by unfold byteAt; rw [ofL_list]
theorem byteAt_ext (s : ByteArray) (a b i : Nat) (h : i < b - a) (hb : b ≤ s.size) : byteAt (s.extract a b) i = byteAt s (a + i) := by
  unfold byteAt
  rw [Lib.extract_data, List.getD_eq_getElem?_getD, List.getD_eq_getElem?_getD, List.getElem?_take, if_pos h, List.getElem?_drop]
theorem size_ext (s : ByteArray) (a b : Nat) (hb : b ≤ s.size) : (s.extract a b).size = b - a := by
  have h := Lib.size_eq s
  rw [Lib.size_eq, Lib.extract_data, List.length_take, List.length_drop]
  omega

theorem stF_gap (s : ByteArray) (k : Nat) : ∀ i, stF s k ≤ i → i < k → byteAt s i ≠ 32 := by
  induction k with
  | zero => intro i _ h; omega
  | succ k ih =>
    intro i h1 h2
    simp only [stF] at h1
    split at h1
    · omega
    · rename_i hne
      by_cases e : i = k
      · rw [e]; exact hne
      · exact ih i h1 (by omega)
theorem word_ext (s : ByteArray) (k : Nat) (hk : k ≤ s.size) (hok : ∀ i, i < s.size → ByteOk s i) (hlt : stF s k < k) : Word (s.extract (stF s k) k) := by
  have hz := size_ext s (stF s k) k hk
  refine ⟨by omega, fun i hi => ?_⟩
  have e := byteAt_ext s (stF s k) k i (by omega) hk
  refine ⟨?_, ?_⟩
  · rw [e]
    exact stF_gap s k _ (by omega) (by omega)
  · unfold ByteOk
    rw [e]
    exact hok _ (by omega)
theorem pushF_words (s : ByteArray) (l : List ByteArray) (k : Nat) (hk : k ≤ s.size) (hok : ∀ i, i < s.size → ByteOk s i) (hl : ∀ t ∈ l, Word t) : ∀ t ∈ pushF s l (stF s k) k, Word t := by
  unfold pushF
  split
  · rename_i hlt
    intro t ht
    rcases List.mem_append.1 ht with h | h
    · exact hl t h
    · obtain rfl := List.mem_singleton.1 h
      exact word_ext s k hk hok hlt
  · exact hl
theorem fsF_words (s : ByteArray) (hok : ∀ i, i < s.size → ByteOk s i) (k : Nat) (hk : k ≤ s.size) : ∀ t ∈ fsF s k, Word t := by
  induction k with
  | zero => intro t ht; cases ht
  | succ k ih =>
    simp only [fsF]
    split
    · exact pushF_words s _ k (by omega) hok (ih (by omega))
    · exact ih (by omega)
theorem allF_words (s : ByteArray) (hok : ∀ i, i < s.size → ByteOk s i) : ∀ t ∈ allF s, Word t :=
  pushF_words s _ s.size (Nat.le_refl _) hok (fsF_words s hok s.size (Nat.le_refl _))

/-- Over bytes without a space nothing changes. -/
theorem run_word (s : ByteArray) (a m : Nat) (h : ∀ i, i < m → byteAt s (a + i) ≠ 32) : fsF s (a + m) = fsF s a ∧ stF s (a + m) = stF s a := by
  induction m with
  | zero => exact ⟨rfl, rfl⟩
  | succ m ih =>
    obtain ⟨h1, h2⟩ := ih (fun i hi => h i (by omega))
    have hm := h m (by omega)
    rw [show a + (m + 1) = (a + m) + 1 from by omega]
    simp only [fsF, stF]
    rw [if_neg hm, if_neg hm]
    exact ⟨h1, h2⟩
/-- The space behind a word ends it. -/
theorem end_word (s : ByteArray) (a m : Nat) (hm : 0 < m) (h : ∀ i, i < m → byteAt s (a + i) ≠ 32) (h32 : byteAt s (a + m) = 32) (hst : stF s a = a) :
    fsF s (a + m + 1) = fsF s a ++ [s.extract a (a + m)] ∧ stF s (a + m + 1) = a + m + 1 := by
  obtain ⟨h1, h2⟩ := run_word s a m h
  simp only [fsF, stF]
  rw [if_pos h32, if_pos h32, h1, h2, hst]
  refine ⟨?_, rfl⟩
  unfold pushF
  rw [if_pos (by omega)]
theorem mid_get (x y z : List UInt8) (i : Nat) (hi : i < y.length) : (x ++ (y ++ z)).getD (x.length + i) 0 = y.getD i 0 := by
  rw [List.getD_eq_getElem?_getD, List.getD_eq_getElem?_getD, List.getElem?_append_right (by omega), show x.length + i - x.length = i by omega, List.getElem?_append_left hi]
/-- What holds ahead of a field holds behind it. -/
theorem fields_step (a : List ByteArray) (t : ByteArray) (b p : List ByteArray) (hp : p = a ++ t :: b) (ht : Word t)
    (i1 : fsF (ofL (joinB p)) (joinB a).length = a) (i2 : stF (ofL (joinB p)) (joinB a).length = (joinB a).length) :
    fsF (ofL (joinB p)) (joinB (a ++ [t])).length = a ++ [t] ∧ stF (ofL (joinB p)) (joinB (a ++ [t])).length = (joinB (a ++ [t])).length := by
  have hj : joinB p = joinB a ++ (t.data.toList ++ (32 :: joinB b)) := by rw [hp, joinB_app, joinB_cons]
  have hz := Lib.size_eq t
  have hlen : (joinB (a ++ [t])).length = (joinB a).length + t.size + 1 := by
    rw [joinB_app, joinB_cons, joinB_nil, List.length_append, List.length_append, List.length_singleton, ← hz]
    omega
  have hS : ∀ i, i < t.size → byteAt (ofL (joinB p)) ((joinB a).length + i) = byteAt t i := fun i hi => by
    rw [byteAt_ofL, hj, mid_get _ _ _ _ (by rw [← hz]; exact hi)]
    rfl
  have h32 : byteAt (ofL (joinB p)) ((joinB a).length + t.size) = 32 := by
    rw [byteAt_ofL, hj, ← List.append_assoc, hz, ← List.length_append, List.getD_eq_getElem?_getD, List.getElem?_append_right (Nat.le_refl _)]
    simp
  obtain ⟨e1, e2⟩ := end_word (ofL (joinB p)) (joinB a).length t.size ht.1 (fun i hi => by rw [hS i hi]; exact (ht.2 i hi).1) h32 i2
  have hx : (ofL (joinB p)).extract (joinB a).length ((joinB a).length + t.size) = t := by
    refine ByteArray.ext (Array.toList_inj.1 ?_)
    rw [Lib.extract_data, ofL_list, hj, List.drop_left, show (joinB a).length + t.size - (joinB a).length = t.data.toList.length by omega, List.take_left]
  rw [hlen, e1, e2, i1, hx]
  exact ⟨rfl, rfl⟩
theorem fields_upto (b : List ByteArray) : ∀ (a p : List ByteArray), p = a ++ b → (∀ t ∈ b, Word t) → fsF (ofL (joinB p)) (joinB a).length = a → stF (ofL (joinB p)) (joinB a).length = (joinB a).length →
    fsF (ofL (joinB p)) (joinB p).length = p ∧ stF (ofL (joinB p)) (joinB p).length = (joinB p).length := by
  induction b with
  | nil =>
    intro a p hp _ i1 i2
    rw [List.append_nil] at hp
    subst hp
    exact ⟨i1, i2⟩
  | cons t b ih =>
    intro a p hp hw i1 i2
    obtain ⟨s1, s2⟩ := fields_step a t b p hp (hw t List.mem_cons_self) i1 i2
    exact ih (a ++ [t]) p (by rw [hp]; simp) (fun t ht => hw t (List.mem_cons_of_mem _ ht)) s1 s2
theorem all_join (l : List ByteArray) (h : ∀ t ∈ l, Word t) : allF (ofL (joinB l)) = l := by
  have h2 := fields_upto l [] l rfl h rfl rfl
  unfold allF
  rw [ofL_size, h2.1, h2.2]
  unfold pushF
  rw [if_neg (by omega)]
theorem join_bytes (l : List ByteArray) (h : ∀ t ∈ l, Word t) : ∀ c ∈ joinB l, 32 ≤ c.toNat ∧ c.toNat ≤ 126 := by
  induction l with
  | nil => intro c hc; cases hc
  | cons t l ih =>
    intro c hc
    rw [joinB_cons] at hc
    rcases List.mem_append.1 hc with h1 | h1
    · obtain ⟨i, hi, e⟩ := List.getElem_of_mem h1
      have hw := ((h t List.mem_cons_self).2 i (by rw [Lib.size_eq]; exact hi)).2
      have e2 : byteAt t i = c.toNat := by
        unfold byteAt
        rw [List.getD_eq_getElem?_getD, List.getElem?_eq_getElem hi]
        exact congrArg UInt8.toNat e
      unfold ByteOk at hw
      rw [e2] at hw
      exact hw
    · rcases List.mem_cons.1 h1 with rfl | h2
      · exact ⟨by decide, by decide⟩
      · exact ih (fun t ht => h t (List.mem_cons_of_mem _ ht)) c h2
/-- What the fields of a line make has the same fields, if it is no longer than a line may be. -/
theorem split_join (s : ByteArray) (hs : SplitOk s) (hz : (joinB (allF s)).length ≤ 600) : splitV (ofL (joinB (allF s))) = (allF s, true) := by
  have hw := allF_words s hs.2.1
  have ha := all_join (allF s) hw
  have hok : SplitOk (ofL (joinB (allF s))) := by
    refine ⟨by rw [ofL_size]; exact hz, fun k hk => ?_, by rw [ha]; exact hs.2.2⟩
    rw [ofL_size] at hk
    unfold ByteOk
    rw [byteAt_ofL, List.getD_eq_getElem?_getD, List.getElem?_eq_getElem hk]
    exact join_bytes _ hw _ (List.getElem_mem hk)
  rw [splitV_yes hok, ha]
theorem join_len (l : List ByteArray) (m : Nat) (h : ∀ t ∈ l, t.size ≤ m) : (joinB l).length ≤ l.length * (m + 1) := by
  induction l with
  | nil => simp [joinB]
  | cons t l ih =>
    have h1 := ih (fun t ht => h t (List.mem_cons_of_mem _ ht))
    have h2 := h t List.mem_cons_self
    rw [joinB_cons, List.length_append, List.length_cons, ← Lib.size_eq, List.length_cons, Nat.succ_mul]
    omega
theorem fs_sizes (s : ByteArray) (k : Nat) (hk : k ≤ s.size) : ∀ t ∈ fsF s k, t.size ≤ s.size := by
  induction k with
  | zero => intro t ht; cases ht
  | succ k ih =>
    simp only [fsF]
    split
    · unfold pushF
      split
      · intro t ht
        rcases List.mem_append.1 ht with h | h
        · exact ih (by omega) t h
        · obtain rfl := List.mem_singleton.1 h
          rw [size_ext s _ _ (by omega)]
          omega
      · exact ih (by omega)
    · exact ih (by omega)
theorem all_sizes (s : ByteArray) : ∀ t ∈ allF s, t.size ≤ s.size := by
  unfold allF pushF
  split
  · intro t ht
    rcases List.mem_append.1 ht with h | h
    · exact fs_sizes s _ (Nat.le_refl _) t h
    · obtain rfl := List.mem_singleton.1 h
      rw [size_ext s _ _ (Nat.le_refl _)]
      omega
  · exact fs_sizes s _ (Nat.le_refl _)
end Go.Proofs.YtkgpjfemlgocoaaDoor
