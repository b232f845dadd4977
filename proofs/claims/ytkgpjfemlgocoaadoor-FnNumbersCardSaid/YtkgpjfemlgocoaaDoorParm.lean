/- What this text proves: facts about decimal texts: the digits of a number are read back as the number. -/
import Derived.Test.YtkgpjfemlgocoaaDoorNumv
import Derived.Lib.AtoiAll
namespace Go.Proofs.YtkgpjfemlgocoaaDoor
open Go
set_option linter.unusedVariables false

/-- What digits spell. -/
def decF (acc : Nat) (l : List UInt8) : Nat := l.foldl (fun a c => a * 10 + (c.toNat - 48)) acc
def isDig (c : UInt8) : Prop := 48 ≤ c.toNat ∧ c.toNat ≤ 57
theorem decF_nil (acc : Nat) : decF acc [] = acc := List.foldl_nil ..
theorem decF_cons (c : UInt8) (l : List UInt8) (acc : Nat) : decF acc (c :: l) = decF (acc * 10 + (c.toNat - 48)) l := List.foldl_cons ..
theorem decF_app (l r : List UInt8) (acc : Nat) : decF acc (l ++ r) = decF (decF acc l) r := List.foldl_append ..
theorem decF_ge (l : List UInt8) : ∀ (acc : Nat), acc ≤ decF acc l := by
  induction l with
  | nil => intro acc; rw [decF_nil]; exact Nat.le_refl _
  | cons c l ih =>
    intro acc
    have h := ih (acc * 10 + (c.toNat - 48))
    rw [decF_cons]
    omega
theorem decF_lt (l : List UInt8) : ∀ (acc : Nat), (∀ c ∈ l, isDig c) → decF acc l < (acc + 1) * 10 ^ l.length := by
  induction l with
  | nil =>
    intro acc _
    rw [decF_nil]
    simp
  | cons c l ih =>
    intro acc hd
    have h := ih (acc * 10 + (c.toNat - 48)) (fun x hx => hd x (List.mem_cons_of_mem _ hx))
    obtain ⟨h1, h2⟩ := hd c List.mem_cons_self
    have e : (acc + 1) * 10 ^ (c :: l).length = ((acc + 1) * 10) * 10 ^ l.length := by
      rw [List.length_cons, Nat.pow_succ, Nat.mul_comm (10 ^ l.length) 10, Nat.mul_assoc]
    rw [decF_cons, e]
    refine Nat.lt_of_lt_of_le h (Nat.mul_le_mul_right _ ?_)
    clear h e ih hd
    omega
theorem parse_digits (l : List UInt8) : ∀ (acc : Nat), (∀ c ∈ l, isDig c) → decF acc l < 1000000000000000000 → Lib.parseUint10 acc l = .ok (decF acc l) := by
  induction l with
  | nil => intro acc _ _; rw [decF_nil, Lib.parseUint10]
  | cons c l ih =>
    intro acc hd hlt
    obtain ⟨h1, h2⟩ := hd c List.mem_cons_self
    rw [decF_cons] at hlt ⊢
    have hge := decF_ge l (acc * 10 + (c.toNat - 48))
    rw [Lib.parseUint10, if_pos ⟨h1, h2⟩, if_neg (by omega), if_neg (by omega)]
    exact ih _ (fun x hx => hd x (List.mem_cons_of_mem _ hx)) hlt
theorem atoi_digits (l : List UInt8) (hne : l ≠ []) (hd : ∀ c ∈ l, isDig c) (hlt : decF 0 l < 1000000000000000000) : Lib.atoiAll l = .ok ((decF 0 l : Nat) : Int) := by
  cases l with
  | nil => exact absurd rfl hne
  | cons c r =>
    obtain ⟨h1, h2⟩ := hd c List.mem_cons_self
    have n43 : ¬ (c.toNat = 43 ∨ c.toNat = 45) := by omega
    have n45 : ¬ c.toNat = 45 := by omega
    have hp : Lib.parseMag (c :: r) = .ok (decF 0 (c :: r)) := by
      unfold Lib.parseMag
      rw [if_neg (by simp)]
      exact parse_digits _ 0 hd hlt
    simp only [Lib.atoiAll, if_neg n43, hp]
    rw [if_neg (by omega), if_neg (by omega), if_neg n45]
theorem dig_digit (u : Nat) (h : u < 10) : isDig (UInt8.ofNat (48 + u)) ∧ (UInt8.ofNat (48 + u)).toNat - 48 = u := by
  have e : (UInt8.ofNat (48 + u)).toNat = 48 + u := by rw [UInt8.toNat_ofNat']; omega
  exact ⟨⟨by omega, by omega⟩, by omega⟩
theorem decD_eq (u : Nat) : Lib.decDigits u = if u < 10 then [UInt8.ofNat (48 + u)] else Lib.decDigits (u / 10) ++ [UInt8.ofNat (48 + u % 10)] := by
  rw [Lib.decDigits]
  split <;> rfl
theorem decD_all (u : Nat) : (∀ c ∈ Lib.decDigits u, isDig c) ∧ decF 0 (Lib.decDigits u) = u ∧ Lib.decDigits u ≠ [] := by
  induction u using Nat.strongRecOn with
  | ind u ih =>
    by_cases h : u < 10
    · obtain ⟨h1, h2⟩ := dig_digit u h
      rw [decD_eq, if_pos h]
      refine ⟨fun c hc => ?_, ?_, by simp⟩
      · obtain rfl := List.mem_singleton.1 hc
        exact h1
      · rw [decF_cons, decF_nil]
        omega
    · obtain ⟨h1, h2⟩ := dig_digit (u % 10) (by omega)
      obtain ⟨i1, i2, i3⟩ := ih (u / 10) (by omega)
      rw [decD_eq, if_neg h]
      refine ⟨fun c hc => ?_, ?_, by simp⟩
      · rcases List.mem_append.1 hc with hc | hc
        · exact i1 c hc
        · obtain rfl := List.mem_singleton.1 hc
          exact h1
      · rw [decF_app, i2]
        rw [decF_cons, decF_nil]
        omega
theorem decD_len : ∀ (k u : Nat), u < 10 ^ (k + 1) → (Lib.decDigits u).length ≤ k + 1
  | 0, u, h => by
    rw [decD_eq, if_pos (by simpa using h)]
    simp
  | k + 1, u, h => by
    rw [decD_eq]
    split
    · simp
    · have := decD_len k (u / 10) (by rw [Nat.pow_succ] at h; omega)
      simp only [List.length_append, List.length_singleton]
      omega

/-- The list of a text's bytes. -/
theorem fmtB_list (n : Int) : (fmtB n).data.toList = Lib.itoa n := by simp [fmtB]
theorem itoa_pos (n : Int) (h : 0 ≤ n) : Lib.itoa n = Lib.decDigits n.toNat := by
  unfold Lib.itoa
  rw [if_neg (by omega)]
theorem itoa_minus (n : Int) (h : n < 0) : Lib.itoa n = 45 :: Lib.decDigits n.natAbs := by
  unfold Lib.itoa
  rw [if_pos h]
/-- What ParseUint answers: the number whose text it is; none: 0 and false. -/
def parseV (s : ByteArray) : Int × Bool :=
  match Lib.atoiAll s.data.toList with
  | .ok v => if 0 ≤ v ∧ v ≤ 1000000000 ∧ fmtB v = s then (v, true) else (0, false)
  | _ => (0, false)
theorem parseV_none (s : ByteArray) (h : ∀ v, 0 ≤ v → v ≤ 1000000000 → fmtB v ≠ s) : parseV s = (0, false) := by
  unfold parseV
  split
  · rw [if_neg]
    rintro ⟨h0, h1, he⟩
    exact h _ h0 h1 he
  · rfl
theorem fmtB_facts (v : Int) (s : ByteArray) (h0 : 0 ≤ v) (h1 : v ≤ 1000000000) (h : fmtB v = s) : s.data.toList = Lib.decDigits v.toNat ∧ (∀ c ∈ s.data.toList, isDig c) ∧ s.data.toList.length ≤ 10 ∧ decF 0 s.data.toList = v.toNat ∧ s.data.toList ≠ [] := by
  subst h
  rw [fmtB_list, itoa_pos v h0]
  obtain ⟨a, b, c⟩ := decD_all v.toNat
  exact ⟨rfl, a, decD_len 9 _ (by omega), b, c⟩
theorem parseV_digits (s : ByteArray) (hd : ∀ c ∈ s.data.toList, isDig c) (hl : s.data.toList.length ≤ 10) :
    parseV s = if decF 0 s.data.toList ≤ 1000000000 ∧ fmtB ((decF 0 s.data.toList : Nat) : Int) = s then (((decF 0 s.data.toList : Nat) : Int), true) else (0, false) := by
  by_cases hne : s.data.toList = []
  · rw [parseV_none s (fun v h0 h1 he => (fmtB_facts v s h0 h1 he).2.2.2.2 hne), if_neg]
    rintro ⟨h1, he⟩
    exact (fmtB_facts _ s (by omega) (by omega) he).2.2.2.2 hne
  · have hb := decF_lt _ 0 hd
    have hp : (10 : Nat) ^ s.data.toList.length ≤ 10 ^ 10 := Nat.pow_le_pow_right (by omega) hl
    unfold parseV
    rw [atoi_digits _ hne hd (by omega)]
    show (if _ then _ else _) = _
    by_cases hc : decF 0 s.data.toList ≤ 1000000000 ∧ fmtB ((decF 0 s.data.toList : Nat) : Int) = s
    · rw [if_pos hc, if_pos ⟨by omega, by omega, hc.2⟩]
    · rw [if_neg hc, if_neg]
      rintro ⟨_, h1, h2⟩
      exact hc ⟨by omega, h2⟩
/-- The text of a number is read back. -/
theorem parseV_fmt (n : Int) : parseV (fmtB n) = if 0 ≤ n ∧ n ≤ 1000000000 then (n, true) else (0, false) := by
  by_cases h : 0 ≤ n ∧ n ≤ 1000000000
  · obtain ⟨hl, hd, hlen, hv, _⟩ := fmtB_facts n _ h.1 h.2 rfl
    have hn : ((n.toNat : Nat) : Int) = n := Int.toNat_of_nonneg h.1
    rw [if_pos h, parseV_digits _ hd hlen, hv, hn, if_pos ⟨by omega, rfl⟩]
  · rw [if_neg h]
    refine parseV_none _ fun v h0 h1 he => ?_
    obtain ⟨hl, hd, _, hv, _⟩ := fmtB_facts v _ h0 h1 he
    rw [fmtB_list] at hd hv
    by_cases hn : n < 0
    · rw [itoa_minus n hn] at hd
      have := (hd 45 List.mem_cons_self).1
      simp at this
    · rw [itoa_pos n (by omega), (decD_all _).2.1] at hv
      omega
theorem fmtB_ne (n : Int) : fmtB n ≠ ⟨#[]⟩ := by
  intro h
  have e := congrArg (fun s => s.data.toList) h
  have e' : Lib.itoa n = [] := by rw [← fmtB_list]; exact e
  by_cases hn : n < 0
  · rw [itoa_minus n hn] at e'; cases e'
  · rw [itoa_pos n (by omega)] at e'
    exact (decD_all _).2.2 e'
end Go.Proofs.YtkgpjfemlgocoaaDoor
