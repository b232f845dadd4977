/- What this text proves: the parts LoMath of the proof, each under its own words. -/
import Derived.Test.YtegahdlfjdjcaaaV31
/- What this text proves: whatever frames are lost, exactly the packets come out all of whose frames arrived: as numbers and bytes. -/
namespace Go.Proofs.Ytegahdlfjdjcaaa
open Go.ChangeShapes Go.WideShapes Go.ChangeAt Go.RowKit
set_option linter.unusedVariables false

theorem encQ_cons_size {p : Pk} (hp : OkQ p) (Q : List Pk) : (encQ (p :: Q)).size = 4 + p.2.2.size + (encQ Q).size := by
  show (pkT p.1 p.2.1 p.2.2 ++ encQ Q).size = _
  rw [ByteArray.size_append, pkT_size hp]
theorem encQ_app_size (P Q : List Pk) : (encQ (P ++ Q)).size = (encQ P).size + (encQ Q).size := by rw [encQ_app, ByteArray.size_append]
theorem encQ_none : (encQ []).size = 0 := rfl
/-- Where packets begin. -/
def stL : List Pk → Nat → List Int
  | [] => fun _ => []
  | p :: Q => fun o => (o : Int) :: stL Q (o + (4 + p.2.2.size))
theorem stL_nil (o : Nat) : stL [] o = [] := rfl
theorem stL_cons (p : Pk) (Q : List Pk) (o : Nat) : stL (p :: Q) o = (o : Int) :: stL Q (o + (4 + p.2.2.size)) := rfl
theorem stL_len (P : List Pk) : ∀ o, (stL P o).length = P.length := by
  induction P with
  | nil => intro o; rfl
  | cons p P ih => intro o; rw [stL_cons, List.length_cons, List.length_cons, ih]
theorem stL_app (P Q : List Pk) (h : ∀ p ∈ P, OkQ p) : ∀ o, stL (P ++ Q) o = stL P o ++ stL Q (o + (encQ P).size) := by
  induction P with
  | nil => intro o; rfl
  | cons p P ih =>
    intro o
    rw [List.cons_append, stL_cons, stL_cons, ih (fun x hx => h x (List.mem_cons_of_mem _ hx)), encQ_cons_size (h p (List.mem_cons_self ..)), List.cons_append, Nat.add_assoc o]
theorem stL_mem (P : List Pk) (h : ∀ p ∈ P, OkQ p) : ∀ (o : Nat) (x : Int), x ∈ stL P o → (o : Int) ≤ x ∧ x < (o : Int) + (encQ P).size := by
  induction P with
  | nil => intro o x hx; cases hx
  | cons p P ih =>
    intro o x hx
    have hz := encQ_cons_size (h p (List.mem_cons_self ..)) P
    rw [stL_cons] at hx
    rcases List.mem_cons.1 hx with rfl | hx
    · omega
    · have := ih (fun x hx => h x (List.mem_cons_of_mem _ hx)) _ x hx
      omega
/-- Whether all frames of a stretch of bytes arrived. -/
def whole (keep : Nat → Bool) (a b : Nat) : Prop := ∀ j, a / 24 ≤ j → j ≤ (b - 1) / 24 → keep j = true
open Classical in
noncomputable def oneW (keep : Nat → Bool) (o : Nat) (p : Pk) : List Pk := if whole keep o (o + (4 + p.2.2.size)) then realP p else []
/-- The packets all of whose frames arrived, of those that begin at a place. -/
noncomputable def wantQ (keep : Nat → Bool) : List Pk → Nat → List Pk
  | [] => fun _ => []
  | p :: Q => fun o => oneW keep o p ++ wantQ keep Q (o + (4 + p.2.2.size))
theorem wantQ_nil (keep : Nat → Bool) (o : Nat) : wantQ keep [] o = [] := rfl
theorem wantQ_cons (keep : Nat → Bool) (p : Pk) (Q : List Pk) (o : Nat) : wantQ keep (p :: Q) o = oneW keep o p ++ wantQ keep Q (o + (4 + p.2.2.size)) := rfl
theorem oneW_yes {keep : Nat → Bool} {o : Nat} {p : Pk} (h : whole keep o (o + (4 + p.2.2.size))) : oneW keep o p = realP p := by unfold oneW; rw [if_pos h]
theorem oneW_no {keep : Nat → Bool} {o : Nat} {p : Pk} (h : ¬ whole keep o (o + (4 + p.2.2.size))) : oneW keep o p = [] := by unfold oneW; rw [if_neg h]
theorem wantQ_app (keep : Nat → Bool) (P Q : List Pk) (h : ∀ p ∈ P, OkQ p) : ∀ o, wantQ keep (P ++ Q) o = wantQ keep P o ++ wantQ keep Q (o + (encQ P).size) := by
  induction P with
  | nil => intro o; rfl
  | cons p P ih =>
    intro o
    rw [List.cons_append, wantQ_cons, wantQ_cons, ih (fun x hx => h x (List.mem_cons_of_mem _ hx)), encQ_cons_size (h p (List.mem_cons_self ..)), List.append_assoc, Nat.add_assoc o]
theorem want_all {keep : Nat → Bool} {M : Nat} (P : List Pk) (h : ∀ p ∈ P, OkQ p) : ∀ o, (∀ j, o / 24 ≤ j → j ≤ M → keep j = true) → o + (encQ P).size ≤ 24 * (M + 1) → wantQ keep P o = realQ P := by
  induction P with
  | nil => intro o _ _; rfl
  | cons p P ih =>
    intro o hk hs
    have hz := encQ_cons_size (h p (List.mem_cons_self ..)) P
    rw [wantQ_cons, oneW_yes (fun j h1 h2 => hk j h1 (by omega)), ih (fun x hx => h x (List.mem_cons_of_mem _ hx)) _ (fun j h1 h2 => hk j (by omega) h2) (by omega)]
    rfl
theorem want_none {keep : Nat → Bool} {i : Nat} (hi : keep i = false) (P : List Pk) (h : ∀ p ∈ P, OkQ p) : ∀ o, (∀ p B, P = p :: B → 24 * i < o + (4 + p.2.2.size)) → o + (encQ P).size ≤ 24 * (i + 1) → wantQ keep P o = [] := by
  induction P with
  | nil => intro o _ _; rfl
  | cons p P ih =>
    intro o hh hs
    have hz := encQ_cons_size (h p (List.mem_cons_self ..)) P
    have h1 := hh p P rfl
    rw [wantQ_cons, oneW_no (fun hw => by have := hw i (by omega) (by omega); rw [hi] at this; cases this), ih (fun x hx => h x (List.mem_cons_of_mem _ hx)) _ (fun q B hB => by omega) (by omega)]
    rfl
theorem cut_at (P : List Pk) (h : ∀ p ∈ P, OkQ p) : ∀ (o M : Nat), o ≤ M → ∃ P1 P2, P = P1 ++ P2 ∧ o + (encQ P1).size ≤ M ∧ (∀ p B, P2 = p :: B → M < o + (encQ P1).size + (4 + p.2.2.size)) := by
  induction P with
  | nil => intro o M ho; exact ⟨[], [], rfl, ho, fun p B hB => by cases hB⟩
  | cons p P ih =>
    intro o M ho
    by_cases hs : o + (4 + p.2.2.size) ≤ M
    · obtain ⟨P1, P2, rfl, h2, h3⟩ := ih (fun x hx => h x (List.mem_cons_of_mem _ hx)) _ M hs
      have hz := encQ_cons_size (h p (List.mem_cons_self ..)) P1
      exact ⟨p :: P1, P2, rfl, by omega, fun q B hB => by have := h3 q B hB; omega⟩
    · exact ⟨[], p :: P, rfl, ho, fun q B hB => by cases hB; rw [encQ_none]; omega⟩
/-- The Starts that are left behind i frames. -/
def lAt (l : List Int) (i : Nat) : List Int := (l.filter (fun x => decide (24 * (i : Int) ≤ x))).map (fun x => x - 24 * (i : Int))
theorem lAt_zero (l : List Int) (h : ∀ x ∈ l, 0 ≤ x) : lAt l 0 = l := by
  unfold lAt
  rw [List.filter_eq_self.2 (fun x hx => by have := h x hx; simpa using this)]
  simp
theorem lAt_next (l : List Int) (i : Nat) : laterK (lAt l i) (lAt l i).length = lAt l (i + 1) := by
  rw [later_all]
  unfold lAt
  rw [List.filter_map, List.map_map, List.filter_filter]
  have h1 : (fun x : Int => decide (24 * ((i + 1 : Nat) : Int) ≤ x)) = (fun x => ((fun x => decide (24 ≤ x)) ∘ fun x => x - 24 * (i : Int)) x && decide (24 * (i : Int) ≤ x)) := by
    funext x
    rw [Bool.eq_iff_iff]
    simp only [Function.comp, Bool.and_eq_true, decide_eq_true_iff]
    omega
  have h2 : (fun x : Int => x - 24 * ((i + 1 : Nat) : Int)) = ((fun x => x - 24) ∘ fun x => x - 24 * (i : Int)) := by
    funext x
    simp only [Function.comp]
    omega
  rw [h1, h2]
theorem ext_next (S : ByteArray) (i : Nat) : (S.extract (24 * i) S.size).extract 24 (S.extract (24 * i) S.size).size = S.extract (24 * (i + 1)) S.size := by
  apply list_inj
  have hz := size_list S
  rw [ext_list, ext_list, ext_list, ByteArray.size_extract, List.take_of_length_le (l := S.data.toList.drop (24 * i)) (by rw [List.length_drop]; omega), List.drop_drop, show 24 * i + 24 = 24 * (i + 1) from rfl, List.take_of_length_le (by rw [List.length_drop]; omega), List.take_of_length_le (by rw [List.length_drop]; omega)]
theorem ext_first (S : ByteArray) (i : Nat) (h : 24 * (i + 1) ≤ S.size) : (S.extract (24 * i) S.size).extract 0 24 = S.extract (24 * i) (24 * (i + 1)) := by
  apply list_inj
  have hz := size_list S
  rw [ext_list, ext_list, ext_list, List.take_of_length_le (l := S.data.toList.drop (24 * i)) (by rw [List.length_drop]; omega), List.drop_zero, Nat.sub_zero, show 24 * (i + 1) - 24 * i = 24 from by omega]
/-- The i-th frame. -/
def frI (S : ByteArray) (l : List Int) (i : Nat) : Fr := (0, (i : Int), firstI (lAt l i), S.extract (24 * i) (24 * (i + 1)))
theorem itT_at {S : ByteArray} {l : List Int} {K : Nat} (h : PaOk 0 0 S l) (hS : S.size = 24 * K) (hK : K ≤ 200) : ∀ i, i ≤ K → itT 0 (0, S, l) i = ((i : Int), S.extract (24 * i) S.size, lAt l i) ∧ PaOk 0 (i : Int) (S.extract (24 * i) S.size) (lAt l i) := by
  intro i
  induction i with
  | zero =>
    intro _
    have h0 : S.extract (24 * 0) S.size = S := by
      apply list_inj
      rw [ext_list, Nat.mul_zero, List.drop_zero, Nat.sub_zero, size_list, List.take_length]
    have h1 := lAt_zero l fun x hx => (h.1.asc.2 x hx).1
    rw [h0, h1]
    exact ⟨rfl, h⟩
  | succ i ih =>
    intro hi
    obtain ⟨h1, h2⟩ := ih (by omega)
    have hs : 24 ≤ (S.extract (24 * i) S.size).size := by rw [ByteArray.size_extract]; omega
    have h3 := taken_ok h2 hs
    obtain ⟨_, e1, e2, e3, _, _⟩ := taken h2 hs
    have e4 : ((i : Int) + 1) % 256 = ((i + 1 : Nat) : Int) := by omega
    rw [e1, e2, e3, lAt_next, ext_next, e4] at h3
    refine ⟨?_, h3⟩
    show oneT 0 (itT 0 (0, S, l) i) = _
    rw [h1]
    unfold oneT
    simp only
    rw [e1, e2, e3, lAt_next, ext_next, e4]
theorem frI_at {S : ByteArray} {l : List Int} {K : Nat} (h : PaOk 0 0 S l) (hS : S.size = 24 * K) (hK : K ≤ 200) {i : Nat} (hi : i < K) : oneB 0 (itT 0 (0, S, l) i) = true ∧ oneF 0 (itT 0 (0, S, l) i) = frI S l i ∧ FrOk 0 (i : Int) (firstI (lAt l i)) (S.extract (24 * i) (24 * (i + 1))) := by
  obtain ⟨h1, h2⟩ := itT_at h hS hK i (by omega)
  have hs : 24 ≤ (S.extract (24 * i) S.size).size := by rw [ByteArray.size_extract]; omega
  obtain ⟨e0, _, _, _, e4, e5⟩ := taken h2 hs
  rw [ext_first S i (by omega)] at e4 e5
  unfold oneB oneF
  rw [h1]
  exact ⟨e0, e4, e5⟩
theorem runs_at {S : ByteArray} {l : List Int} {K : Nat} (h : PaOk 0 0 S l) (hS : S.size = 24 * K) (hK : K ≤ 200) : Runs 0 (0, S, l) K := by
  refine ⟨fun k hk => (frI_at h hS hK hk).1, ?_⟩
  obtain ⟨h1, h2⟩ := itT_at h hS hK K (Nat.le_refl _)
  unfold oneB
  rw [h1]
  exact tkB_no fun hh => by have := hh.2; simp only [ByteArray.size_extract] at this; omega
theorem flT_at {S : ByteArray} {l : List Int} {K : Nat} (h : PaOk 0 0 S l) (hS : S.size = 24 * K) (hK : K ≤ 200) : ∀ j, j ≤ K → flT 0 (0, S, l) j = (List.range j).map (frI S l) := by
  intro j
  induction j with
  | zero => intro _; rfl
  | succ j ih =>
    intro hj
    rw [List.range_succ, List.map_append, ← ih (by omega), List.map_singleton, ← (frI_at h hS hK (show j < K by omega)).2.1]
    rfl
/-- Where the first packet of a frame begins. -/
theorem first_at {A1 B : List Pk} {p : Pk} {i : Nat} (h1 : ∀ x ∈ A1, OkQ x) (h2 : ∀ x ∈ B, OkQ x) (ho : (encQ A1).size ≤ 24 * i) (hp : 24 * i < (encQ A1).size + (4 + p.2.2.size)) :
    firstI (lAt (stL (A1 ++ p :: B) 0) i) = if (encQ A1).size = 24 * i then 0 else if B ≠ [] ∧ (encQ A1).size + (4 + p.2.2.size) < 24 * (i + 1) then (((encQ A1).size + (4 + p.2.2.size) : Nat) : Int) - 24 * (i : Int) else 255 := by
  have hA : (stL A1 0).filter (fun x => decide (24 * (i : Int) ≤ x)) = [] := List.filter_eq_nil_iff.2 fun x hx => by
    have := stL_mem A1 h1 0 x hx
    simp only [decide_eq_true_iff]
    omega
  rw [stL_app A1 _ h1, stL_cons, Nat.zero_add]
  unfold lAt
  rw [List.filter_append, hA, List.nil_append]
  by_cases hz : (encQ A1).size = 24 * i
  · rw [if_pos hz, List.filter_cons_of_pos (by simp only [decide_eq_true_iff]; omega)]
    unfold firstI
    have e : (((encQ A1).size : Int) - 24 * (i : Int)) = 0 := by omega
    rw [List.map_cons, e]
    simp
  · rw [if_neg hz, List.filter_cons_of_neg (by simp only [decide_eq_true_iff]; omega)]
    cases B with
    | nil => rw [stL_nil, if_neg (fun hh => hh.1 rfl)]; rfl
    | cons b B =>
      rw [stL_cons, List.filter_cons_of_pos (by simp only [decide_eq_true_iff]; omega), List.map_cons]
      unfold firstI
      by_cases hl : (encQ A1).size + (4 + p.2.2.size) < 24 * (i + 1)
      · rw [if_pos ⟨by simp, by simp only [List.getD_cons_zero]; omega⟩, if_pos ⟨by simp, hl⟩]
        rfl
      · rw [if_neg (fun hh => hl (by have h3 := hh.2; simp only [List.getD_cons_zero] at h3; omega)), if_neg (fun hh => hl hh.2)]
/-- The state behind the first i frames, of which those arrived that keep names. -/
structure JJ (keep : Nat → Bool) (S : ByteArray) (A : List Pk) (i : Nat) (t : Un4) (G A1 A2 : List Pk) : Prop where
  eq : A = A1 ++ A2
  off : (encQ A1).size ≤ 24 * i
  head : ∀ p B, A2 = p :: B → 24 * i < (encQ A1).size + (4 + p.2.2.size)
  want : G ++ wantQ keep A2 (encQ A1).size = wantQ keep A 0
  n : t.1 = -1 ∨ (0 ≤ t.1 ∧ t.1 ≤ (i : Int))
  none : t.1 = -1 → t.2.1 = false
  rest : t.2.1 = true ∨ t.2.2.1 = ⟨#[]⟩
  small : t.2.2.1.size ≤ 43
  lost : 0 ≤ t.2.2.2 ∧ t.2.2.2 ≤ (i : Int)
  full : (∀ j, j < i → keep j = true) → t.2.2.2 = 0 ∧ (t.1 = (i : Int) ∨ t.1 = -1)
  sync : (t.1 = (i : Int) ∧ t.2.1 = true ∧ t.2.2.1 ++ S.extract (24 * i) S.size = encQ A2 ∧ (encQ A1).size + t.2.2.1.size = 24 * i ∧ ∀ j, (encQ A1).size / 24 ≤ j → j < i → keep j = true) ∨
    ((t.1 ≠ (i : Int) ∨ t.2.1 = false) ∧ ((encQ A1).size = 24 * i ∨ ∃ j, (encQ A1).size / 24 ≤ j ∧ j < i ∧ keep j = false))
theorem JJ.start {keep : Nat → Bool} {S : ByteArray} {A : List Pk} : JJ keep S A 0 (-1, false, ⟨#[]⟩, 0) [] [] A :=
  ⟨rfl, Nat.zero_le _, fun p B h => by rw [encQ_none]; omega, rfl, .inl rfl, fun _ => rfl, .inr rfl, by decide, ⟨by decide, by decide⟩, fun _ => ⟨rfl, .inr rfl⟩, .inr ⟨.inr rfl, .inl rfl⟩⟩
theorem JJ.up {keep : Nat → Bool} {S : ByteArray} {A G A1 A2 : List Pk} {i : Nat} {t : Un4} (h : JJ keep S A i t G A1 A2) (hi : i ≤ 200) : UpOk 0 t.1 t.2.1 t.2.2.1 t.2.2.2 := by
  have h1 := h.n; have h2 := h.lost
  exact ⟨by decide, by omega, by omega, h.rest.imp id (fun e => by rw [e]; rfl), h.small⟩
/-- A frame that is lost. -/
theorem JJ.skip {keep : Nat → Bool} {S : ByteArray} {A G A1 A2 : List Pk} {i : Nat} {t : Un4} (h : JJ keep S A i t G A1 A2) (hA : ∀ p ∈ A, OkQ p) (hk : keep i = false) : ∃ B1 B2, JJ keep S A (i + 1) t G B1 B2 := by
  have hA2 : ∀ p ∈ A2, OkQ p := fun p hp => hA p (by rw [h.eq]; exact List.mem_append_right _ hp)
  have ho := h.off
  obtain ⟨P1, P2, rfl, h2, h3⟩ := cut_at A2 hA2 (encQ A1).size (24 * (i + 1)) (by omega)
  have hz := encQ_app_size A1 P1
  have h1 := h.n; have h4 := h.lost
  refine ⟨A1 ++ P1, P2, by rw [h.eq, List.append_assoc], by omega, fun p B hB => by have := h3 p B hB; omega, ?_, by omega, h.none, h.rest, h.small, by omega, fun hf => ?_, .inr ⟨?_, ?_⟩⟩
  · rw [← h.want, wantQ_app keep P1 P2 (fun p hp => hA2 p (List.mem_append_left _ hp)), hz, want_none hk P1 (fun p hp => hA2 p (List.mem_append_left _ hp)) _ (fun p B hB => h.head p (B ++ P2) (by rw [hB]; rfl)) h2]
    rfl
  · have := hf i (Nat.lt_succ_self i)
    rw [hk] at this
    cases this
  · rcases h1 with e | e
    · exact .inr (h.none e)
    · exact .inl (by omega)
  · by_cases he : (encQ (A1 ++ P1)).size = 24 * (i + 1)
    · exact .inl he
    · exact .inr ⟨i, by omega, Nat.lt_succ_self i, hk⟩
/-- A frame that is read in step, from the place of a packet on. -/
theorem sync_step {keep : Nat → Bool} {S : ByteArray} {A A1 B G : List Pk} {i : Nat} {X : ByteArray} {lo : Int} (hA : ∀ p ∈ A, OkQ p) (heq : A = A1 ++ B) (hX : X ++ S.extract (24 * (i + 1)) S.size = encQ B)
    (hs : (encQ A1).size + X.size = 24 * (i + 1)) (hk : ∀ j, (encQ A1).size / 24 ≤ j → j ≤ i → keep j = true) (hG : G ++ wantQ keep B (encQ A1).size = wantQ keep A 0) (hl : 0 ≤ lo ∧ lo ≤ ((i + 1 : Nat) : Int)) (hf : (∀ j, j < i + 1 → keep j = true) → lo = 0) :
    ¬ BrkP (takeP X).2 ∧ ∃ B1 B2, JJ keep S A (i + 1) (((i + 1 : Nat) : Int), true, (takeP X).2, lo) (G ++ (takeP X).1) B1 B2 := by
  have hB : ∀ p ∈ B, OkQ p := fun p hp => hA p (by rw [heq]; exact List.mem_append_right _ hp)
  obtain ⟨P1, P2, X2, rfl, hX1, htk, hb, hbrk, h43, hh⟩ := takeP_split B X _ hB hX
  have hz := encQ_app_size A1 P1
  have hx : X.size = (encQ P1).size + X2.size := by rw [hX1, ByteArray.size_append]
  rw [htk]
  refine ⟨hbrk, A1 ++ P1, P2, by rw [heq, List.append_assoc], by omega, fun p B hB => by have := hh p B hB; omega, ?_, .inr ⟨by omega, by omega⟩, fun e => ?_, .inl rfl, h43, hl, fun h => ⟨hf h, .inl rfl⟩, .inl ⟨rfl, rfl, hb, by simp only; omega, fun j h1 h2 => hk j (by omega) (by omega)⟩⟩
  · rw [← hG, wantQ_app keep P1 P2 (fun p hp => hB p (List.mem_append_left _ hp)), hz, want_all (M := i) P1 (fun p hp => hB p (List.mem_append_left _ hp)) _ hk (by omega), List.append_assoc]
  · simp only at e
    omega
theorem ext_two (S : ByteArray) (a b : Nat) (h1 : a ≤ b) (h2 : b ≤ S.size) : S.extract a b ++ S.extract b S.size = S.extract a S.size := by
  apply list_inj
  have hz := size_list S
  obtain ⟨c, rfl⟩ : ∃ c, b = a + c := ⟨b - a, by omega⟩
  have e1 : (S.data.toList.drop (a + c)).take (S.size - (a + c)) = S.data.toList.drop (a + c) := List.take_of_length_le (by rw [List.length_drop]; omega)
  have e2 : (S.data.toList.drop a).take (S.size - a) = S.data.toList.drop a := List.take_of_length_le (by rw [List.length_drop]; omega)
  rw [app_list, ext_list, ext_list, ext_list, e1, e2, show a + c - a = c from by omega, ← List.drop_drop, List.take_append_drop]
theorem ext_cut (S : ByteArray) (i : Nat) (h : 24 * (i + 1) ≤ S.size) : S.extract (24 * i) (24 * (i + 1)) ++ S.extract (24 * (i + 1)) S.size = S.extract (24 * i) S.size := ext_two S _ _ (by omega) h
theorem ext_size (S : ByteArray) (i : Nat) (h : 24 * (i + 1) ≤ S.size) : (S.extract (24 * i) (24 * (i + 1))).size = 24 := by rw [ByteArray.size_extract]; omega
theorem ext_self (D : ByteArray) : D.extract 0 D.size = D := by
  apply list_inj
  rw [ext_list, List.drop_zero, Nat.sub_zero, size_list, List.take_length]
theorem app_cancel {P X Y : ByteArray} (h : P ++ X = P ++ Y) : X = Y := by
  have h1 : (P ++ X).data.toList = (P ++ Y).data.toList := by rw [h]
  rw [app_list, app_list] at h1
  exact list_inj (List.append_cancel_left h1)
/-- What lies behind the first packets of a text of packets. -/
theorem ext_behind {S : ByteArray} {A1 A2 : List Pk} (hS : S = encQ (A1 ++ A2)) : S.extract (encQ A1).size S.size = encQ A2 := by
  subst hS
  rw [encQ_app, cut_head _ _ _ rfl]
theorem ext_in (S : ByteArray) (a b c : Nat) (h : a + c ≤ b) (h2 : b ≤ S.size) : (S.extract a b).extract c (S.extract a b).size = S.extract (a + c) b := by
  apply list_inj
  have hz := size_list S
  rw [ext_list, ext_list, ext_list, ByteArray.size_extract, List.drop_take, List.drop_drop, List.take_take]
  congr 1
  omega
/-- A frame that arrives. -/
theorem JJ.push {keep : Nat → Bool} {S : ByteArray} {A G A1 A2 : List Pk} {i K : Nat} {t : Un4} (h : JJ keep S A i t G A1 A2) (hA : ∀ p ∈ A, OkQ p) (hS : S = encQ A) (hSz : S.size = 24 * K) (hK : K ≤ 200) (hi : i < K) (hk : keep i = true)
    (hfr : FrOk 0 (i : Int) (firstI (lAt (stL A 0) i)) (S.extract (24 * i) (24 * (i + 1)))) :
    ∃ B1 B2, JJ keep S A (i + 1) (oneS 0 t (frI S (stL A 0) i)) (G ++ puL 0 t.1 t.2 (frI S (stL A 0) i)) B1 B2 := by
  have hup := h.up (by omega)
  obtain ⟨n, b, R, lo⟩ := t
  have hpu : PuOk 0 n (b, R, lo) (frI S (stL A 0) i) := ⟨hup, hfr, rfl⟩
  have ho := h.off
  have hN : puN 0 n (b, R, lo) (frI S (stL A 0) i) = ((i + 1 : Nat) : Int) := by
    unfold puN
    rw [if_pos hpu]
    show ((i : Int) + 1) % 256 = _
    omega
  have hS3 : puS 0 n (b, R, lo) (frI S (stL A 0) i) = g3 (g2 (firstI (lAt (stL A 0) i)) (S.extract (24 * i) (24 * (i + 1))) (g1 n (i : Int) (b, R, lo))) := by
    unfold puS
    rw [if_pos hpu]
    rfl
  have hL3 : puL 0 n (b, R, lo) (frI S (stL A 0) i) = (takeP (g2 (firstI (lAt (stL A 0) i)) (S.extract (24 * i) (24 * (i + 1))) (g1 n (i : Int) (b, R, lo))).2.1).1 := by
    unfold puL
    rw [if_pos hpu]
    rfl
  have hn : n = -1 ∨ (0 ≤ n ∧ n ≤ (i : Int)) := h.n
  have hlo : 0 ≤ lo ∧ lo ≤ (i : Int) := h.lost
  unfold oneS
  simp only
  rw [hN, hS3, hL3]
  have hA1 : ∀ p ∈ A1, OkQ p := fun p hp => hA p (by rw [h.eq]; exact List.mem_append_left _ hp)
  have hA2 : ∀ p ∈ A2, OkQ p := fun p hp => hA p (by rw [h.eq]; exact List.mem_append_right _ hp)
  -- what is to be shown where bytes are read in step
  have fin : ∀ (X : ByteArray) (C1 C2 : List Pk) (lo' : Int), A = C1 ++ C2 → X ++ S.extract (24 * (i + 1)) S.size = encQ C2 → (encQ C1).size + X.size = 24 * (i + 1) → (∀ j, (encQ C1).size / 24 ≤ j → j ≤ i → keep j = true) → G ++ wantQ keep C2 (encQ C1).size = wantQ keep A 0 → 0 ≤ lo' ∧ lo' ≤ ((i + 1 : Nat) : Int) → ((∀ j, j < i + 1 → keep j = true) → lo' = 0) →
      g2 (firstI (lAt (stL A 0) i)) (S.extract (24 * i) (24 * (i + 1))) (g1 n (i : Int) (b, R, lo)) = (true, X, lo') →
      ∃ B1 B2, JJ keep S A (i + 1) (((i + 1 : Nat) : Int), g3 (g2 (firstI (lAt (stL A 0) i)) (S.extract (24 * i) (24 * (i + 1))) (g1 n (i : Int) (b, R, lo)))) (G ++ (takeP (g2 (firstI (lAt (stL A 0) i)) (S.extract (24 * i) (24 * (i + 1))) (g1 n (i : Int) (b, R, lo))).2.1).1) B1 B2 := by
    intro X C1 C2 lo' h1 h2 h3 h4 h5 h6 h7 h8
    obtain ⟨h9, h10⟩ := sync_step hA h1 h2 h3 h4 h5 h6 h7
    rw [h8]
    have e3 : g3 (true, X, lo') = (true, (takeP X).2, lo') := by unfold g3; exact if_neg h9
    rw [e3]
    exact h10
  rcases h.sync with ⟨e1, e2, e3, e4, e5⟩ | ⟨e1, e2⟩
  · have e1' : n = (i : Int) := e1
    have e2' : b = true := e2
    have e3' : R ++ S.extract (24 * i) S.size = encQ A2 := e3
    have e4' : (encQ A1).size + R.size = 24 * i := e4
    clear e1 e2 e3 e4
    refine fin (R ++ S.extract (24 * i) (24 * (i + 1))) A1 A2 lo h.eq (by rw [app_assoc, ext_cut S i (by omega)]; exact e3') (by rw [ByteArray.size_append, ext_size S i (by omega)]; omega) (fun j h1 h2 => ?_) h.want ⟨hlo.1, by omega⟩ (fun hf => (h.full fun j hj => hf j (by omega)).1) ?_
    · by_cases hj : j = i
      · rw [hj]; exact hk
      · exact e5 j h1 (by omega)
    · have hg1 : g1 n (i : Int) (b, R, lo) = (b, R, lo) := by
        unfold g1
        exact if_neg (fun hh => hh.2 e1')
      rw [hg1]
      subst e2'
      unfold g2
      exact if_pos rfl
  · -- nothing waits
    obtain ⟨lo', hg1, hl1, hl2⟩ : ∃ lo', g1 n (i : Int) (b, R, lo) = (false, ⟨#[]⟩, lo') ∧ (0 ≤ lo' ∧ lo' ≤ ((i + 1 : Nat) : Int)) ∧ ((∀ j, j < i + 1 → keep j = true) → lo' = 0) := by
      by_cases hc : n ≠ -1 ∧ n ≠ (i : Int)
      · refine ⟨lossN lo, by unfold g1; rw [if_pos hc], by unfold lossN; split <;> omega, fun hf => ?_⟩
        exfalso
        rcases (h.full fun j hj => hf j (by omega)).2 with e | e
        · exact hc.2 e
        · exact hc.1 e
      · have hb : b = false := by
          by_cases h1 : n = -1
          · exact h.none h1
          · have h2 : n = (i : Int) := by
              by_cases h3 : n = (i : Int)
              · exact h3
              · exact absurd ⟨h1, h3⟩ hc
            rcases e1 with e | e
            · exact absurd h2 e
            · exact e
        have hR : R = ⟨#[]⟩ := by
          rcases h.rest with e | e
          · have e' : b = true := e
            rw [hb] at e'
            cases e'
          · exact e
        subst hb hR
        exact ⟨lo, by unfold g1; rw [if_neg hc], ⟨hlo.1, by omega⟩, fun hf => (h.full fun j hj => hf j (by omega)).1⟩
    rw [hg1] at fin ⊢
    have hne : ∃ p B, A2 = p :: B := by
      cases A2 with
      | nil =>
        exfalso
        have h1 : S.size = (encQ A1).size := by rw [hS, h.eq, List.append_nil]
        omega
      | cons p B => exact ⟨p, B, rfl⟩
    obtain ⟨p, B, rfl⟩ := hne
    have hhd := h.head p B rfl
    have hfi := first_at (A1 := A1) (B := B) (p := p) (i := i) hA1 (fun x hx => hA2 x (List.mem_cons_of_mem _ hx)) ho hhd
    rw [← h.eq] at hfi
    have hpz := encQ_cons_size (hA2 p (List.mem_cons_self ..)) B
    have hSe : S = encQ (A1 ++ p :: B) := by rw [hS, ← h.eq]
    have hSz2 : S.size = (encQ A1).size + (encQ (p :: B)).size := by rw [hSe, encQ_app_size]
    by_cases hz : (encQ A1).size = 24 * i
    · rw [if_pos hz] at hfi
      have hb := ext_behind hSe
      rw [hz] at hb
      refine fin (S.extract (24 * i) (24 * (i + 1))) A1 (p :: B) lo' h.eq (by rw [ext_cut S i (by omega)]; exact hb) (by rw [ext_size S i (by omega)]; omega) (fun j h1 h2 => (show i = j from by omega) ▸ hk) h.want hl1 hl2 ?_
      unfold g2
      rw [hfi]
      show (if (false : Bool) = true then _ else if (0 : Int) ≠ 255 then (true, (S.extract (24 * i) (24 * (i + 1))).extract (0 : Int).toNat (S.extract (24 * i) (24 * (i + 1))).size, lo') else _) = _
      rw [if_neg (by intro hh; cases hh), if_pos (by decide)]
      rw [show (0 : Int).toNat = 0 from rfl, ext_self]
    · obtain ⟨j0, hj1, hj2, hj3⟩ : ∃ j, (encQ A1).size / 24 ≤ j ∧ j < i ∧ keep j = false := by
        rcases e2 with e | e
        · exact absurd e hz
        · exact e
      have hnw : oneW keep (encQ A1).size p = [] := oneW_no fun hw => by
        have := hw j0 hj1 (by omega)
        rw [hj3] at this
        cases this
      have hq1 := encQ_app_size A1 [p]
      have hq2 : (encQ [p]).size = 4 + p.2.2.size := by rw [encQ_one, pkT_size (hA2 p (List.mem_cons_self ..))]
      have hwt : G ++ wantQ keep B (encQ (A1 ++ [p])).size = wantQ keep A 0 := by
        rw [← h.want, wantQ_cons, hnw, List.nil_append, hq1, hq2]
      have heq2 : A = (A1 ++ [p]) ++ B := by rw [h.eq, List.append_assoc]; rfl
      rw [if_neg hz] at hfi
      by_cases hc : B ≠ [] ∧ (encQ A1).size + (4 + p.2.2.size) < 24 * (i + 1)
      · rw [if_pos hc] at hfi
        have hb := ext_behind (S := S) (A1 := A1 ++ [p]) (A2 := B) (by rw [hS, ← heq2])
        rw [hq1, hq2] at hb
        have hin := ext_in S (24 * i) (24 * (i + 1)) ((encQ A1).size + (4 + p.2.2.size) - 24 * i) (by omega) (by omega)
        rw [show 24 * i + ((encQ A1).size + (4 + p.2.2.size) - 24 * i) = (encQ A1).size + (4 + p.2.2.size) from by omega] at hin
        refine fin (S.extract ((encQ A1).size + (4 + p.2.2.size)) (24 * (i + 1))) (A1 ++ [p]) B lo' heq2 (by rw [ext_two S _ _ (by omega) (by omega)]; exact hb) (by rw [hq1, hq2, ByteArray.size_extract]; omega) (fun j h1 h2 => (show i = j from by rw [hq1, hq2] at h1; omega) ▸ hk) hwt hl1 hl2 ?_
        unfold g2
        show (if (false : Bool) = true then _ else if firstI (lAt (stL A 0) i) ≠ 255 then (true, (S.extract (24 * i) (24 * (i + 1))).extract (firstI (lAt (stL A 0) i)).toNat (S.extract (24 * i) (24 * (i + 1))).size, lo') else _) = _
        rw [if_neg (by intro hh; cases hh), hfi, if_pos (by omega), show ((((encQ A1).size + (4 + p.2.2.size) : Nat) : Int) - 24 * (i : Int)).toNat = (encQ A1).size + (4 + p.2.2.size) - 24 * i from by omega, hin]
      · rw [if_neg hc] at hfi
        have hge : 24 * (i + 1) ≤ (encQ A1).size + (4 + p.2.2.size) := by
          by_cases hB : B = []
          · subst hB
            rw [encQ_none] at hpz
            omega
          · by_cases hl : (encQ A1).size + (4 + p.2.2.size) < 24 * (i + 1)
            · exact absurd ⟨hB, hl⟩ hc
            · omega
        have hg2 : g2 (firstI (lAt (stL A 0) i)) (S.extract (24 * i) (24 * (i + 1))) (false, ⟨#[]⟩, lo') = (false, ⟨#[]⟩, lo') := by
          unfold g2
          show (if (false : Bool) = true then _ else if firstI (lAt (stL A 0) i) ≠ 255 then _ else _) = _
          rw [if_neg (by intro hh; cases hh), if_neg (by rw [hfi]; decide)]
        have hno : okP (⟨#[]⟩ : ByteArray) = false := by unfold okP; rw [decP_no (fun h => by have h1 : (0 : Int) + 4 ≤ ((0 : Nat) : Int) := h.2.1; omega)]
        have hg3 : g3 (false, ⟨#[]⟩, lo') = (false, ⟨#[]⟩, lo') := by
          unfold g3
          show (if BrkP (takeP ⟨#[]⟩).2 then _ else (false, (takeP ⟨#[]⟩).2, lo')) = _
          rw [takeP_stop hno, if_neg (fun h => by have h1 : 4 ≤ 0 := h.1; omega)]
        rw [hg2, hg3]
        show ∃ B1 B2, JJ keep S A (i + 1) (((i + 1 : Nat) : Int), false, ⟨#[]⟩, lo') (G ++ (takeP ⟨#[]⟩).1) B1 B2
        rw [takeP_stop hno, List.append_nil]
        by_cases heq : (encQ A1).size + (4 + p.2.2.size) = 24 * (i + 1)
        · refine ⟨A1 ++ [p], B, heq2, by omega, fun q C hC => by omega, hwt, .inr ⟨by simp only; omega, by simp only; omega⟩, fun e => rfl, .inr rfl, Nat.zero_le 43, hl1, fun hf => ⟨hl2 hf, .inl rfl⟩, .inr ⟨.inr rfl, .inl (by omega)⟩⟩
        · refine ⟨A1, p :: B, h.eq, by omega, fun q C hC => by cases hC; omega, h.want, .inr ⟨by simp only; omega, by simp only; omega⟩, fun e => rfl, .inr rfl, Nat.zero_le 43, hl1, fun hf => ⟨hl2 hf, .inl rfl⟩, .inr ⟨.inr rfl, .inr ⟨j0, hj1, by omega, hj3⟩⟩⟩
/-- Behind the last frame: exactly the packets came out all of whose frames arrived. -/
theorem JJ.done {keep : Nat → Bool} {S : ByteArray} {A G A1 A2 : List Pk} {K : Nat} {t : Un4} (h : JJ keep S A K t G A1 A2) (hA : ∀ p ∈ A, OkQ p) (hS : S = encQ A) (hSz : S.size = 24 * K) : G = wantQ keep A 0 := by
  have hA2 : A2 = [] := by
    cases A2 with
    | nil => rfl
    | cons p B =>
      exfalso
      have h1 := h.head p B rfl
      have h2 := encQ_cons_size (hA p (by rw [h.eq]; exact List.mem_append_right _ (List.mem_cons_self ..))) B
      have h3 : S.size = (encQ A1).size + (encQ (p :: B)).size := by rw [hS, h.eq, encQ_app_size]
      omega
  subst hA2
  have := h.want
  rw [wantQ_nil, List.append_nil] at this
  exact this
/-- The frames that arrived, of the first i. -/
noncomputable def kpL (keep : Nat → Bool) (S : ByteArray) (l : List Int) : Nat → List Fr4
  | 0 => []
  | i + 1 => kpL keep S l i ++ (if keep i = true then [frI S l i] else [])
theorem kpL_congr {keep keep' : Nat → Bool} {S : ByteArray} {l : List Int} : ∀ i, (∀ j, j < i → keep j = keep' j) → kpL keep S l i = kpL keep' S l i := by
  intro i
  induction i with
  | zero => intro _; rfl
  | succ i ih =>
    intro h
    simp only [kpL]
    rw [ih (fun j hj => h j (by omega)), h i (Nat.lt_succ_self i)]
def kf (ks : List Bool) (j : Nat) : Bool := ks.getD j false
theorem kf_app (ks : List Bool) (b : Bool) (j : Nat) (hj : j < ks.length) : kf (ks ++ [b]) j = kf ks j := by
  unfold kf
  rw [List.getD_eq_getElem?_getD, List.getD_eq_getElem?_getD, List.getElem?_append_left hj]
theorem kf_last (ks : List Bool) (b : Bool) : kf (ks ++ [b]) ks.length = b := getD_last ks b false
theorem kf_at (ks : List Bool) (j : Nat) (hj : j < ks.length) : kf ks j = ks[j]'hj := by unfold kf; rw [List.getD_eq_getElem?_getD, List.getElem?_eq_getElem hj]; rfl
theorem kp_snoc (ks : List Bool) (b : Bool) (S : ByteArray) (l : List Int) : kpL (kf (ks ++ [b])) S l (ks.length + 1) = kpL (kf ks) S l ks.length ++ (if b = true then [frI S l ks.length] else []) := by
  simp only [kpL]
  rw [kpL_congr ks.length (fun j hj => kf_app ks b j hj), kf_last]
theorem kpL_len (keep : Nat → Bool) (S : ByteArray) (l : List Int) : ∀ i, (kpL keep S l i).length ≤ i ∧ ((kpL keep S l i).length = i → ∀ j, j < i → keep j = true) := by
  intro i
  induction i with
  | zero => exact ⟨Nat.le_refl _, fun _ j hj => absurd hj (Nat.not_lt_zero _)⟩
  | succ i ih =>
    simp only [kpL, List.length_append]
    by_cases hk : keep i = true
    · rw [if_pos hk]
      refine ⟨Nat.succ_le_succ ih.1, fun h j hj => ?_⟩
      by_cases he : j = i
      · rw [he]; exact hk
      · exact ih.2 (by simpa using h) j (by omega)
    · rw [if_neg hk]
      have h1 := ih.1
      refine ⟨by simp; omega, fun h j hj => ?_⟩
      simp at h
      omega
theorem kpL_data (keep : Nat → Bool) (S : ByteArray) (l : List Int) : ∀ i, ∀ f ∈ kpL keep S l i, f.2.2.2.size ≤ 24 := by
  intro i
  induction i with
  | zero => intro f hf; cases hf
  | succ i ih =>
    intro f hf
    simp only [kpL] at hf
    rcases List.mem_append.1 hf with hf | hf
    · exact ih f hf
    · by_cases hk : keep i = true
      · rw [if_pos hk] at hf
        rw [List.mem_singleton.1 hf]
        show (S.extract (24 * i) (24 * (i + 1))).size ≤ 24
        rw [ByteArray.size_extract]
        omega
      · rw [if_neg hk] at hf
        cases hf
abbrev un0 : Un4 := (-1, false, ⟨#[]⟩, 0)
theorem stP_snoc (t : Un4) (fs : List Fr4) (f : Fr4) : stP 0 t (fs ++ [f]) (fs ++ [f]).length = oneS 0 (stP 0 t fs fs.length) f ∧ plP 0 t (fs ++ [f]) (fs ++ [f]).length = plP 0 t fs fs.length ++ puL 0 (stP 0 t fs fs.length).1 (stP 0 t fs fs.length).2 f := by
  have h0 : (fs ++ [f]).length = fs.length + 1 := by rw [List.length_append]; rfl
  obtain ⟨h1, h2⟩ := stP_app 0 t fs [f] fs.length (Nat.le_refl _)
  have h3 := getD_last fs f fr0
  rw [h0]
  simp only [stP, plP]
  rw [h1, h2, h3]
  exact ⟨rfl, rfl⟩
/-- Whatever frames are lost. -/
theorem lost_run {keep : Nat → Bool} {S : ByteArray} {A : List Pk} {K : Nat} (hA : ∀ p ∈ A, OkQ p) (hS : S = encQ A) (hSz : S.size = 24 * K) (hK : K ≤ 200) (hpa : PaOk 0 0 S (stL A 0)) : ∀ i, i ≤ K →
    ∃ B1 B2, JJ keep S A i (stP 0 un0 (kpL keep S (stL A 0) i) (kpL keep S (stL A 0) i).length) (plP 0 un0 (kpL keep S (stL A 0) i) (kpL keep S (stL A 0) i).length) B1 B2 := by
  intro i
  induction i with
  | zero => intro _; exact ⟨[], A, JJ.start⟩
  | succ i ih =>
    intro hi
    obtain ⟨B1, B2, hJ⟩ := ih (by omega)
    cases hk : keep i with
    | true =>
      have e : kpL keep S (stL A 0) (i + 1) = kpL keep S (stL A 0) i ++ [frI S (stL A 0) i] := by simp only [kpL]; rw [if_pos hk]
      obtain ⟨s1, s2⟩ := stP_snoc un0 (kpL keep S (stL A 0) i) (frI S (stL A 0) i)
      rw [e, s1, s2]
      exact hJ.push hA hS hSz hK (by omega) hk (frI_at hpa hSz hK (by omega)).2.2
    | false =>
      have e : kpL keep S (stL A 0) (i + 1) = kpL keep S (stL A 0) i := by simp only [kpL]; rw [if_neg (by rw [hk]; decide), List.append_nil]
      rw [e]
      exact hJ.skip hA hk
theorem lost_end {keep : Nat → Bool} {S : ByteArray} {A : List Pk} {K : Nat} (hA : ∀ p ∈ A, OkQ p) (hS : S = encQ A) (hSz : S.size = 24 * K) (hK : K ≤ 200) (hpa : PaOk 0 0 S (stL A 0)) :
    ∃ t : Un4, stP 0 un0 (kpL keep S (stL A 0) K) (kpL keep S (stL A 0) K).length = t ∧ plP 0 un0 (kpL keep S (stL A 0) K) (kpL keep S (stL A 0) K).length = wantQ keep A 0 ∧ UpOk 0 t.1 t.2.1 t.2.2.1 t.2.2.2 ∧ ((kpL keep S (stL A 0) K).length < K ∨ t.2.2.2 = 0) := by
  obtain ⟨B1, B2, hJ⟩ := lost_run (keep := keep) hA hS hSz hK hpa K (Nat.le_refl _)
  obtain ⟨h1, h2⟩ := kpL_len keep S (stL A 0) K
  refine ⟨_, rfl, hJ.done hA hS hSz, hJ.up hK, ?_⟩
  by_cases hl : (kpL keep S (stL A 0) K).length < K
  · exact .inl hl
  · exact .inr (hJ.full (h2 (by omega))).1
/-- Whether all of m frames from one on arrived. -/
def allB (keep : Nat → Bool) (a : Nat) : Nat → Bool
  | 0 => true
  | m + 1 => allB keep a m && keep (a + m)
theorem allB_iff (keep : Nat → Bool) (a : Nat) : ∀ m, allB keep a m = true ↔ ∀ j, a ≤ j → j < a + m → keep j = true := by
  intro m
  induction m with
  | zero => exact ⟨fun _ j h1 h2 => by omega, fun _ => rfl⟩
  | succ m ih =>
    show (allB keep a m && keep (a + m)) = true ↔ _
    rw [Bool.and_eq_true, ih]
    refine ⟨fun h j h1 h2 => ?_, fun h => ⟨fun j h1 h2 => h j h1 (by omega), h _ (by omega) (by omega)⟩⟩
    by_cases he : j = a + m
    · rw [he]; exact h.2
    · exact h.1 j h1 (by omega)
theorem oneW_all (keep : Nat → Bool) (o : Nat) (p : Pk) : oneW keep o p = if allB keep (o / 24) ((o + (3 + p.2.2.size)) / 24 + 1 - o / 24) = true then realP p else [] := by
  have h := allB_iff keep (o / 24) ((o + (3 + p.2.2.size)) / 24 + 1 - o / 24)
  by_cases hw : whole keep o (o + (4 + p.2.2.size))
  · rw [oneW_yes hw, if_pos (h.2 fun j h1 h2 => hw j h1 (by omega))]
  · rw [oneW_no hw, if_neg (fun ha => hw fun j h1 h2 => h.1 ha j h1 (by omega))]
theorem want_snoc (keep : Nat → Bool) (L : List Pk) (h : ∀ p ∈ L, OkQ p) (k : Nat) (hk : k < L.length) : wantQ keep (L.take (k + 1)) 0 = wantQ keep (L.take k) 0 ++ oneW keep (encQ (L.take k)).size (L[k]'hk) := by
  rw [takeQ_snoc L k hk, wantQ_app keep _ _ (fun p hp => h p (List.mem_of_mem_take hp)), wantQ_cons, wantQ_nil, List.append_nil, Nat.zero_add]
theorem want_idle (keep : Nat → Bool) (L : List Pk) (h : ∀ p ∈ L, OkQ p) (z : Nat) : wantQ keep (L ++ idleQ z) 0 = wantQ keep L 0 := by
  have h1 : ∀ o, wantQ keep (idleQ z) o = [] := fun o => by
    unfold idleQ
    split
    · rfl
    · rw [wantQ_cons, wantQ_nil, List.append_nil]
      unfold oneW
      split <;> rfl
  rw [wantQ_app keep _ _ h, h1, List.append_nil]
theorem stL_snoc (L : List Pk) (h : ∀ p ∈ L, OkQ p) (k : Nat) (hk : k < L.length) : stL (L.take (k + 1)) 0 = stL (L.take k) 0 ++ [((encQ (L.take k)).size : Int)] := by
  rw [takeQ_snoc L k hk, stL_app _ _ (fun p hp => h p (List.mem_of_mem_take hp)), stL_cons, stL_nil, Nat.zero_add]
theorem stL_at (L : List Pk) (h : ∀ p ∈ L, OkQ p) (k : Nat) (hk : k < L.length) (hk2 : k < (stL L 0).length) : (stL L 0)[k]'hk2 = ((encQ (L.take k)).size : Int) := by
  have h1 : stL L 0 = stL (L.take k) 0 ++ stL (L.drop k) (encQ (L.take k)).size := by
    conv => lhs; rw [← List.take_append_drop k L]
    rw [stL_app _ _ (fun p hp => h p (List.mem_of_mem_take hp)), Nat.zero_add]
  have h2 : (stL (L.take k) 0).length = k := by rw [stL_len, List.length_take]; omega
  rw [List.getElem_of_eq h1, List.getElem_append_right (by omega)]
  simp only [h2, Nat.sub_self]
  have h3 : stL (L.drop k) (encQ (L.take k)).size = ((encQ (L.take k)).size : Int) :: stL (L.drop (k + 1)) ((encQ (L.take k)).size + (4 + (L[k]'hk).2.2.size)) := by rw [List.drop_eq_getElem_cons hk, stL_cons]
  rw [List.getElem_of_eq h3]
  rfl
/-- Packing one after the other. -/
theorem pack_next (L : List Pk) (h : ∀ p ∈ L, OkQ p) (hL : L.length ≤ 7) (k : Nat) (hk : k < L.length) (hp : PaOk 0 0 (encQ (L.take k)) (stL (L.take k) 0)) :
    packB 0 0 (encQ (L.take k)) (stL (L.take k) 0) (L[k]'hk).1 (L[k]'hk).2.1 (L[k]'hk).2.2 = true ∧ packR 0 0 (encQ (L.take k)) (stL (L.take k) 0) (L[k]'hk).1 (L[k]'hk).2.1 (L[k]'hk).2.2 = encQ (L.take (k + 1)) ∧ packL 0 0 (encQ (L.take k)) (stL (L.take k) 0) (L[k]'hk).1 (L[k]'hk).2.1 (L[k]'hk).2.2 = stL (L.take (k + 1)) 0 ∧ PaOk 0 0 (encQ (L.take (k + 1))) (stL (L.take (k + 1)) 0) := by
  have hq := h _ (List.getElem_mem hk)
  have hz := encQ_size_le (L.take k) (fun p hp => h p (List.mem_of_mem_take hp))
  rw [List.length_take] at hz
  have hd := hq.2.2
  obtain ⟨h1, h2, h3, h4⟩ := packed hp hq (by omega)
  rw [h2, h3, ← encQ_step L k hk, ← stL_snoc L h k hk] at h4
  exact ⟨h1, by rw [h2, encQ_step L k hk], by rw [h3, stL_snoc L h k hk], h4⟩
/-- Filling. -/
theorem fill_next (L : List Pk) (h : ∀ p ∈ L, OkQ p) (hL : L.length ≤ 7) (hp : PaOk 0 0 (encQ L) (stL L 0)) :
    (∀ p ∈ L ++ idleQ (encQ L).size, OkQ p) ∧ fillR 0 0 (encQ L) (stL L 0) = encQ (L ++ idleQ (encQ L).size) ∧ fillL 0 0 (encQ L) (stL L 0) = stL (L ++ idleQ (encQ L).size) 0 ∧ PaOk 0 0 (encQ (L ++ idleQ (encQ L).size)) (stL (L ++ idleQ (encQ L).size) 0) ∧ ∃ K, K ≤ 14 ∧ (encQ (L ++ idleQ (encQ L).size)).size = 24 * K := by
  have hz := encQ_size_le L h
  obtain ⟨h1, h2, h3, h4, h5, h6⟩ := filled hp (by omega)
  have e2 : fillL 0 0 (encQ L) (stL L 0) = stL (L ++ idleQ (encQ L).size) 0 := by
    rw [h2, stL_app _ _ h, Nat.zero_add]
    congr 1
    unfold idleQ
    split <;> rfl
  rw [← encQ_app] at h1
  rw [h1] at h3 h4 h6
  rw [e2] at h3
  refine ⟨fun p hp => ?_, h1, e2, h3, (encQ (L ++ idleQ (encQ L).size)).size / 24, by omega, by omega⟩
  rcases List.mem_append.1 hp with hp | hp
  · exact h p hp
  · exact (idleQ_ok _).1 p hp
end Go.Proofs.Ytegahdlfjdjcaaa
