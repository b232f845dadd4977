/- What this text proves: the parts WhMath of the proof, each under its own words. -/
import Derived.Test.YtegahdlfjdjcaaaV12
import Derived.Test.YtegahdlfjdjcaaaV27
import Derived.Test.YtegahdlfjdjcaaaV30
/- What this text proves: packer and unpacker in step: nothing is lost, and nothing is left. -/
namespace Go.Proofs.Ytegahdlfjdjcaaa
open Go.ChangeShapes Go.WideShapes Go.ChangeAt Go.RowKit
set_option linter.unusedVariables false

theorem later_eq (l : List Int) (k : Nat) (hk : k ≤ l.length) : laterK l k = ((l.take k).filter (fun x => decide (24 ≤ x))).map (fun x => x - 24) := by
  induction k with
  | zero => rfl
  | succ k ih =>
    have hlt : k < l.length := by omega
    have hg : l.getD k 0 = l[k]'hlt := by rw [List.getD_eq_getElem?_getD, List.getElem?_eq_getElem hlt]; rfl
    have ht : l.take (k + 1) = l.take k ++ [l[k]'hlt] := by rw [List.take_add_one, List.getElem?_eq_getElem hlt]; rfl
    simp only [laterK]
    rw [ih (by omega), ht, List.filter_append, List.map_append, hg]
    congr 1
    by_cases h : 24 ≤ l[k]'hlt
    · rw [if_pos h, List.filter_cons_of_pos (by simpa using h)]; rfl
    · rw [if_neg h, List.filter_cons_of_neg (by simpa using h)]; rfl
theorem later_all (l : List Int) : laterK l l.length = (l.filter (fun x => decide (24 ≤ x))).map (fun x => x - 24) := by
  rw [later_eq l _ (Nat.le_refl _), List.take_length]
theorem PaTo.asc {z : Nat} {l : List Int} (h : PaTo z l l.length) : l.Pairwise (· < ·) ∧ ∀ x ∈ l, 0 ≤ x ∧ x ≤ (z : Int) - 1 := by
  have hg : ∀ i (hi : i < l.length), l.getD i 0 = l[i]'hi := fun i hi => by rw [List.getD_eq_getElem?_getD, List.getElem?_eq_getElem hi]; rfl
  have hm : ∀ j, j < l.length → ∀ i, i < j → l.getD i 0 < l.getD j 0 := by
    intro j
    induction j with
    | zero => intro _ i hi; omega
    | succ j ih =>
      intro hj i hi
      have h1 := (h (j + 1) hj).2 (by omega)
      rw [Nat.add_sub_cancel] at h1
      by_cases he : i = j
      · subst he; exact h1
      · have := ih (by omega) i (by omega)
        omega
  refine ⟨List.pairwise_iff_getElem.2 fun i j hi hj hij => ?_, fun x hx => ?_⟩
  · have := hm j hj i hij
    rwa [hg i hi, hg j hj] at this
  · obtain ⟨i, hi, rfl⟩ := List.mem_iff_getElem.1 hx
    have := (h i hi).1
    rwa [hg i hi] at this
theorem PaTo.of_asc {z : Nat} {l : List Int} (h1 : l.Pairwise (· < ·)) (h2 : ∀ x ∈ l, 0 ≤ x ∧ x ≤ (z : Int) - 1) : PaTo z l l.length := by
  have hg : ∀ i (hi : i < l.length), l.getD i 0 = l[i]'hi := fun i hi => by rw [List.getD_eq_getElem?_getD, List.getElem?_eq_getElem hi]; rfl
  intro i hi
  refine ⟨?_, fun h0 => ?_⟩
  · rw [hg i hi]; exact h2 _ (List.getElem_mem hi)
  · rw [hg i hi, hg (i - 1) (by omega)]; exact List.pairwise_iff_getElem.1 h1 (i - 1) i (by omega) hi (by omega)
theorem taken_ok {c n : Int} {r : ByteArray} {l : List Int} (h : PaOk c n r l) (hs : 24 ≤ r.size) : PaOk c (tkN c n r l) (tkR c n r l) (tkL c n r l) := by
  obtain ⟨_, h1, h2, h3, _, _⟩ := taken h hs
  obtain ⟨ha, hb⟩ := h.1.asc
  have hz : (r.extract 24 r.size).size = r.size - 24 := by rw [ByteArray.size_extract]; omega
  rw [h1, h2, h3, later_all]
  refine ⟨?_, h.2.1, ⟨by omega, by omega⟩, by rw [hz]; have := h.2.2.2; omega⟩
  rw [hz]
  refine PaTo.of_asc ?_ fun x hx => ?_
  · rw [List.pairwise_map]
    exact (ha.filter _).imp fun hab => by omega
  · obtain ⟨y, hy, rfl⟩ := List.mem_map.1 hx
    obtain ⟨hy1, hy2⟩ := List.mem_filter.1 hy
    have := hb y hy1
    have h24 : 24 ≤ y := by simpa using hy2
    omega
/-- Packer and unpacker in step: what waits at both is the bytes of these packets. -/
structure Wh (n : Int) (r : ByteArray) (l : List Int) (t : Un4) (A : List Pk) : Prop where
  pa : PaOk 0 n r l
  ok : ∀ p ∈ A, OkQ p
  bytes : t.2.2.1 ++ r = encQ A
  lost : t.2.2.2 = 0
  rest : t.2.2.1.size ≤ 43
  head : ∀ p B, A = p :: B → t.2.2.1.size < 4 + p.2.2.size
  sync : (t.1 = n ∧ t.2.1 = true) ∨ (t.1 = -1 ∧ t.2.1 = false ∧ t.2.2.1 = ⟨#[]⟩ ∧ (0 < l.length → l.getD 0 0 = 0) ∧ (0 < r.size → 0 < l.length))
theorem Wh.pack {n : Int} {r : ByteArray} {l : List Int} {t : Un4} {A : List Pk} (h : Wh n r l t A) {p : Pk} (hp : OkQ p) (hs : r.size + (4 + p.2.2.size) ≤ 5000) :
    packB 0 n r l p.1 p.2.1 p.2.2 = true ∧ Wh n (packR 0 n r l p.1 p.2.1 p.2.2) (packL 0 n r l p.1 p.2.1 p.2.2) t (A ++ [p]) := by
  obtain ⟨h1, h2, h3, h4⟩ := packed h.pa hp hs
  refine ⟨h1, h4, fun x hx => ?_, ?_, h.lost, h.rest, fun p' B hB => ?_, ?_⟩
  · rcases List.mem_append.1 hx with hx | hx
    · exact h.ok x hx
    · rw [List.mem_singleton.1 hx]; exact hp
  · rw [h2, ← app_assoc, h.bytes, encQ_app, encQ_one]
  · cases A with
    | nil =>
      have he := empty_of h.bytes
      rw [he.1]
      show 0 < _
      omega
    | cons a A => cases hB; exact h.head _ A rfl
  · rcases h.sync with hy | ⟨e1, e2, e3, e4, e5⟩
    · exact .inl hy
    · refine .inr ⟨e1, e2, e3, fun _ => ?_, fun _ => by rw [h3, List.length_append]; exact Nat.lt_of_lt_of_le Nat.zero_lt_one (Nat.le_add_left _ _)⟩
      rw [h3]
      cases l with
      | nil =>
        have : r.size = 0 := by
          by_cases hr : 0 < r.size
          · exact absurd (e5 hr) (by simp)
          · omega
        show (r.size : Int) = 0
        omega
      | cons a l => exact e4 (by simp)
theorem Wh.fill {n : Int} {r : ByteArray} {l : List Int} {t : Un4} {A : List Pk} (h : Wh n r l t A) (hs : r.size ≤ 4900) :
    Wh n (fillR 0 n r l) (fillL 0 n r l) t (A ++ idleQ r.size) ∧ (fillR 0 n r l).size % 24 = 0 ∧ (fillR 0 n r l).size ≤ r.size + 27 ∧ (fillL 0 n r l).length ≤ l.length + 1 := by
  obtain ⟨h1, h2, h3, h4, h5, h6⟩ := filled h.pa hs
  refine ⟨?_, h4, h6, by rw [h2, List.length_append]; split <;> simp⟩
  unfold fillR fillL idleQ
  by_cases h0 : r.size % 24 = 0
  · rw [if_pos h0, if_pos h0, if_pos h0, List.append_nil]; exact h
  · rw [if_neg h0, if_neg h0, if_neg h0]
    exact (h.pack (p := (15, 0, zerosT (fillN r.size))) (idle_ok r.size) (by have := fillN_le r.size; have := zeros_size (fillN r.size); simp only; omega)).2
/-- A frame that arrives in step. -/
theorem Wh.frame {n : Int} {r : ByteArray} {l : List Int} {t : Un4} {A : List Pk} (h : Wh n r l t A) (hs : 24 ≤ r.size) :
    ∃ A1 A2, A = A1 ++ A2 ∧ puL 0 t.1 t.2 (tkF 0 n r l) = realQ A1 ∧ Wh (tkN 0 n r l) (tkR 0 n r l) (tkL 0 n r l) (oneS 0 t (tkF 0 n r l)) A2 := by
  have hpa := taken_ok h.pa hs
  obtain ⟨_, h1, h2, h3, h4, h5⟩ := taken h.pa hs
  obtain ⟨n', b, R, lo⟩ := t
  have hlost : lo = 0 := h.lost
  subst hlost
  have hD : r.extract 0 24 ++ r.extract 24 r.size = r := by
    apply list_inj
    rw [app_list, ext_list, ext_list, List.drop_zero, List.take_of_length_le (l := r.data.toList.drop 24) (by rw [List.length_drop, ← size_list]; exact Nat.le_refl _), Nat.sub_zero, List.take_append_drop]
  have hn := h.pa.2.2.1
  have hup : UpOk 0 n' b R 0 := ⟨by decide, by rcases h.sync with ⟨e1, _⟩ | ⟨e1, _⟩ <;> (have e1' : n' = _ := e1; omega), by decide, by rcases h.sync with ⟨_, e2⟩ | ⟨_, _, e3, _⟩; exact .inl e2; exact .inr (by have e3' : R = ⟨#[]⟩ := e3; rw [e3']; rfl), h.rest⟩
  have hpu : PuOk 0 n' (b, R, 0) (0, n, firstI l, r.extract 0 24) := ⟨hup, h5, rfl⟩
  have hg1 : g1 n' n (b, R, 0) = (b, R, 0) := by
    unfold g1
    rw [if_neg]
    rcases h.sync with ⟨e1, _⟩ | ⟨e1, _⟩ <;> (have e1' : n' = _ := e1; omega)
  have hg2 : g2 (firstI l) (r.extract 0 24) (b, R, 0) = (true, R ++ r.extract 0 24, 0) := by
    unfold g2
    rcases h.sync with ⟨_, e2⟩ | ⟨_, e2, e3, e4, e5⟩
    · rw [if_pos e2]
    · have e2' : b = false := e2
      have e3' : R = ⟨#[]⟩ := e3
      have hl := e5 (by omega)
      have h0 : firstI l = 0 := by
        unfold firstI
        rw [if_pos ⟨hl, by rw [e4 hl]; decide⟩, e4 hl]
      subst e2' e3'
      have hx : (r.extract 0 24).extract 0 (r.extract 0 24).size = r.extract 0 24 := by
        apply list_inj
        generalize r.extract 0 24 = D
        rw [ext_list, List.drop_zero, Nat.sub_zero, size_list, List.take_length]
      rw [h0, nil_app, if_neg (by intro hh; cases hh), if_pos (by decide)]
      show (true, (r.extract 0 24).extract 0 (r.extract 0 24).size, (0 : Int)) = _
      rw [hx]
  obtain ⟨A1, A2, X2, rfl, hX, htk, hb2, hbrk, h43, hh2⟩ := takeP_split A (R ++ r.extract 0 24) (r.extract 24 r.size) h.ok (by rw [app_assoc, hD]; exact h.bytes)
  have hS : puS 0 n' (b, R, 0) (0, n, firstI l, r.extract 0 24) = (true, X2, 0) := by
    unfold puS
    rw [if_pos hpu]
    show g3 (g2 (firstI l) (r.extract 0 24) (g1 n' n (b, R, 0))) = _
    rw [hg1, hg2]
    unfold g3
    show (if BrkP (takeP (R ++ r.extract 0 24)).2 then _ else (true, (takeP (R ++ r.extract 0 24)).2, (0 : Int))) = _
    rw [htk, if_neg hbrk]
  have hL : puL 0 n' (b, R, 0) (0, n, firstI l, r.extract 0 24) = realQ A1 := by
    unfold puL
    rw [if_pos hpu]
    show (takeP (g2 (firstI l) (r.extract 0 24) (g1 n' n (b, R, 0))).2.1).1 = _
    rw [hg1, hg2, htk]
  have hN : puN 0 n' (b, R, 0) (0, n, firstI l, r.extract 0 24) = (n + 1) % 256 := by
    unfold puN
    rw [if_pos hpu]
  refine ⟨A1, A2, rfl, by rw [h4]; exact hL, hpa, fun p hp => h.ok p (List.mem_append_right _ hp), ?_, ?_, ?_, ?_, ?_⟩
  all_goals rw [h4]
  all_goals unfold oneS
  all_goals simp only
  all_goals rw [hS]
  · rw [h2]; exact hb2
  · exact h43
  · exact hh2
  · exact .inl ⟨by rw [hN, h1], rfl⟩
theorem stP_app (c : Int) (t : Un4) (fs gs : List Fr4) (k : Nat) (hk : k ≤ fs.length) : stP c t (fs ++ gs) k = stP c t fs k ∧ plP c t (fs ++ gs) k = plP c t fs k := by
  induction k with
  | zero => exact ⟨rfl, rfl⟩
  | succ k ih =>
    obtain ⟨h1, h2⟩ := ih (by omega)
    have hg : (fs ++ gs).getD k fr0 = fs.getD k fr0 := by rw [List.getD_eq_getElem?_getD, List.getD_eq_getElem?_getD, List.getElem?_append_left (by omega)]
    simp only [stP, plP]
    rw [h1, h2, hg]
    exact ⟨rfl, rfl⟩
theorem getD_last {α : Type} (fs : List α) (f d : α) : (fs ++ [f]).getD fs.length d = f := by rw [List.getD_eq_getElem?_getD, List.getElem?_append_right (Nat.le_refl _), Nat.sub_self]; rfl
/-- All frames that can be taken arrive. -/
theorem Wh.frames {n : Int} {r : ByteArray} {l : List Int} {t : Un4} {A : List Pk} (h : Wh n r l t A) : ∀ K, (∀ k, k < K → oneB 0 (itT 0 (n, r, l) k) = true) →
    ∃ A1 A2, A = A1 ++ A2 ∧ plP 0 t (flT 0 (n, r, l) K) K = realQ A1 ∧ Wh (itT 0 (n, r, l) K).1 (itT 0 (n, r, l) K).2.1 (itT 0 (n, r, l) K).2.2 (stP 0 t (flT 0 (n, r, l) K) K) A2 := by
  intro K
  induction K with
  | zero => intro _; exact ⟨[], A, rfl, rfl, h⟩
  | succ K ih =>
    intro hK
    obtain ⟨A1, A2, rfl, h2, h3⟩ := ih fun k hk => hK k (by omega)
    have hb := hK K (Nat.lt_succ_self _)
    obtain ⟨B1, B2, rfl, h5, h6⟩ := h3.frame (oneB_ok hb).2
    have hlen := flT_len 0 (n, r, l) K
    obtain ⟨e1, e2⟩ := stP_app 0 t (flT 0 (n, r, l) K) [oneF 0 (itT 0 (n, r, l) K)] K (by omega)
    have e3 : (flT 0 (n, r, l) K ++ [oneF 0 (itT 0 (n, r, l) K)]).getD K fr0 = oneF 0 (itT 0 (n, r, l) K) := by
      have := getD_last (flT 0 (n, r, l) K) (oneF 0 (itT 0 (n, r, l) K)) fr0
      rwa [hlen] at this
    refine ⟨A1 ++ B1, B2, (List.append_assoc ..).symm, ?_, ?_⟩
    · simp only [flT, plP]
      rw [e1, e2, e3, h2, realQ_app]
      congr 1
    · simp only [flT, stP, itT]
      rw [e1, e3]
      exact h6
/-- Nothing is left. -/
theorem Wh.done {n : Int} {r : ByteArray} {l : List Int} {t : Un4} {A : List Pk} (h : Wh n r l t A) (hr : r.size = 0) : A = [] ∧ r = ⟨#[]⟩ ∧ l = [] ∧ t.2.2.1 = ⟨#[]⟩ := by
  have hre : r = ⟨#[]⟩ := list_inj (List.eq_nil_of_length_eq_zero (by rw [← size_list]; exact hr))
  subst hre
  have hl : l = [] := by
    cases l with
    | nil => rfl
    | cons a l => have := (h.pa.1 0 (by simp)).1; rw [hr] at this; omega
  have hA : A = [] := by
    cases A with
    | nil => rfl
    | cons p B =>
      have h1 := h.head p B rfl
      have h2 := congrArg ByteArray.size h.bytes
      have h3 := pkT_size (h.ok p (List.mem_cons_self ..))
      rw [app_nil] at h2
      have h4 : (encQ (p :: B)).size = (pkT p.1 p.2.1 p.2.2).size + (encQ B).size := by show (pkT p.1 p.2.1 p.2.2 ++ encQ B).size = _; rw [ByteArray.size_append]
      omega
  subst hA
  exact ⟨rfl, rfl, hl, (empty_of h.bytes).1⟩
end Go.Proofs.Ytegahdlfjdjcaaa
