/- What this text proves: a list of rows of cells that lies somewhere in a block of the call's own: what stays of it, what a store makes of it; a list of rows that is there to be read. -/
import Derived.Test.YtdfcamlnebcbpacRowC
import Derived.Test.YtdfcamlnebcbpacBox
import Derived.Laws.Slices
namespace Go.Proofs.Ytdfcamlnebcbpac
open Go.ChangeShapes Go.WideShapes Go.ChangeAt Go.RowKit
set_option linter.unusedVariables false

structure LsO (n : Nat) (w : World) (base : Nat) (v : Value) (l : List (List Value)) : Prop where
  form : ∃ A c, v = .slice A l.length c
  up : ∀ k, v.ownBlock = some k → base ≤ k ∧ k < w.heap.size
  wide : ∀ x ∈ l, x.length = n
  rows : 0 < l.length → ∃ g off, (∃ c, v = .slice (some ⟨g, off, none⟩) l.length c) ∧ (∀ k (hk : k < l.length) j (hj : j < n), w.cell? ⟨g, off + k * n + j, none⟩ = l[k][j]?) ∧ (∀ j, w.frozen? ⟨g, j, none⟩ = false)
  cap : ∀ A m c, v = .slice A m c → m ≤ c
theorem LsO.block {n : Nat} {w : World} {base : Nat} {v : Value} {l : List (List Value)} (h : LsO n w base v l) {g off N c : Nat} (e : v = .slice (some ⟨g, off, none⟩) N c) : base ≤ g ∧ g < w.heap.size := h.up g (by rw [e]; rfl)
theorem LsO.at {n : Nat} {w : World} {base : Nat} {v : Value} {l : List (List Value)} (h : LsO n w base v l) {g off N c : Nat} (e : v = .slice (some ⟨g, off, none⟩) N c) (h0 : 0 < l.length) : (∀ k (hk : k < l.length) j (hj : j < n), w.cell? ⟨g, off + k * n + j, none⟩ = l[k][j]?) ∧ (∀ j, w.frozen? ⟨g, j, none⟩ = false) := by
  obtain ⟨g', off', ⟨c', hv⟩, hc, hf⟩ := h.rows h0
  rw [e] at hv
  injection hv with h1 h2 h3
  injection h1 with h1
  injection h1 with h4 h5
  subst h4 h5
  exact ⟨hc, hf⟩
theorem LsO.len {n : Nat} {w : World} {base : Nat} {A : Option Addr} {N c : Nat} {l : List (List Value)} (h : LsO n w base (.slice A N c) l) : l.length = N := by
  obtain ⟨A', c', e⟩ := h.form
  injection e with _ e2 _
  exact e2.symm
theorem LsO.lower {n : Nat} {w : World} {base base' : Nat} {v : Value} {l : List (List Value)} (h : LsO n w base v l) (hb : base' ≤ base) : LsO n w base' v l := ⟨h.form, fun k hk => ⟨Nat.le_trans hb (h.up k hk).1, (h.up k hk).2⟩, h.wide, h.rows, h.cap⟩
theorem LsO.keep {n : Nat} {w w' : World} {base : Nat} {v : Value} {l : List (List Value)} (h : LsO n w base v l) (hz : w.heap.size ≤ w'.heap.size) (hk : ∀ g, v.ownBlock = some g → ∀ j, w'.cell? ⟨g, j, none⟩ = w.cell? ⟨g, j, none⟩ ∧ w'.frozen? ⟨g, j, none⟩ = w.frozen? ⟨g, j, none⟩) : LsO n w' base v l :=
  ⟨h.form, fun k hk' => ⟨(h.up k hk').1, Nat.lt_of_lt_of_le (h.up k hk').2 hz⟩, h.wide, fun h0 => by
    obtain ⟨g, off, ⟨c, hv⟩, hc, hf⟩ := h.rows h0
    have hb := hk g (by rw [hv]; rfl)
    exact ⟨g, off, ⟨c, hv⟩, fun k hk j hj => (hb _).1.trans (hc k hk j hj), fun j => (hb j).2.trans (hf j)⟩, h.cap⟩
theorem LsO.more {n : Nat} {w w' : World} {base : Nat} {v : Value} {l : List (List Value)} (h : LsO n w base v l) (hb : Below w.heap.size w w') : LsO n w' base v l :=
  h.keep hb.size fun g hg j => ⟨hb.cell (p := ⟨g, j, none⟩) (h.up g hg).2, hb.frozen (p := ⟨g, j, none⟩) (h.up g hg).2⟩
theorem LsO.moreAt {n m : Nat} {w w' : World} {base : Nat} {v : Value} {l : List (List Value)} (h : LsO n w base v l) (hb : Below m w w') (hm : ∀ k, v.ownBlock = some k → k < m) (hz : w.heap.size ≤ w'.heap.size) : LsO n w' base v l :=
  h.keep hz fun g hg j => ⟨hb.cell (p := ⟨g, j, none⟩) (hm g hg), hb.frozen (p := ⟨g, j, none⟩) (hm g hg)⟩
theorem LsO.grown {n : Nat} {w w' : World} {base : Nat} {v : Value} {l : List (List Value)} {row : Option Nat} (h : LsO n w base v l) (hg : w.grownBy w' row) (hne : ∀ k, v.ownBlock = some k → row ≠ some k) : LsO n w' base v l :=
  h.keep hg.size fun g hv j => by
    have hb : w'.heap[g]? = w.heap[g]? := hg.block g (h.up g hv).2 (fun e => hne g hv e.symm)
    exact ⟨by simp [World.cell?, hb], by simp [World.frozen?, hb]⟩
theorem LsO.away {n : Nat} {W : World} {b g j : Nat} {v : Value} {l : List (List Value)} (h : LsO n W b v l) (hg : v.ownBlock ≠ some g) (u : Value) : LsO n (W.setCell ⟨g, j, none⟩ u) b v l :=
  h.grown (row := some g) ⟨rfl, rfl, rfl, by simp, fun k hk hne => Below.heap_setCell W _ u k (fun e => hne (by rw [e]))⟩ (fun k hk e => hg (by rw [hk, e]))
theorem LsO.cellsAway {n : Nat} {b g : Nat} {v : Value} {l : List (List Value)} (hg : v.ownBlock ≠ some g) : ∀ (us : List Value) (o : Nat) (W : World), LsO n W b v l → LsO n (W.setCells g o us) b v l := by
  intro us
  induction us with
  | nil => intro o W h; exact h
  | cons u r ih => intro o W h; exact ih _ _ (h.away hg u)
theorem LsO.past {n : Nat} {W : World} {b g j : Nat} {v : Value} {l : List (List Value)} (h : LsO n W b v l) (hg : g < b) (u : Value) : LsO n (W.setCell ⟨g, j, none⟩ u) b v l :=
  h.away (fun e => by have := (h.up g e).1; omega) u
theorem LsO.cellsPast {n : Nat} {b g : Nat} {v : Value} {l : List (List Value)} (hg : g < b) (us : List Value) (o : Nat) (W : World) (h : LsO n W b v l) : LsO n (W.setCells g o us) b v l :=
  LsO.cellsAway (fun e => by have := (h.up g e).1; omega) us o W h
theorem LsO.nil0 (n : Nat) (w : World) (base : Nat) (c : Nat) : LsO n w base (.slice none 0 c) [] := ⟨⟨_, _, rfl⟩, (fun k hk => by cases hk), (fun _ h => by cases h), (fun h => absurd h (Nat.lt_irrefl 0)), fun A m c e => by injection e with _ h1 _; omega⟩
theorem OwnR.cap {E : TypeId} {n : Nat} {w : World} {base : Nat} {A : Option Addr} {N c : Nat} {l : List (List Value)} (h : OwnR E n w base (.slice A N c) l) : l.length = N ∧ N ≤ c := by
  rcases h.1.2 with ⟨hv, hn⟩ | ⟨g, cap, cur, hv, _, _, hn, _⟩
  · injection hv with _ h2 h3
    omega
  · injection hv with _ h2 h3
    omega
theorem OwnR.toO {E : TypeId} {n : Nat} {w : World} {base : Nat} {v : Value} {l : List (List Value)} (h : OwnR E n w base v l) : LsO n w base v l :=
  ⟨h.form, World.ownsRow.lt h.1, h.2, fun h0 => by
    obtain ⟨g, c, hv, _, _, hc, hf⟩ := h.rows h0
    exact ⟨g, 0, ⟨c, hv⟩, fun k hk j hj => by rw [Nat.zero_add]; exact hc k hk j hj, hf⟩, fun A m c e => by subst e; exact h.cap.2⟩
theorem OwnR.dropO {E : TypeId} {n : Nat} {w : World} {base : Nat} {A : Option Addr} {N c : Nat} {l : List (List Value)} (h : OwnR E n w base (.slice A N c) l) (k : Nat) (hk : k ≤ N) : LsO n w base (.slice (if c = k then A else A.map (·.add (k * n))) (l.drop k).length (c - k)) (l.drop k) := by
  obtain ⟨hl, hcap⟩ := h.cap
  refine ⟨⟨_, _, rfl⟩, fun g hg => ?_, fun x hx => h.2 x (List.mem_of_mem_drop hx), fun h0 => ?_, fun A m c' e => by injection e with _ h1 h2; rw [List.length_drop] at h1; omega⟩
  · refine World.ownsRow.lt h.1 g ?_
    cases A with
    | none => split at hg <;> cases hg
    | some a =>
      have ha : (a.add (k * n)).block = a.block := by unfold Addr.add; split <;> rfl
      split at hg
      · exact hg
      · rw [← hg]; exact congrArg some ha.symm
  · rw [List.length_drop] at h0
    obtain ⟨g, c', hv, _, _, hc, hf⟩ := h.rows (by omega)
    injection hv with hA _ _
    subst hA
    refine ⟨g, k * n, ⟨c - k, by rw [if_neg (by omega)]; simp [Addr.add]; omega⟩, fun i hi j hj => ?_, hf⟩
    rw [List.length_drop] at hi
    have c0 := hc (k + i) (by omega) j hj
    simp only [List.getElem_drop]
    rw [← c0, Nat.add_mul]
/-- A store into one cell of a row. -/
def setAt (l : List (List Value)) (k j : Nat) (u : Value) : List (List Value) := l.set k ((l.getD k []).set j u)
theorem setAt_len (l : List (List Value)) (k j : Nat) (u : Value) : (setAt l k j u).length = l.length := by unfold setAt; rw [List.length_set]
theorem getD_of {l : List (List Value)} {k : Nat} (h : k < l.length) : l.getD k [] = l[k] := by
  rw [List.getD_eq_getElem?_getD, List.getElem?_eq_getElem h]
  rfl
theorem setAt_row (l : List (List Value)) (k : Nat) (hk : k < l.length) (x : List Value) (j : Nat) (u : Value) : setAt (l.set k x) k j u = l.set k (x.set j u) := by
  unfold setAt
  rw [getD_of (by rw [List.length_set]; exact hk), List.getElem_set_self, List.set_set]
theorem place_eq {n k k' j j' : Nat} (hj : j < n) (hj' : j' < n) (e : k * n + j = k' * n + j') : k = k' ∧ j = j' := by
  have h1 : (k * n + j) / n = k := by
    rw [Nat.mul_comm, Nat.mul_add_div (by omega), Nat.div_eq_of_lt hj, Nat.add_zero]
  have h2 : (k' * n + j') / n = k' := by
    rw [Nat.mul_comm, Nat.mul_add_div (by omega), Nat.div_eq_of_lt hj', Nat.add_zero]
  have h3 : k = k' := by rw [← h1, e, h2]
  subst h3
  exact ⟨rfl, by omega⟩
theorem LsO.set {n : Nat} {w : World} {base g off N c : Nat} {l : List (List Value)} (h : LsO n w base (.slice (some ⟨g, off, none⟩) N c) l) (k : Nat) (hk : k < l.length) (j : Nat) (hj : j < n) (u : Value) : LsO n (w.setCell ⟨g, off + k * n + j, none⟩ u) base (.slice (some ⟨g, off, none⟩) N c) (setAt l k j u) := by
  have hN := h.len
  obtain ⟨hc, hf⟩ := h.at rfl (by omega)
  have hw := h.wide
  refine ⟨⟨_, c, by rw [setAt_len, hN]⟩, fun k' hk' => ⟨(h.up k' hk').1, by simpa using (h.up k' hk').2⟩, fun x hx => ?_, fun h0 => ⟨g, off, ⟨c, by rw [setAt_len, hN]⟩, fun k' hk' j' hj' => ?_, fun j' => by rw [World.frozen?_setCell]; exact hf j'⟩, h.cap⟩
  · unfold setAt at hx
    rcases List.mem_or_eq_of_mem_set hx with hx | rfl
    · exact hw x hx
    · rw [List.length_set, getD_of hk]
      exact hw _ (List.getElem_mem _)
  · have hk2 : k' < l.length := by rw [setAt_len] at hk'; exact hk'
    have hr : (setAt l k j u)[k'] = if k = k' then l[k].set j u else l[k'] := by
      simp only [setAt, List.getElem_set, getD_of hk]
    rw [hr]
    have hlk : l[k].length = n := hw _ (List.getElem_mem _)
    by_cases e : off + k * n + j = off + k' * n + j'
    · obtain ⟨rfl, rfl⟩ := place_eq hj hj' (show k * n + j = k' * n + j' by omega)
      rw [if_pos rfl, List.getElem?_set_self (by omega)]
      have h1 := hc k hk j hj
      rw [List.getElem?_eq_getElem (by omega)] at h1
      exact World.cell?_setCell_same _ _ _ h1
    · rw [World.cell?_setCell_other _ _ _ _ (fun he => e (congrArg Addr.off he))]
      rw [hc k' hk2 j' hj']
      by_cases e2 : k = k'
      · subst e2
        rw [if_pos rfl, List.getElem?_set_ne (by omega)]
      · rw [if_neg e2]
theorem LsO.has {n : Nat} {w : World} {base g off N c : Nat} {l : List (List Value)} (h : LsO n w base (.slice (some ⟨g, off, none⟩) N c) l) (k : Nat) (hk : k < l.length) (j : Nat) (hj : j < n) : ∃ u, w.cell? ⟨g, off + k * n + j, none⟩ = some u := by
  obtain ⟨hc, _⟩ := h.at rfl (by omega)
  have hw := h.wide _ (List.getElem_mem hk)
  rw [hc k hk j hj, List.getElem?_eq_getElem (by omega)]
  exact ⟨_, rfl⟩
theorem LsO.ice {n : Nat} {w : World} {base g off N c : Nat} {l : List (List Value)} (h : LsO n w base (.slice (some ⟨g, off, none⟩) N c) l) (h0 : 0 < l.length) : ∀ j, w.frozen? ⟨g, j, none⟩ = false := (h.at rfl h0).2
/-- The first k rows are those of f, the others those of l. -/
def frontOf (f : Nat → List Value) (l : List (List Value)) (k : Nat) : List (List Value) := (List.range k).map f ++ l.drop k
theorem frontOf_zero (f : Nat → List Value) (l : List (List Value)) : frontOf f l 0 = l := by simp [frontOf]
theorem frontOf_len (f : Nat → List Value) (l : List (List Value)) {k : Nat} (hk : k ≤ l.length) : (frontOf f l k).length = l.length := by simp [frontOf]; omega
theorem frontOf_all (f : Nat → List Value) (l : List (List Value)) : frontOf f l l.length = (List.range l.length).map f := by simp [frontOf]
theorem frontOf_set (f : Nat → List Value) (l : List (List Value)) {k : Nat} (hk : k < l.length) : (frontOf f l k).set k (f k) = frontOf f l (k + 1) := by
  unfold frontOf
  rw [List.set_append_right _ _ (by simp), List.range_succ, List.map_append, List.append_assoc]
  congr 1
  rw [List.length_map, List.length_range, Nat.sub_self, List.drop_eq_getElem_cons hk]
  rfl
theorem frontOf_at (f : Nat → List Value) (l : List (List Value)) {k : Nat} (hk : k < l.length) : (frontOf f l k).getD k [] = l[k] := by
  rw [getD_of (by rw [frontOf_len f l (by omega)]; exact hk)]
  unfold frontOf
  rw [List.getElem_append_right (by simp)]
  simp
theorem mark_len (f : Nat → List Value) (n : Nat) : ((List.range n).map f).length = n := by simp
theorem mark_at (f : Nat → List Value) (n k : Nat) (hk : k < ((List.range n).map f).length) : ((List.range n).map f)[k] = f k := by simp
/-- Rows that are there to be read, in a block below B. -/
def LsI (n : Nat) (W : World) (B : Nat) (A : Option Addr) (l : List (List Value)) : Prop :=
  l.length = 0 ∨ ∃ b off, A = some ⟨b, off, none⟩ ∧ b < B ∧ ∀ k (hk : k < l.length) j (hj : j < n), W.cell? ⟨b, off + k * n + j, none⟩ = l[k][j]?
theorem LsI.more {n : Nat} {w w' : World} {B : Nat} {A : Option Addr} {l : List (List Value)} (h : LsI n w B A l) (hb : Below B w w') : LsI n w' B A l := by
  rcases h with h | ⟨b, off, hA, hlt, hc⟩
  · exact .inl h
  · exact .inr ⟨b, off, hA, hlt, fun k hk j hj => (hb.cell (p := ⟨b, off + k * n + j, none⟩) hlt).trans (hc k hk j hj)⟩
theorem LsI.raise {n : Nat} {W : World} {B B' : Nat} {A : Option Addr} {l : List (List Value)} (h : LsI n W B A l) (hb : B ≤ B') : LsI n W B' A l := by
  rcases h with h | ⟨b, off, hA, hlt, hc⟩
  · exact .inl h
  · exact .inr ⟨b, off, hA, Nat.lt_of_lt_of_le hlt hb, hc⟩
theorem LsI.full {n : Nat} {w w' : World} {A : Option Addr} {l : List (List Value)} (h : LsI n w w.heap.size A l) (hb : Below w.heap.size w w') : LsI n w' w'.heap.size A l := (h.more hb).raise hb.size
theorem LsO.ats {n : Nat} {W : World} {base : Nat} {A : Option Addr} {N c : Nat} {l : List (List Value)} (h : LsO n W base (.slice A N c) l) : LsI n W W.heap.size A l := by
  rcases Nat.eq_zero_or_pos l.length with h0 | h0
  · exact .inl h0
  · obtain ⟨g, off, ⟨cap, hv⟩, hc, _⟩ := h.rows h0
    have hg := (h.block hv).2
    injection hv with hA
    exact .inr ⟨g, off, hA, hg, hc⟩
theorem LsI.rows {n : Nat} {W : World} {B : Nat} {A : Option Addr} {l : List (List Value)} (h : LsI n W B A l) (hw : ∀ x ∈ l, x.length = n) : RowsAt W A l := by
  rcases h with h | ⟨b, off, hA, _, hc⟩
  · exact .inl h
  · refine .inr ⟨b, off, hA, fun j u hu => ?_⟩
    have hlen := flat_len hw
    have hj : j < l.flatten.length := by
      rcases Nat.lt_or_ge j l.flatten.length with h1 | h1
      · exact h1
      · rw [List.getElem?_eq_none h1] at hu; cases hu
    rw [hlen] at hj
    have hn : 0 < n := by
      rcases Nat.eq_zero_or_pos n with e | e
      · rw [e, Nat.mul_zero] at hj; omega
      · exact e
    have hk : j / n < l.length := Nat.div_lt_of_lt_mul (by rw [Nat.mul_comm]; exact hj)
    have hm := Nat.mod_lt j hn
    have hf := flat_at n l hw (j / n) hk (j % n) hm
    have he : j / n * n + j % n = j := by rw [Nat.mul_comm]; exact Nat.div_add_mod j n
    rw [he, hu] at hf
    have hc2 := hc (j / n) hk (j % n) hm
    rw [show off + j / n * n + j % n = off + j by omega] at hc2
    rw [hc2, ← hf]
theorem LsI.take {n : Nat} {W : World} {B : Nat} {A : Option Addr} {l : List (List Value)} (h : LsI n W B A l) (k : Nat) : LsI n W B A (l.take k) := by
  rcases h with h | ⟨b, off, hA, hlt, hc⟩
  · exact .inl (by rw [List.length_take, h]; simp)
  · refine .inr ⟨b, off, hA, hlt, fun i hi j hj => ?_⟩
    rw [List.length_take] at hi
    simp only [List.getElem_take]
    exact hc i (by omega) j hj
theorem LsI.drop {n : Nat} {W : World} {B : Nat} {A : Option Addr} {l : List (List Value)} (h : LsI n W B A l) (k c : Nat) (hc : l.length ≤ c) : LsI n W B (if c = k then A else A.map (·.add (k * n))) (l.drop k) := by
  rcases h with h | ⟨b, off, hA, hlt, hcl⟩
  · exact .inl (by rw [List.length_drop, h]; simp)
  · by_cases hk : l.length ≤ k
    · exact .inl (by rw [List.length_drop]; omega)
    · subst hA
      refine .inr ⟨b, off + k * n, by rw [if_neg (by omega)]; simp [Addr.add], hlt, fun i hi j hj => ?_⟩
      rw [List.length_drop] at hi
      simp only [List.getElem_drop]
      rw [← hcl (k + i) (by omega) j hj, Nat.add_mul]
      congr 2
      omega
end Go.Proofs.Ytdfcamlnebcbpac
