/- What this text proves: the parts TkE, TkoM of the proof, each under its own words. -/
import Derived.Test.YtebfefkknaalpaaDoorV14
import Derived.Test.YtebfefkknaalpaaDoorV08
import Derived.Test.YtebfefkknaalpaaDoorV10
import Derived.Test.YtebfefkknaalpaaDoorV13
/- What this text proves: what a receiver makes of the block of a command. -/
namespace Go.Proofs.YtebfefkknaalpaaDoor
open Go.ChangeShapes Go.WideShapes Go.ChangeAt Go.RowKit
set_option linter.unusedVariables false

theorem tk_enc {x t : Int} (p q : Bool) {n : Nat} {d : ByteArray} (hn : n ≤ 255) (hd : d.size ≤ 40) (h : RcOk x t) : tkC x p q t (cmT 0 (n : Int) d) = tkD x p q t (n : Int) d :=
  tkC_data (decC_back (k := 0) (q := n) (d := d) ⟨by omega, by omega, hd⟩) h
theorem tk_unl {x t : Int} (p q : Bool) {n : Nat} {d : ByteArray} (hn : n ≤ 255) (hd : d.size ≤ 40) (h : RcOk x t) : tkC x p q t (cmT 1 (n : Int) d) = (x, false, false, t, ⟨#[]⟩, false) :=
  tkC_unlock (decC_back (k := 1) (q := n) (d := d) ⟨by omega, by omega, hd⟩) h
theorem cmT_le (k q : Int) (d : ByteArray) (hd : d.size ≤ 40) : (cmT k q d).size ≤ 50 := by
  by_cases h : CmOk k q d
  · rw [cmT_yes h, sealS_size, ByteArray.size_append, ByteArray.size_append]
    have h1 := putS_four_le k 1
    have h2 := putS_four_le q 1
    omega
  · rw [cmT_no h]; decide
end Go.Proofs.YtebfefkknaalpaaDoor
/- What this text proves: what sender and receiver know of each other: numbers and lists, without a world. -/
namespace Go.Proofs.YtebfefkknaalpaaDoor
open Go.ChangeShapes Go.WideShapes Go.ChangeAt Go.RowKit
set_option linter.unusedVariables false

/-- Texts with their numbers, from j on. -/
def wlF (j : Nat) : List ByteArray → List Sn
  | [] => []
  | t :: r => ((j : Int), t) :: wlF (j + 1) r
theorem wlF_len (L : List ByteArray) : ∀ j, (wlF j L).length = L.length := by
  induction L with
  | nil => intro j; rfl
  | cons t r ih => intro j; simp only [wlF, List.length_cons, ih]
theorem wlF_get (L : List ByteArray) : ∀ j i, (wlF j L)[i]? = (L[i]?).map fun t => (((j + i : Nat) : Int), t) := by
  induction L with
  | nil => intro j i; simp [wlF]
  | cons t r ih =>
    intro j i
    cases i with
    | zero => simp [wlF]
    | succ i =>
      simp only [wlF, List.getElem?_cons_succ, ih]
      rw [show j + 1 + i = j + (i + 1) by omega]
theorem wlF_at (L : List ByteArray) (j i : Nat) (hi : i < (wlF j L).length) (hi' : i < L.length) : (wlF j L)[i] = (((j + i : Nat) : Int), L[i]) := by
  have h := wlF_get L j i
  rw [List.getElem?_eq_getElem hi, List.getElem?_eq_getElem hi'] at h
  simpa using h
theorem wlF_app (L : List ByteArray) (t : ByteArray) : ∀ j, wlF j (L ++ [t]) = wlF j L ++ [(((j + L.length : Nat) : Int), t)] := by
  induction L with
  | nil => intro j; simp [wlF]
  | cons u r ih =>
    intro j
    simp only [List.cons_append, wlF, ih, List.length_cons]
    rw [show j + 1 + r.length = j + (r.length + 1) by omega]
theorem wlF_drop (L : List ByteArray) : ∀ k j, (wlF j L).drop k = wlF (j + k) (L.drop k) := by
  induction L with
  | nil => intro k j; simp [wlF]
  | cons u r ih =>
    intro k j
    cases k with
    | zero => simp
    | succ k =>
      simp only [wlF, List.drop_succ_cons, ih]
      rw [show j + 1 + k = j + (k + 1) by omega]
/-- What waits. -/
def wtL (O : List ByteArray) (d : Nat) : List Sn := wlF d (O.drop d)
theorem wtL_len (O : List ByteArray) (d : Nat) : (wtL O d).length = O.length - d := by unfold wtL; rw [wlF_len, List.length_drop]
theorem wtL_at (O : List ByteArray) (d i : Nat) (hi : i < (wtL O d).length) (hi' : d + i < O.length) : (wtL O d)[i] = (((d + i : Nat) : Int), O[d + i]) := by
  unfold wtL at hi ⊢
  rw [wlF_at _ _ _ hi (by rw [List.length_drop]; omega), List.getElem_drop]
/-- m are taken, d are heard of, O are offered; the window is b. -/
structure TI (O : List ByteArray) (m d : Nat) (b : Int) : Prop where
  dm : d ≤ m
  mo : m ≤ O.length
  o30 : O.length ≤ 30
  win : (O.length : Int) - d ≤ b
  b1 : 1 ≤ b ∧ b ≤ 20
  sz : ∀ t ∈ O, 1 ≤ t.size ∧ t.size ≤ 40
theorem TI.start {b : Int} (hb : 1 ≤ b ∧ b ≤ 20) : TI [] 0 0 b := ⟨Nat.le_refl _, Nat.le_refl _, by simp, by simp; omega, hb, fun t h => by cases h⟩
theorem TI.ok {O : List ByteArray} {m d : Nat} {b : Int} (h : TI O m d b) : SnOk (O.length : Int) b (wtL O d) (d : Int) := by
  have h1 := h.dm
  have h2 := h.mo
  have h3 := h.o30
  have h4 := h.win
  have hl := wtL_len O d
  refine ⟨⟨by omega, h.b1, by omega, by omega⟩, fun i hi _ => ?_⟩
  have hd : d + i < O.length := by omega
  rw [wtL_at O d i hi hd]
  have hs := h.sz O[d + i] (List.getElem_mem _)
  exact ⟨by simp only []; omega, hs⟩
theorem TI.okB {O : List ByteArray} {m d : Nat} {b : Int} (h : TI O m d b) : snB (O.length : Int) b (wtL O d) (d : Int) = true := snB_yes h.ok
theorem TI.rok {O : List ByteArray} {m d : Nat} {b : Int} (h : TI O m d b) : RcOk (m : Int) (m : Int) := by
  have h2 := h.mo
  have h3 := h.o30
  exact ⟨⟨by omega, by omega⟩, by omega, by omega⟩
theorem TI.app {O : List ByteArray} {m d : Nat} {b : Int} {x : ByteArray} (h : TI O m d b) (ho : O.length < 30) (hx : 1 ≤ x.size ∧ x.size ≤ 40) (hw : (O.length : Int) + 1 - d ≤ b) : TI (O ++ [x]) m d b :=
  ⟨h.dm, by rw [List.length_append]; exact Nat.le_trans h.mo (Nat.le_add_right _ _), by simp; omega, by simp; omega, h.b1, fun t ht => by
    rcases List.mem_append.1 ht with h1 | h1
    · exact h.sz t h1
    · obtain rfl : t = x := by simpa using h1
      exact hx⟩
theorem wtL_app (O : List ByteArray) (x : ByteArray) (d : Nat) (h : d ≤ O.length) : wtL (O ++ [x]) d = wtL O d ++ [((O.length : Int), x)] := by
  unfold wtL
  rw [List.drop_append_of_le_length h, wlF_app, List.length_drop, show d + (O.length - d) = O.length by omega]
theorem TI.offer_yes {O : List ByteArray} {m d : Nat} {b : Int} {x : ByteArray} (h : TI O m d b) (ho : O.length < 30) (hx : 1 ≤ x.size ∧ x.size ≤ 40) (hw : (O.length : Int) + 1 - d ≤ b) :
    ofB (O.length : Int) b (wtL O d) (d : Int) x = true ∧ ofN (O.length : Int) b (wtL O d) (d : Int) x = (((O ++ [x]).length : Nat) : Int) ∧ ofL (O.length : Int) b (wtL O d) (d : Int) x = wtL (O ++ [x]) d := by
  have hA := h.app ho hx hw
  have hd : d ≤ O.length := Nat.le_trans h.dm h.mo
  have h2 := hA.ok
  have hn : ((O.length : Int) + 1) % 256 = (((O ++ [x]).length : Nat) : Int) := by simp; omega
  rw [wtL_app O x d hd, ← hn] at h2
  obtain ⟨r1, r2, r3⟩ := of_yes h.ok h2
  exact ⟨r1, r2.trans hn, r3.trans (wtL_app O x d hd).symm⟩
theorem TI.offer_no {O : List ByteArray} {m d : Nat} {b : Int} {x : ByteArray} (h : TI O m d b) (hw : ¬ ((O.length : Int) + 1 - d ≤ b)) :
    ofB (O.length : Int) b (wtL O d) (d : Int) x = false ∧ ofN (O.length : Int) b (wtL O d) (d : Int) x = (O.length : Int) ∧ ofL (O.length : Int) b (wtL O d) (d : Int) x = wtL O d := by
  refine of_no fun h2 => hw ?_
  have h3 := h2.2.1.2.2.2
  have hl := wtL_len O d
  have hd : d ≤ O.length := Nat.le_trans h.dm h.mo
  rw [List.length_append, hl] at h3
  simp at h3
  omega
theorem TI.hear {O : List ByteArray} {m d : Nat} {b : Int} (h : TI O m d b) : heL (O.length : Int) b (d : Int) (wtL O d) (m : Int) = wtL O m ∧ heD (O.length : Int) b (d : Int) (wtL O d) (m : Int) = (m : Int) := by
  have h1 := h.dm
  have h2 := h.mo
  have h3 := h.o30
  have hl := wtL_len O d
  rcases Nat.lt_or_ge d O.length with hd | hd
  · have h0 : 0 < (wtL O d).length := by omega
    have hg : (wtL O d).getD 0 sn0 = (((d + 0 : Nat) : Int), O[d + 0]) := by rw [getN_at h0]; exact wtL_at O d 0 h0 (by omega)
    have hK : heK (wtL O d) (m : Int) = m - d := by
      unfold heK
      rw [hg]
      show (((m : Int) - ((d + 0 : Nat) : Int)) % 256).toNat = m - d
      omega
    have hok : HeOk (O.length : Int) b (d : Int) (wtL O d) (m : Int) := ⟨h.ok, h0, by omega, by rw [hK]; omega⟩
    obtain ⟨r1, r2⟩ := he_yes hok
    rw [hK] at r1 r2
    refine ⟨?_, ?_⟩
    · rw [r1]
      unfold wtL
      rw [wlF_drop, List.drop_drop, show d + (m - d) = m by omega]
    · rw [r2, if_neg (by omega)]; omega
  · have hm : m = d := by omega
    have hno : ¬ HeOk (O.length : Int) b (d : Int) (wtL O d) (m : Int) := fun hh => by have := hh.2.1; omega
    obtain ⟨r1, r2⟩ := he_no hno
    rw [r1, r2, hm]
    exact ⟨rfl, rfl⟩
theorem TI.heard {O : List ByteArray} {m d : Nat} {b : Int} (h : TI O m d b) : TI O m m b := ⟨Nat.le_refl _, h.mo, h.o30, by have := h.win; have := h.dm; omega, h.b1, h.sz⟩
/-- What the receiver makes of the block with number i of those that wait. -/
theorem TI.take {O : List ByteArray} {m d : Nat} {b : Int} (h : TI O m d b) (q : Bool) (i : Nat) (hi : d + i < O.length) :
    (d + i = m ∧ tkC (m : Int) false q (m : Int) (cmT 0 ((d + i : Nat) : Int) O[d + i]) = (((m + 1 : Nat) : Int), false, false, ((m + 1 : Nat) : Int), O[d + i], true)) ∨
    (d + i ≠ m ∧ ∃ q', tkC (m : Int) false q (m : Int) (cmT 0 ((d + i : Nat) : Int) O[d + i]) = ((m : Int), false, q', (m : Int), ⟨#[]⟩, false)) := by
  have h1 := h.dm
  have h2 := h.mo
  have h3 := h.o30
  have h4 := h.win
  have h5 := h.b1
  have hs := h.sz O[d + i] (List.getElem_mem _)
  rw [tk_enc false q (by omega) hs.2 h.rok]
  rcases Nat.lt_trichotomy (d + i) m with hlt | he | hgt
  · exact .inr ⟨by omega, q, tkD_none (by omega) (by omega) (by omega)⟩
  · refine .inl ⟨he, ?_⟩
    rw [tkD_take (by omega)]
    congr 1
    omega
  · exact .inr ⟨by omega, true, tkD_again (by omega)⟩
theorem TI.took {O : List ByteArray} {m d : Nat} {b : Int} (h : TI O m d b) (hm : m < O.length) : TI O (m + 1) d b := ⟨Nat.le_succ_of_le h.dm, hm, h.o30, h.win, h.b1, h.sz⟩
theorem TI.blocks {O : List ByteArray} {m d : Nat} {b : Int} (h : TI O m d b) : cbL (O.length : Int) b (wtL O d) (d : Int) = cbk (wtL O d) := cbL_yes h.okB
theorem cbk_len (l : List Sn) : (cbk l).length = l.length := by unfold cbk; rw [List.length_map]
theorem cbk_at (O : List ByteArray) (d i : Nat) (hi : i < (cbk (wtL O d)).length) (hi' : d + i < O.length) : (cbk (wtL O d))[i] = cmT 0 ((d + i : Nat) : Int) O[d + i] := by
  have hw : i < (wtL O d).length := by rw [wtL_len]; omega
  have h := wtL_at O d i hw hi'
  simp only [cbk, List.getElem_map]
  rw [h]
end Go.Proofs.YtebfefkknaalpaaDoor
