/- What this text proves: the parts FwM of the proof, each under its own words. -/
import Derived.Test.YtckofkdeedbbgaaV17
import Derived.Test.YtckofkdeedbbgaaV20
import Derived.Test.YtckofkdeedbbgaaV21
import Derived.Test.YtckofkdeedbbgaaV22
import Derived.Test.YtckofkdeedbbgaaV26
import Derived.Test.YtckofkdeedbbgaaV29
/- What this text proves: what is sent and lost of a file, in numbers: the parts that are there are those of the file, and what is asked for again arrives. -/
namespace Go.Proofs.Ytckofkdeedbbgaa
open Go.ChangeShapes Go.WideShapes Go.ChangeAt Go.RowKit
set_option linter.unusedVariables false

/-- Parts of d, each there or not. -/
def PartsOf (d : ByteArray) (p : List ByteArray) : Prop := p.length = 25 ∧ ∀ j (hj : j < p.length), p[j].size = 0 ∨ (SegOk (j : Int) d.size ∧ p[j] = segS d (j : Int))
def EndOf (d : ByteArray) (z c : Int) : Prop := (z = -1 ∧ c = -1) ∨ (z = (d.size : Int) ∧ c = ((crc d : Nat) : Int))
def WholeF (d : ByteArray) (z : Int) (p : List ByteArray) : Prop := z = (d.size : Int) ∧ ∀ j (hj : j < p.length), SegOk (j : Int) d.size → p[j] = segS d (j : Int)
def QOf (d : ByteArray) (l : List Int) : Prop := ∀ x ∈ l, x = -1 ∨ SegOk x d.size
structure Fw (d : ByteArray) (l : List Int) (b : Bool) (z c : Int) (p : List ByteArray) : Prop where
  parts : PartsOf d p
  ends : EndOf d z c
  queue : QOf d l
  short : l.length ≤ (cntS d.size).toNat + 1
  done : b = true → WholeF d z p
def Cov (d : ByteArray) (l : List Int) (z : Int) (p : List ByteArray) : Prop := z = (d.size : Int) ∧ ∀ j (hj : j < p.length), SegOk (j : Int) d.size → p[j].size = 0 → (j : Int) ∈ l
/-- The file is whole within t rounds that lose nothing. -/
def Near (d : ByteArray) (t : Nat) (l : List Int) (z : Int) (p : List ByteArray) : Prop := WholeF d z p ∨ (Cov d l z p ∧ l.length ≤ t) ∨ l.length + (cntS d.size).toNat + 2 ≤ t

theorem n_le {d : ByteArray} (hd : d.size ≤ 200) : 0 ≤ cntS d.size ∧ (cntS d.size).toNat ≤ 9 ∧ cntS d.size = ((cntS d.size).toNat : Int) := by
  have : cntS d.size = ((d.size : Int) + 23) / 24 := cntS_in (by omega)
  omega
theorem seg_ne {d : ByteArray} {j : Nat} (h : SegOk (j : Int) d.size) : ¬ (segS d (j : Int)).size = 0 := by have := segS_pos h; omega
theorem fi_ok {d : ByteArray} (hd : d.size ≤ 200) {z c : Int} {p : List ByteArray} (hp : PartsOf d p) (he : EndOf d z c) : FiOk 4 z c p := by
  have hc := crc_lt d
  refine ⟨by omega, ?_, ?_, ?_, hp.1, fun k hk => ?_⟩
  · rcases he with ⟨rfl, rfl⟩ | ⟨rfl, rfl⟩ <;> omega
  · rcases he with ⟨rfl, rfl⟩ | ⟨rfl, rfl⟩ <;> omega
  · rcases he with ⟨rfl, rfl⟩ | ⟨rfl, rfl⟩
    · rfl
    · rw [beq_eq_false_iff_ne.2 (by omega), beq_eq_false_iff_ne.2 (by omega)]
  · rcases hp.2 k hk with h | ⟨_, h⟩
    · omega
    · rw [h]
      have := segS_size d (k : Int)
      omega
theorem fo_ok {d : ByteArray} (hd : d.size ≤ 200) {l : List Int} (hq : QOf d l) (hs : l.length ≤ (cntS d.size).toNat + 1) : FoOk 4 d l := by
  have hn := n_le hd
  refine ⟨by omega, by omega, by omega, fun k hk => ?_⟩
  rcases hq _ (List.getElem_mem hk) with h | h
  · omega
  · have h1 := h.1
    have h2 := h.2
    exact ⟨by omega, h2⟩
theorem dec_end {d : ByteArray} (hd : d.size ≤ 200) : (decS (eeT 4 d)).2.2.2 = false ∧ decE (eeT 4 d) = (4, (d.size : Int), ((crc d : Nat) : Int), true) := by
  have h1 := (decE_back (f := 4) (d := d) ⟨by omega, by omega⟩).1
  refine ⟨?_, h1⟩
  by_cases h : (decS (eeT 4 d)).2.2.2 = true
  · obtain ⟨k, _, _, h2⟩ := decS_ok h
    rw [h1] at h2
    cases h2
  · simpa using h
theorem dec_seg {d : ByteArray} {x : Int} (h : SegOk x d.size) : decS (esT 4 x (segS d x)) = (4, x, segS d x, true) ∧ (decE (esT 4 x (segS d x))).2.2.2 = false := by
  have h1 := (decS_back (segS_ok (f := 4) h (by omega))).1
  refine ⟨h1, ?_⟩
  obtain ⟨k, _, _, h2⟩ := decS_ok (t := esT 4 x (segS d x)) (by rw [h1])
  exact h2
theorem hear_end {d : ByteArray} (hd : d.size ≤ 200) {z c : Int} {p : List ByteArray} (hp : PartsOf d p) (he : EndOf d z c) : hearP 4 z c p (eeT 4 d) = (4, (d.size : Int), ((crc d : Nat) : Int), p) := by
  obtain ⟨h1, h2⟩ := dec_end hd
  have hf := fi_ok hd hp he
  have hs : ¬ HearS 4 p (eeT 4 d) := fun g => by have := g.1; rw [h1] at this; cases this
  by_cases hz : z = -1
  · rw [hearP_end hf hs ⟨by rw [h2], by rw [h2], hz⟩, h2]
  · rcases he with ⟨rfl, _⟩ | ⟨rfl, rfl⟩
    · exact absurd rfl hz
    · rw [hearP_no hs (fun g => hz g.2.2)]
theorem hear_seg {d : ByteArray} (hd : d.size ≤ 200) {z c : Int} {p : List ByteArray} (hp : PartsOf d p) (he : EndOf d z c) {x : Int} (hx : SegOk x d.size) : hearP 4 z c p (esT 4 x (segS d x)) = (4, z, c, p.set x.toNat (segS d x)) := by
  obtain ⟨h1, h2⟩ := dec_seg hx
  have hf := fi_ok hd hp he
  have h0 := hx.1
  have hl := hx.low
  have hlt : x.toNat < p.length := by rw [hp.1]; omega
  have hxe : ((x.toNat : Nat) : Int) = x := by omega
  by_cases hs : p[x.toNat].size = 0
  · rw [hearP_seg hf ⟨by rw [h1], by rw [h1], by rw [h1]; simpa [List.getD, hlt] using hs⟩, h1]
  · rw [hearP_no (fun g => hs (by have h3 := g.2.2; rw [h1] at h3; simpa [List.getD, hlt] using h3)) (fun g => by have := g.1; rw [h2] at this; cases this)]
    rcases hp.2 _ hlt with h | ⟨_, h⟩
    · exact absurd h hs
    · rw [hxe] at h
      rw [← h, List.set_getElem_self]
theorem parts_set {d : ByteArray} {p : List ByteArray} (hp : PartsOf d p) {x : Int} (hx : SegOk x d.size) : PartsOf d (p.set x.toNat (segS d x)) := by
  have h0 := hx.1
  refine ⟨by rw [List.length_set]; exact hp.1, fun j hj => ?_⟩
  rw [List.length_set] at hj
  rw [List.getElem_set]
  by_cases e : x.toNat = j
  · rw [if_pos e]
    have e2 : x = (j : Int) := by omega
    subst e2
    exact .inr ⟨hx, rfl⟩
  · rw [if_neg e]
    exact hp.2 j hj
theorem set_at {d : ByteArray} {p : List ByteArray} {x : Int} (hx : SegOk x d.size) (j : Nat) (hj : j < (p.set x.toNat (segS d x)).length) (h : ¬ (j : Int) = x) : (p.set x.toNat (segS d x))[j] = p[j]'(by simpa using hj) := by
  have h0 := hx.1
  rw [List.getElem_set, if_neg (by omega)]
theorem set_same {d : ByteArray} {p : List ByteArray} {x : Int} (hx : SegOk x d.size) (j : Nat) (hj : j < (p.set x.toNat (segS d x)).length) (h : (j : Int) = x) : (p.set x.toNat (segS d x))[j] = segS d (j : Int) := by
  have h0 := hx.1
  rw [List.getElem_set, if_pos (by omega), h]
theorem whole_set {d : ByteArray} {z : Int} {p : List ByteArray} (hw : WholeF d z p) {x : Int} (hx : SegOk x d.size) : WholeF d z (p.set x.toNat (segS d x)) := by
  refine ⟨hw.1, fun j hj hs => ?_⟩
  by_cases e : (j : Int) = x
  · exact set_same hx j hj e
  · rw [set_at hx j hj e]
    exact hw.2 j _ hs
theorem whole_end {d : ByteArray} {z : Int} {p : List ByteArray} (hw : WholeF d z p) : WholeF d (d.size : Int) p := ⟨rfl, hw.2⟩
/-- A part is taken from the queue and lost. -/
theorem Fw.lost {d : ByteArray} {x : Int} {r : List Int} {b : Bool} {z c : Int} {p : List ByteArray} (h : Fw d (x :: r) b z c p) : Fw d r b z c p :=
  ⟨h.parts, h.ends, fun y hy => h.queue y (List.mem_cons_of_mem _ hy), by have := h.short; rw [List.length_cons] at this; omega, h.done⟩
/-- A part is taken from the queue and heard. -/
theorem Fw.heard {d : ByteArray} (hd : d.size ≤ 200) {x : Int} {r : List Int} {b : Bool} {z c : Int} {p : List ByteArray} (h : Fw d (x :: r) b z c p) :
    ∃ z' c' p', hearP 4 z c p (partO 4 d x) = (4, z', c', p') ∧ Fw d r b z' c' p' ∧ ∀ t, Near d (t + 1) (x :: r) z p → Near d t r z' p' := by
  have hl := h.lost
  rcases h.queue x (List.mem_cons_self ..) with rfl | hx
  · rw [partO_end]
    refine ⟨_, _, _, hear_end hd h.parts h.ends, ⟨hl.parts, .inr ⟨rfl, rfl⟩, hl.queue, hl.short, fun e => whole_end (h.done e)⟩, fun t ht => ?_⟩
    rcases ht with ht | ⟨ht, hlen⟩ | ht
    · exact .inl (whole_end ht)
    · refine .inr (.inl ⟨⟨rfl, fun j hj hs he => ?_⟩, by rw [List.length_cons] at hlen; omega⟩)
      rcases List.mem_cons.1 (ht.2 j hj hs he) with e | e
      · omega
      · exact e
    · exact .inr (.inr (by rw [List.length_cons] at ht; omega))
  · have h0 := hx.1
    rw [partO_seg (by omega)]
    refine ⟨_, _, _, hear_seg hd h.parts h.ends hx, ⟨parts_set h.parts hx, hl.ends, hl.queue, hl.short, fun e => whole_set (h.done e) hx⟩, fun t ht => ?_⟩
    rcases ht with ht | ⟨ht, hlen⟩ | ht
    · exact .inl (whole_set ht hx)
    · refine .inr (.inl ⟨⟨ht.1, fun j hj hs he => ?_⟩, by rw [List.length_cons] at hlen; omega⟩)
      by_cases e : (j : Int) = x
      · rw [set_same hx j hj e] at he
        exact absurd he (seg_ne hs)
      · rw [set_at hx j hj e] at he
        rcases List.mem_cons.1 (ht.2 j _ hs he) with e2 | e2
        · exact absurd e2 e
        · exact e2
    · exact .inr (.inr (by rw [List.length_cons] at ht; omega))
theorem lack_all {d : ByteArray} (hd : d.size ≤ 200) {p : List ByteArray} (hp : p.length = 25) : ∀ x, x ∈ lackU p (cntS d.size).toNat ↔ ∃ j : Nat, x = (j : Int) ∧ SegOk (j : Int) d.size ∧ ∃ hj : j < p.length, p[j].size = 0 := by
  have hn := n_le hd
  intro x
  rw [lackU_mem _ (by omega)]
  constructor
  · rintro ⟨h0, h1, h2, h3⟩
    exact ⟨x.toNat, by omega, ⟨by omega, by omega⟩, h2, h3⟩
  · rintro ⟨j, rfl, h1, h2, h3⟩
    have := h1.2
    exact ⟨by omega, by omega, by simpa using h2, by simpa using h3⟩
theorem mis_list {d : ByteArray} (hd : d.size ≤ 200) {p : List ByteArray} (hp : PartsOf d p) : misL 4 (d.size : Int) ((crc d : Nat) : Int) p = lackU p (cntS d.size).toNat := by
  have hn := n_le hd
  rw [misL_yes ⟨fi_ok hd hp (.inr ⟨rfl, rfl⟩), by omega⟩]
  exact List.take_of_length_le (by have := lackU_len p (cntS d.size).toNat; omega)
theorem segs_all {n : Int} {m : List Int} (h : ∀ x ∈ m, SegOk x n) : segsOf n m m.length = m := by
  unfold segsOf
  rw [List.take_length, List.filter_eq_self]
  intro x hx
  simpa using h x hx
theorem whole_of {d : ByteArray} (hd : d.size ≤ 200) {p : List ByteArray} (hp : PartsOf d p) (h : lackU p (cntS d.size).toNat = []) : WholeF d (d.size : Int) p := by
  refine ⟨rfl, fun j hj hs => ?_⟩
  rcases hp.2 j hj with he | ⟨_, he⟩
  · have := (lack_all hd hp.1 (j : Int)).2 ⟨j, rfl, hs, hj, he⟩
    rw [h] at this
    cases this
  · exact he
theorem lack_of {d : ByteArray} (hd : d.size ≤ 200) {z : Int} {p : List ByteArray} (hp : p.length = 25) (h : WholeF d z p) : lackU p (cntS d.size).toNat = [] := by
  refine List.eq_nil_iff_forall_not_mem.2 fun x hx => ?_
  obtain ⟨j, rfl, hs, hj, he⟩ := (lack_all hd hp x).1 hx
  rw [h.2 j hj hs] at he
  exact seg_ne hs he
/-- The queue is empty: the end is heard, and what is missing is asked for. -/
theorem Fw.empty {d : ByteArray} (hd : d.size ≤ 200) {b : Bool} {z c : Int} {p : List ByteArray} (h : Fw d [] b z c p) :
    ∃ l' b', hearM 4 d [] b 4 (misL 4 (d.size : Int) ((crc d : Nat) : Int) p) = (4, d, l', b') ∧ Fw d l' b' (d.size : Int) ((crc d : Nat) : Int) p ∧ ∀ t, Near d (t + 1) [] z p → Near d t l' (d.size : Int) p := by
  have hn := n_le hd
  have hp := h.parts
  have hlen := lackU_len p (cntS d.size).toNat
  have hfo : FoOk 4 d [] := fo_ok hd (fun x hx => by cases hx) (by simp)
  rw [mis_list hd hp]
  by_cases hm : lackU p (cntS d.size).toNat = []
  · have hw := whole_of hd hp hm
    rw [hm]
    exact ⟨[], true, hearM_done ⟨hfo, rfl⟩ rfl, ⟨hp, .inr ⟨rfl, rfl⟩, (fun x hx => by cases hx), by simp, fun _ => hw⟩, fun t _ => .inl hw⟩
  · have hsg : ∀ x ∈ lackU p (cntS d.size).toNat, SegOk x d.size := fun x hx => by
      obtain ⟨j, rfl, hs, _⟩ := (lack_all hd hp.1 x).1 hx
      exact hs
    have hq : hearQ d [] (lackU p (cntS d.size).toNat) = lackU p (cntS d.size).toNat ++ [-1] := by
      unfold hearQ
      rw [segs_all hsg, List.nil_append]
    have hqo : QOf d (lackU p (cntS d.size).toNat ++ [-1]) := fun x hx => by
      rcases List.mem_append.1 hx with hx | hx
      · exact .inr (hsg x hx)
      · exact .inl (List.mem_singleton.1 hx)
    have hsh : (lackU p (cntS d.size).toNat ++ [-1]).length ≤ (cntS d.size).toNat + 1 := by rw [List.length_append]; simp; omega
    have hy := hearM_yes (b := b) (i := 4) ⟨hfo, rfl⟩ (m := lackU p (cntS d.size).toNat) (fun e => hm (List.length_eq_zero_iff.1 e)) (by rw [hq]; exact fo_ok hd hqo hsh)
    rw [hq] at hy
    refine ⟨_, _, hy, ⟨hp, .inr ⟨rfl, rfl⟩, hqo, hsh, fun e => whole_end (h.done e)⟩, fun t ht => ?_⟩
    rcases ht with ht | ⟨ht, _⟩ | ht
    · exact .inl (whole_end ht)
    · refine .inl ⟨rfl, fun j hj hs => ?_⟩
      rcases hp.2 j hj with he | ⟨_, he⟩
      · cases ht.2 j hj hs he
      · exact he
    · refine .inr (.inl ⟨⟨rfl, fun j hj hs he => List.mem_append_left _ ((lack_all hd hp.1 _).2 ⟨j, rfl, hs, hj, he⟩)⟩, ?_⟩)
      simp only [List.length_nil] at ht
      omega
theorem cat_whole {d : ByteArray} {z : Int} {p : List ByteArray} (hp : p.length = 25) (h : WholeF d z p) (k : Nat) (hk : (k : Int) ≤ cntS d.size) : catT p k = d.extract 0 (24 * k) := by
  have hb := cntS_bd d.size
  induction k with
  | zero => exact list_inj6 (by rw [ext_list6]; simp; rfl)
  | succ k ih =>
    have hs : SegOk (k : Int) d.size := ⟨by omega, by omega⟩
    rw [catT_succ (show k < p.length by omega), ih (by omega), h.2 k (by omega) hs, seg_join d k hs]
theorem ft_whole {d : ByteArray} (hd : d.size ≤ 200) {z c : Int} {p : List ByteArray} (hp : PartsOf d p) (he : EndOf d z c) (h : WholeF d z p) : ftR 4 z c p = (d, true) := by
  have hn := n_le hd
  have h1 := h.1
  subst h1
  have hc : c = ((crc d : Nat) : Int) := by
    rcases he with ⟨e, _⟩ | ⟨_, e⟩
    · omega
    · exact e
  have hcat : catT p (cntS d.size).toNat = d := by
    rw [cat_whole hp.1 h _ (by omega)]
    exact seg_all d _ hn.2.2 (by omega)
  rw [ftR_yes ⟨⟨fi_ok hd hp he, by omega⟩, lack_of hd hp.1 h, by rw [hcat], by rw [hcat, hc]⟩, hcat]
theorem ft_not {d : ByteArray} (hd : d.size ≤ 200) {z c : Int} {p : List ByteArray} (hp : PartsOf d p) (he : EndOf d z c) (h : ¬ WholeF d z p) : ftR 4 z c p = (⟨#[]⟩, false) := by
  refine ftR_no fun g => h ?_
  have hz : z = (d.size : Int) := by
    rcases he with ⟨e, _⟩ | ⟨e, _⟩
    · exact absurd e g.1.2
    · exact e
  subst hz
  exact whole_of hd hp g.2.1
theorem mis_whole {d : ByteArray} (hd : d.size ≤ 200) {z c : Int} {p : List ByteArray} (hp : PartsOf d p) (he : EndOf d z c) (h : WholeF d z p) : misL 4 z c p = [] := by
  have h1 := h.1
  subst h1
  rcases he with ⟨e, _⟩ | ⟨_, rfl⟩
  · omega
  · rw [mis_list hd hp, lack_of hd hp.1 h]
theorem new_seg (d : ByteArray) (hd : d.size ≤ 200) : ∀ x ∈ newQ d, x = -1 ∨ SegOk x d.size := fun x hx => by
  have hn := n_le hd
  unfold newQ at hx
  rcases List.mem_append.1 hx with hx | hx
  · unfold upI at hx
    obtain ⟨j, hj, rfl⟩ := List.mem_map.1 hx
    have := List.mem_range.1 hj
    exact .inr ⟨by omega, by omega⟩
  · exact .inl (List.mem_singleton.1 hx)
theorem new_len (d : ByteArray) : (newQ d).length = (cntS d.size).toNat + 1 := by
  unfold newQ
  rw [List.length_append, upI_len]
  rfl
theorem Fw.start {d : ByteArray} (hd : d.size ≤ 200) : newO 4 d = (4, d, newQ d, false, true) ∧ Fw d (newQ d) false (-1) (-1) (List.replicate 25 ⟨#[]⟩) := by
  have hq := new_seg d hd
  have hl := new_len d
  exact ⟨newO_yes (fo_ok hd hq (by omega)), ⟨⟨by simp, fun j hj => .inl (by rw [List.getElem_replicate]; rfl)⟩, .inl ⟨rfl, rfl⟩, hq, by omega, (fun e => by cases e)⟩⟩
theorem Near.begin {d : ByteArray} (hd : d.size ≤ 200) {l : List Int} {z : Int} {p : List ByteArray} (hs : l.length ≤ (cntS d.size).toNat + 1) {t : Nat} (ht : 21 ≤ t) : Near d t l z p := by
  have hn := n_le hd
  exact .inr (.inr (by omega))
theorem Near.fin {d : ByteArray} {l : List Int} {z : Int} {p : List ByteArray} {b : Bool} {c : Int} (h : Near d 0 l z p) (hp : PartsOf d p) : WholeF d z p := by
  rcases h with h | ⟨h, hl⟩ | h
  · exact h
  · refine ⟨h.1, fun j hj hs => ?_⟩
    rcases hp.2 j hj with he | ⟨_, he⟩
    · have h1 := h.2 j hj hs he
      rw [List.eq_nil_of_length_eq_zero (Nat.le_zero.1 hl)] at h1
      cases h1
    · exact he
  · omega
end Go.Proofs.Ytckofkdeedbbgaa
