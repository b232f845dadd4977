/- What this text proves: the parts FrM, StR, Tch of the proof, each under its own words. -/
import Derived.Test.YtckofkdeedbbgaaRR08
import Derived.Test.YtckofkdeedbbgaaRR01
import Derived.RegionTactic
import Derived.Test.YtckofkdeedbbgaaRR02
import Derived.Test.YtckofkdeedbbgaaRR00
/- What this text proves: what a recorder gives up for a new record: only records of lesser priority, and only as long as there is not enough room; nothing disappears. -/
namespace Go.Proofs.Ytckofkdeedbbgaa
set_option linter.unusedVariables false

theorem upTo_iff {l : List Rc} : UpTo l l.length ↔ (∀ x ∈ l, RdC x) ∧ l.Pairwise fun a b => a.1 < b.1 := by
  constructor
  · intro h
    refine ⟨fun x hx => ?_, List.pairwise_iff_getElem.2 fun i j hi hj hij => ?_⟩
    · obtain ⟨j, hj, rfl⟩ := List.mem_iff_getElem.1 hx
      exact (upTo_at h hj hj).1
    · have hs : ∀ e (he : i + e + 1 < l.length), l[i].1 < (l[i + e + 1]'he).1 := by
        intro e
        induction e with
        | zero =>
          intro he
          have h2 := (upTo_at h (k := i + 1) he he).2
          have h3 : befR l (i + 1) = l[i].1 := by
            show (l.getD i rc0).1 = _
            rw [getRc_at hi]
          rw [h3] at h2
          exact h2
        | succ e ih =>
          intro he
          have h1 := ih (by omega)
          have h2 := (upTo_at h (k := i + (e + 1) + 1) he he).2
          have h3 : befR l (i + (e + 1) + 1) = (l[i + e + 1]'(by omega)).1 := by
            show (l.getD (i + (e + 1)) rc0).1 = _
            rw [getRc_at (show i + (e + 1) < l.length by omega)]
            rfl
          rw [h3] at h2
          exact Int.lt_trans h1 h2
      obtain ⟨e, rfl⟩ : ∃ e, j = i + e + 1 := ⟨j - i - 1, by omega⟩
      exact hs e hj
  · intro ⟨h1, h2⟩ j hj
    rw [getRc_at hj]
    refine ⟨h1 _ (List.getElem_mem hj), ?_⟩
    cases j with
    | zero =>
      have := (h1 _ (List.getElem_mem hj)).1.1
      show (-1 : Int) < _
      omega
    | succ j =>
      show (l.getD j rc0).1 < _
      rw [getRc_at (show j < l.length by omega)]
      exact List.pairwise_iff_getElem.1 h2 j (j + 1) (by omega) hj (by omega)
theorem kpGo_drop {p n : Int} : ∀ (f : Nat) (l : List Rc) (d : List Int) (l' : List Rc) (d' : List Int), kpGo p n f l d = some (l', d') → ∃ E, d' = d ++ E ∧ (∀ e ∈ E, ∃ y ∈ l, y.1 = e ∧ y.2.1 < p) ∧ l'.Sublist l ∧ l'.length + E.length = l.length := by
  intro f
  induction f with
  | zero =>
    intro l d l' d' h
    by_cases h1 : (sumR l : Int) ≤ n
    · rw [kpGo_done h1] at h
      injection h with h; injection h with h2 h3; subst h2 h3
      exact ⟨[], by simp, (fun e he => by cases he), List.Sublist.refl _, by simp⟩
    · unfold kpGo at h
      rw [if_neg h1] at h
      cases h
  | succ f ih =>
    intro l d l' d' h
    by_cases h1 : (sumR l : Int) ≤ n
    · rw [kpGo_done h1] at h
      injection h with h; injection h with h2 h3; subst h2 h3
      exact ⟨[], by simp, (fun e he => by cases he), List.Sublist.refl _, by simp⟩
    · by_cases h2 : lsB l p l.length = -1
      · rw [kpGo_stuck h1 h2] at h
        cases h
      · rw [kpGo_step h1 h2] at h
        obtain ⟨g1, g2, g3⟩ := loB_lsB h2
        obtain ⟨E, e1, e2, e3, e4⟩ := ih _ _ _ _ h
        rw [getRc_at g2] at g3 e1
        refine ⟨l[loB l l.length].1 :: E, by rw [e1]; simp, fun e he => ?_, e3.trans (List.eraseIdx_sublist _ _), ?_⟩
        · rcases List.mem_cons.1 he with rfl | he
          · exact ⟨_, List.getElem_mem g2, rfl, g3⟩
          · obtain ⟨y, hy, hh⟩ := e2 e he
            exact ⟨y, List.mem_of_mem_eraseIdx hy, hh⟩
        · rw [List.length_eraseIdx, if_pos g2] at e4
          rw [List.length_cons]
          omega
/-- A recorder after k records of the Ids 0 to k - 1. -/
structure FrI (R : Int) (k : Nat) (l : List Rc) (d : List Int) : Prop where
  ok : RcrOk R l d
  ids : ∀ x ∈ l, x.1 < (k : Int)
  sum : l.length + d.length = k
theorem FrI.start {R : Int} (h : 0 ≤ R ∧ R ≤ 4000) : FrI R 0 [] [] := ⟨⟨h, upTo_iff.2 ⟨(fun x hx => by cases hx), List.Pairwise.nil⟩, by rw [useR_sum]; exact h.1, by simp, (fun x hx => by cases hx)⟩, (fun x hx => by cases hx), rfl⟩
theorem FrI.step {R : Int} {k : Nat} {l : List Rc} {d : List Int} (h : FrI R k l d) (hk : k < 20) {x : Rc} (hx : RdC x) (hid : x.1 = (k : Int)) :
    FrI R (k + 1) (keepR R l d x).1 (keepR R l d x).2 ∧ ∃ E, (keepR R l d x).2 = d ++ E ∧ (∀ e ∈ E, ∀ y ∈ l, y.1 = e → y.2.1 < x.2.1) ∧ (((6 + x.2.2.2.size : Nat) : Int) ≤ leftR R l d → E = []) := by
  obtain ⟨hR, hup, hus, hd1, hd2⟩ := h.ok
  have hpw := upTo_iff.1 hup
  have hsum := h.sum
  rw [useR_sum] at hus
  have hin : KpIn R l d x := by
    refine ⟨h.ok, hx, ?_⟩
    rw [hid]
    rcases Nat.eq_zero_or_pos l.length with h0 | h0
    · rw [h0]; show (-1 : Int) < _; omega
    · obtain ⟨m, hm⟩ : ∃ m, l.length = m + 1 := ⟨l.length - 1, by omega⟩
      have e : befR l (m + 1) = (l[m]'(by omega)).1 := by
        show (l.getD m rc0).1 = _
        rw [getRc_at (show m < l.length by omega)]
      rw [congrArg (befR l) hm, e]
      exact h.ids _ (List.getElem_mem _)
  have hleft : leftR R l d = R - ((sumR l : Nat) : Int) := by rw [leftR_yes h.ok, useR_sum]
  have hx1 := hx.1
  rcases e : kpGo x.2.1 (R - ((6 + x.2.2.2.size : Nat) : Int)) l.length l d with _ | y
  · have hraw := kpRaw_none e
    have hok : RcrOk R (kpRaw R l d x).1 (kpRaw R l d x).2 := by
      rw [hraw]
      refine ⟨hR, hup, by rw [useR_sum]; exact hus, by rw [List.length_append]; simp; omega, fun z hz => ?_⟩
      rcases List.mem_append.1 hz with hz | hz
      · exact hd2 z hz
      · rw [List.mem_singleton.1 hz]; exact hx1
    rw [keepR_yes hin hok, hraw] at *
    refine ⟨⟨hok, fun y hy => by have := h.ids y hy; omega, by rw [List.length_append]; simp; omega⟩, [x.1], rfl, fun e he y hy hye => ?_, fun hn => ?_⟩
    · rw [List.mem_singleton.1 he] at hye
      have := h.ids y hy
      omega
    · rw [hleft] at hn
      rw [kpGo_done (by omega)] at e
      cases e
  · have hraw := kpRaw_some e
    obtain ⟨E, e1, e2, e3, e4⟩ := kpGo_drop _ _ _ _ _ (show kpGo x.2.1 (R - ((6 + x.2.2.2.size : Nat) : Int)) l.length l d = some (y.1, y.2) from e)
    obtain ⟨f1, f2, f3, f4⟩ := kpGo_le _ _ _ _ _ (show kpGo x.2.1 (R - ((6 + x.2.2.2.size : Nat) : Int)) l.length l d = some (y.1, y.2) from e)
    have hok : RcrOk R (kpRaw R l d x).1 (kpRaw R l d x).2 := by
      rw [hraw]
      refine ⟨hR, upTo_iff.2 ⟨fun z hz => ?_, List.pairwise_append.2 ⟨hpw.2.sublist e3, List.pairwise_singleton _ _, fun a ha b hb => ?_⟩⟩, ?_, ?_, fun z hz => ?_⟩
      · rcases List.mem_append.1 hz with hz | hz
        · exact hpw.1 z (e3.subset hz)
        · rw [List.mem_singleton.1 hz]; exact hx
      · rw [List.mem_singleton.1 hb, hid]
        exact h.ids a (e3.subset ha)
      · rw [useR_sum, sumR_app, sumR_cons]
        show ((sumR y.1 + (6 + x.2.2.2.size + 0) : Nat) : Int) ≤ R
        omega
      · show y.2.length ≤ _; omega
      · have hz' : z ∈ d ++ E := e1 ▸ hz
        rcases List.mem_append.1 hz' with hz' | hz'
        · exact hd2 z hz'
        · obtain ⟨u, hu, hue, _⟩ := e2 z hz'
          rw [← hue]
          exact (hpw.1 u hu).1
    rw [keepR_yes hin hok, hraw] at *
    refine ⟨⟨hok, fun z hz => ?_, ?_⟩, E, e1, fun e he u hu hue => ?_, fun hn => ?_⟩
    · rcases List.mem_append.1 hz with hz | hz
      · have := h.ids z (e3.subset hz); omega
      · rw [List.mem_singleton.1 hz, hid]; omega
    · show (y.1 ++ [x]).length + y.2.length = _
      have := congrArg List.length e1
      rw [List.length_append] at this ⊢
      simp
      omega
    · obtain ⟨v, hv, hve, hvp⟩ := e2 e he
      have huv : u = v := by
        obtain ⟨i, hi, rfl⟩ := List.mem_iff_getElem.1 hu
        obtain ⟨j, hj, rfl⟩ := List.mem_iff_getElem.1 hv
        have hp := List.pairwise_iff_getElem.1 hpw.2
        rcases Nat.lt_trichotomy i j with g | g | g
        · have := hp i j hi hj g; omega
        · subst g; rfl
        · have := hp j i hj hi g; omega
      rw [huv]
      exact hvp
    · rw [hleft] at hn
      rw [kpGo_done (by omega)] at e
      injection e with e
      have : y.2 = d := by rw [← e]
      rw [this] at e1
      have := congrArg List.length e1
      rw [List.length_append] at this
      exact List.eq_nil_of_length_eq_zero (by omega)
end Go.Proofs.Ytckofkdeedbbgaa
/- What this text proves: rows of structs appended at once, in a region that draws its order. -/
namespace Go.Proofs.Ytckofkdeedbbgaa
open Go.ChangeShapes Go.WideShapes Go.ChangeAt Go.RowKit
set_option linter.unusedVariables false

theorem step_app_rows {ops : Array Oper} {o : Oper} {a : Act} {K : Act → World → Prop} {Q : Exit → Act → World → Prop} {EE : Prop} (E S : TypeId) (sz by_ : Nat) (z : Value) (i : TypeInfo) (w : World) (hgd : o.guard = none) (s x : Operand)
    (ho : o.op = .call { callee := .builtin .append, args := #[s, x], argTypes := #[S, S] })
    (hS : Try.prog.underlying S = some (.slice E)) (hi : Try.prog.info? E = some i) (hz : i.zero = some z) (hsz : i.size = sz) (hby : i.bytes = by_) (hzs : z.cells.size = sz) (hpos : 0 < sz) (hb100 : by_ ≤ 128)
    (base : Nat) (v : Value) (l : List (List Value)) (hs : a.eval s = v) (hown : OwnR E sz w base v l) (A : Option Addr) (new : List (List Value)) (k : Nat) (hx : a.eval x = .slice A new.length k)
    (hnew : ∀ x ∈ new, x.length = sz) (hone : ∀ x ∈ new, ∀ u ∈ x, u.oneCell' = true) (hat : RowsAt w A new)
    (hlen : l.length + new.length ≤ 1099511) (hbase : base ≤ w.heap.size)
    (h : ∀ v' w', OwnR E sz w' base v' (l ++ new) → w.grownBy w' v.ownBlock → (v'.ownBlock = v.ownBlock ∨ v'.ownBlock = some w.heap.size) → K (a.put o.dst v') w') :
    if Region.wanted o (yielded ops a.tmps) = true then Oper.wp Try.prog o a w K Q else EE := by
  have hw : Region.wanted o (yielded ops a.tmps) = true := by simp [Region.wanted, hgd]
  rw [if_pos hw]
  obtain ⟨v', w', hr, h2, h3, h4⟩ := run_rows E S sz by_ z i w o.type hS hi hz hsz hby hzs hpos hb100 base v l hown A new k hnew hone hat hlen hbase
  unfold Oper.wp execOp
  simp only [ho, resolve, invoke, builtin, Sem.run_bind, Sem.run_pure, Result.andThen_ok, List.map_toArray, List.map_cons, List.map_nil, hs, hx, hr]
  exact h v' w' h2 h3 h4
end Go.Proofs.Ytckofkdeedbbgaa
/- What this text proves: a call that changes only some blocks: what stays. -/
namespace Go.Proofs.Ytckofkdeedbbgaa
open Go.ChangeShapes Go.WideShapes Go.ChangeAt Go.RowKit
set_option linter.unusedVariables false

/-- Only blocks of S, and new ones, have changed. -/
structure Touch (w w' : World) (S : Nat → Prop) : Prop where
  os : w'.os = w.os
  tape : w'.tape = w.tape
  output : w'.output = w.output
  size : w.heap.size ≤ w'.heap.size
  block : ∀ k, k < w.heap.size → ¬ S k → w'.heap[k]? = w.heap[k]?
theorem Touch.refl (w : World) (S : Nat → Prop) : Touch w w S := ⟨rfl, rfl, rfl, Nat.le_refl _, fun _ _ _ => rfl⟩
theorem Touch.of_grown {w w' : World} {row : Option Nat} (h : w.grownBy w' row) : Touch w w' (fun k => row = some k) := ⟨h.os, h.tape, h.output, h.size, fun k hk hn => h.block k hk (fun e => hn e.symm)⟩
theorem Touch.of_below {w w' : World} (h : Below w.heap.size w w') (S : Nat → Prop) : Touch w w' S := ⟨h.os, h.tape, h.output, h.size, fun k hk _ => h.block k hk⟩
theorem Touch.mono {w w' : World} {S T : Nat → Prop} (h : Touch w w' S) (hs : ∀ k, S k → T k) : Touch w w' T := ⟨h.os, h.tape, h.output, h.size, fun k hk hn => h.block k hk (fun e => hn (hs k e))⟩
theorem Touch.trans {w w' w'' : World} {S : Nat → Prop} (h : Touch w w' S) (h2 : Touch w' w'' S) : Touch w w'' S :=
  ⟨h2.os.trans h.os, h2.tape.trans h.tape, h2.output.trans h.output, Nat.le_trans h.size h2.size, fun k hk hn => (h2.block k (Nat.lt_of_lt_of_le hk h.size) hn).trans (h.block k hk hn)⟩
theorem Touch.below {w w' : World} {S : Nat → Prop} {B : Nat} (h : Touch w w' S) (hB : ∀ k, S k → B ≤ k) (hz : B ≤ w.heap.size) : Below B w w' :=
  ⟨h.os, h.tape, h.output, h.size, fun k hk => h.block k (Nat.lt_of_lt_of_le hk hz) (fun e => by have := hB k e; omega)⟩
theorem LsO.touch {n : Nat} {w w' : World} {base : Nat} {v : Value} {l : List (List Value)} {S : Nat → Prop} (h : LsO n w base v l) (ht : Touch w w' S) (hne : ∀ k, v.ownBlock = some k → ¬ S k) : LsO n w' base v l :=
  h.keep ht.size fun g hv j => by
    have hb : w'.heap[g]? = w.heap[g]? := ht.block g (h.up g hv).2 (hne g hv)
    exact ⟨by simp [World.cell?, hb], by simp [World.frozen?, hb]⟩
theorem Box.touch {w w' : World} {g : Nat} {vs : List Value} {S : Nat → Prop} (h : Box w g vs) (ht : Touch w w' S) (hne : ¬ S g) : Box w' g vs := by
  have hb : w'.heap[g]? = w.heap[g]? := ht.block g h.lt hne
  exact ⟨Nat.lt_of_lt_of_le h.lt ht.size, fun j hj => by rw [← h.cell j hj]; simp [World.cell?, hb], fun j => by rw [← h.ice j]; simp [World.frozen?, hb]⟩
end Go.Proofs.Ytckofkdeedbbgaa
