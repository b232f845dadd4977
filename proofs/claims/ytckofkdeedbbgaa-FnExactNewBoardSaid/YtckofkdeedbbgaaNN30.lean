/- What this text proves: the parts StR, StA, StLm of the proof, each under its own words. -/
import Derived.Test.YtckofkdeedbbgaaNN01
import Derived.RegionTactic
import Derived.Test.YtckofkdeedbbgaaNN19
import Derived.Test.YtckofkdeedbbgaaNN05
/- What this text proves: rows of structs appended at once, in a region that draws its order. -/
namespace Go.Proofs.Ytckofkdeedbbgaa
open Go.ChangeShapes Go.WideShapes Go.ChangeAt Go.RowKit
set_option linter.unusedVariables false

theorem step_app_rows {ops : Array Oper} {o : Oper} {a : Act} {K : Act → World → Prop} {Q : Exit → Act → World → Prop} {EE : Prop} (E S : TypeId) (sz by_ : Nat) (z : Value) (i : TypeInfo) (w : World) (hgd : o.guard = none) (s x : Operand)
    (ho : o.op = .call { callee := .builtin .append, args := #[s, x], argTypes := #[S, S] })
    (hS : Try.prog.underlying S = some (.slice E)) (hi : Try.prog.info? E = some i) (hz : i.zero = some z) (hsz : i.size = sz) (hby : i.bytes = by_) (hzs : z.cells.size = sz) (hpos : 0 < sz) (hb100 : by_ ≤ 128)
    (base : Nat) (v : Value) (l : List (List Value)) (hs : a.eval s = v) (hown : OwnR E sz w base v l) (A : Option Addr) (new : List (List Value)) (k : Nat) (hx : a.eval x = .slice A new.length k)
    (hnew : ∀ x ∈ new, x.length = sz) (hone : ∀ x ∈ new, ∀ u ∈ x, u.oneCell' = true) (hat : RowsAt w A new)
    (hlen : l.length + new.length ≤ 1099511) (hbase : base ≤ w.heap.size)
    (h : ∀ v' w', OwnR E sz w' base v' (l ++ new) → w.grownBy w' v.ownBlock → (v'.ownBlock = v.ownBlock ∨ v'.ownBlock = some w.heap.size) → K (a.put o.dst v') w') :
    if Region.wanted o (yielded ops a.tmps) = true then Oper.wp Try.prog o a w K Q else EE := by
  have hw : Region.wanted o (yielded ops a.tmps) = true := by simp [Region.wanted, hgd]
  rw [if_pos hw]
  obtain ⟨v', w', hr, h2, h3, h4⟩ := run_rows E S sz by_ z i w o.type hS hi hz hsz hby hzs hpos hb100 base v l hown A new k hnew hone hat hlen hbase
  unfold Oper.wp execOp
  simp only [ho, resolve, invoke, builtin, Sem.run_bind, Sem.run_pure, Result.andThen_ok, List.map_toArray, List.map_cons, List.map_nil, hs, hx, hr]
  exact h v' w' h2 h3 h4
end Go.Proofs.Ytckofkdeedbbgaa
/- What this text proves: rows appended to a list that lies apart from other things: it grows, and the others stay. -/
namespace Go.Proofs.Ytckofkdeedbbgaa
open Go.ChangeShapes Go.WideShapes Go.ChangeAt Go.RowKit
set_option linter.unusedVariables false

theorem rowsAt_box {W : World} {g : Nat} {vs : List Value} (h : Box W g vs) : RowsAt W (some ⟨g, 0, none⟩) [vs] := .inr ⟨g, 0, rfl, fun j u hu => by
  rw [List.flatten_cons, List.flatten_nil, List.append_nil] at hu
  obtain ⟨hj, e⟩ := List.getElem?_eq_some_iff.1 hu
  rw [Nat.zero_add, h.cell j hj, e]⟩
theorem LsO.rowsAt {n : Nat} {W : World} {base : Nat} {A : Option Addr} {N c : Nat} {l : List (List Value)} (h : LsO n W base (.slice A N c) l) : RowsAt W A l := (LsO.ats h).rows h.wide
theorem app_St {ops : Array Oper} {rest : List Oper} {o : Oper} {a : Act} {Q : Exit → Act → World → Prop} {w W : World} {L : List Thing} (hst : St w W L) (idx : Nat) (E S : TypeId) (sz by_ : Nat) (z : Value) (hgd : o.guard = none) (s x : Operand)
    (ho : o.op = .call { callee := .builtin .append, args := #[s, x], argTypes := #[S, S] })
    (hS : Try.prog.underlying S = some (.slice E)) (hinfo : (Try.prog.info? E).map (fun i => (i.zero, i.size, i.bytes)) = some (some z, sz, by_)) (hzs : z.cells.size = sz) (hpos : 0 < sz) (hb100 : by_ ≤ 128)
    (v : Value) (l : List (List Value)) (e : L[idx]? = some (rowT E sz v l)) (hs : a.eval s = v) (A : Option Addr) (new : List (List Value)) (k : Nat) (hx : a.eval x = .slice A new.length k)
    (hnew : ∀ x ∈ new, x.length = sz) (hone : ∀ x ∈ new, ∀ u ∈ x, u.oneCell' = true) (hat : RowsAt W A new) (hlen : l.length + new.length ≤ 1099511)
    (h : ∀ A' c' w', St w w' (L.set idx (rowT E sz (.slice A' (l ++ new).length c') (l ++ new))) → wpList Try.prog ops Q rest (a.put o.dst (.slice A' (l ++ new).length c')) w') :
    wpList Try.prog ops Q (o :: rest) a W := by
  obtain ⟨i, hi, hz0, hz1, hz2⟩ := info_parts hinfo
  refine app_rows E S sz by_ z i W hgd s x ho hS hi hz0 hz1 hz2 hzs hpos hb100 0 v l hs (hst.row idx E sz v l e) A new k hx hnew hone hat hlen (Nat.zero_le _) ?_
  intro v' w' h1 h2 h3
  obtain ⟨A', c', rfl⟩ := h1.form
  refine h A' c' w' (hst.grow idx E sz v l e h2 _ _ h1 ?_)
  rcases h3 with h3 | h3
  · exact .inl h3
  · exact .inr ⟨_, Nat.le_refl _, h3⟩
theorem step_St {ops : Array Oper} {o : Oper} {a : Act} {K : Act → World → Prop} {Q : Exit → Act → World → Prop} {EE : Prop} {w W : World} {L : List Thing} (hst : St w W L) (idx : Nat) (E S : TypeId) (sz by_ : Nat) (z : Value) (hgd : o.guard = none) (s x : Operand)
    (ho : o.op = .call { callee := .builtin .append, args := #[s, x], argTypes := #[S, S] })
    (hS : Try.prog.underlying S = some (.slice E)) (hinfo : (Try.prog.info? E).map (fun i => (i.zero, i.size, i.bytes)) = some (some z, sz, by_)) (hzs : z.cells.size = sz) (hpos : 0 < sz) (hb100 : by_ ≤ 128)
    (v : Value) (l : List (List Value)) (e : L[idx]? = some (rowT E sz v l)) (hs : a.eval s = v) (A : Option Addr) (new : List (List Value)) (k : Nat) (hx : a.eval x = .slice A new.length k)
    (hnew : ∀ x ∈ new, x.length = sz) (hone : ∀ x ∈ new, ∀ u ∈ x, u.oneCell' = true) (hat : RowsAt W A new) (hlen : l.length + new.length ≤ 1099511)
    (h : ∀ A' c' w', St w w' (L.set idx (rowT E sz (.slice A' (l ++ new).length c') (l ++ new))) → K (a.put o.dst (.slice A' (l ++ new).length c')) w') :
    if Region.wanted o (yielded ops a.tmps) = true then Oper.wp Try.prog o a W K Q else EE := by
  obtain ⟨i, hi, hz0, hz1, hz2⟩ := info_parts hinfo
  refine step_app_rows E S sz by_ z i W hgd s x ho hS hi hz0 hz1 hz2 hzs hpos hb100 0 v l hs (hst.row idx E sz v l e) A new k hx hnew hone hat hlen (Nat.zero_le _) ?_
  intro v' w' h1 h2 h3
  obtain ⟨A', c', rfl⟩ := h1.form
  refine h A' c' w' (hst.grow idx E sz v l e h2 _ _ h1 ?_)
  rcases h3 with h3 | h3
  · exact .inl h3
  · exact .inr ⟨_, Nat.le_refl _, h3⟩
end Go.Proofs.Ytckofkdeedbbgaa
/- What this text proves: append at lists of limits that lie apart from other things. -/
namespace Go.Proofs.Ytckofkdeedbbgaa
open Go.ChangeShapes Go.WideShapes Go.ChangeAt Go.RowKit
set_option linter.unusedVariables false

theorem app_lms {ops : Array Oper} {rest : List Oper} {o : Oper} {a : Act} {Q : Exit → Act → World → Prop} {w W : World} {L : List Thing} (hst : St w W L) (idx : Nat) (v : Value) (l : List Lm) (e : L[idx]? = some (rowT 57 3 v (l.map lmC))) (hgd : o.guard = none) (s x : Operand)
    (ho : o.op = .call { callee := .builtin .append, args := #[s, x], argTypes := #[25, 25] }) (hs : a.eval s = v) (A : Option Addr) (new : List Lm) (k : Nat) (hx : a.eval x = .slice A new.length k) (hat : RowsAt W A (new.map lmC)) (hlen : l.length + new.length ≤ 1099511)
    (h : ∀ A' n' c' w', n' = (l ++ new).length → St w w' (L.set idx (rowT 57 3 (.slice A' n' c') ((l ++ new).map lmC))) → wpList Try.prog ops Q rest (a.put o.dst (.slice A' n' c')) w') :
    wpList Try.prog ops Q (o :: rest) a W := by
  refine app_St hst idx 57 25 3 24 (.agg #[.int .i64 0, .int .i64 0, .int .i64 0]) hgd s x ho Try.underlying25 info_lm rfl (by decide) (by decide) v (l.map lmC) e hs A (new.map lmC) k (by rw [List.length_map]; exact hx) (lm_len new) (lm_one new) hat (by rw [List.length_map, List.length_map]; exact hlen) ?_
  intro A' c' w' h1
  rw [← List.map_append, List.length_map] at h1 ⊢
  exact h A' _ c' w' rfl h1
theorem step_lms {ops : Array Oper} {o : Oper} {a : Act} {K : Act → World → Prop} {Q : Exit → Act → World → Prop} {EE : Prop} {w W : World} {L : List Thing} (hst : St w W L) (idx : Nat) (v : Value) (l : List Lm) (e : L[idx]? = some (rowT 57 3 v (l.map lmC))) (hgd : o.guard = none) (s x : Operand)
    (ho : o.op = .call { callee := .builtin .append, args := #[s, x], argTypes := #[25, 25] }) (hs : a.eval s = v) (A : Option Addr) (new : List Lm) (k : Nat) (hx : a.eval x = .slice A new.length k) (hat : RowsAt W A (new.map lmC)) (hlen : l.length + new.length ≤ 1099511)
    (h : ∀ A' n' c' w', n' = (l ++ new).length → St w w' (L.set idx (rowT 57 3 (.slice A' n' c') ((l ++ new).map lmC))) → K (a.put o.dst (.slice A' n' c')) w') :
    if Region.wanted o (yielded ops a.tmps) = true then Oper.wp Try.prog o a W K Q else EE := by
  refine step_St hst idx 57 25 3 24 (.agg #[.int .i64 0, .int .i64 0, .int .i64 0]) hgd s x ho Try.underlying25 info_lm rfl (by decide) (by decide) v (l.map lmC) e hs A (new.map lmC) k (by rw [List.length_map]; exact hx) (lm_len new) (lm_one new) hat (by rw [List.length_map, List.length_map]; exact hlen) ?_
  intro A' c' w' h1
  rw [← List.map_append, List.length_map] at h1 ⊢
  exact h A' _ c' w' rfl h1
end Go.Proofs.Ytckofkdeedbbgaa
