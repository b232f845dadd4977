/- What this text proves: rows appended to a list that lies apart from other things: it grows, and the others stay. -/
import Derived.Test.YtggfmimnmpanbaaDoorStR
import Derived.Test.YtggfmimnmpanbaaDoorStB
namespace Go.Proofs.YtggfmimnmpanbaaDoor
open Go.ChangeShapes Go.WideShapes Go.ChangeAt Go.RowKit
set_option linter.unusedVariables false

theorem rowsAt_box {W : World} {g : Nat} {vs : List Value} (h : Box W g vs) : RowsAt W (some ⟨g, 0, none⟩) [vs] := .inr ⟨g, 0, rfl, fun j u hu => by
  rw [List.flatten_cons, List.flatten_nil, List.append_nil] at hu
  obtain ⟨hj, e⟩ := List.getElem?_eq_some_iff.1 hu
  rw [Nat.zero_add, h.cell j hj, e]⟩
theorem LsO.rowsAt {n : Nat} {W : World} {base : Nat} {A : Option Addr} {N c : Nat} {l : List (List Value)} (h : LsO n W base (.slice A N c) l) : RowsAt W A l := (LsO.ats h).rows h.wide
theorem app_St {ops : Array Oper} {rest : List Oper} {o : Oper} {a : Act} {Q : Exit → Act → World → Prop} {w W : World} {L : List Thing} (hst : St w W L) (idx : Nat) (E S : TypeId) (sz by_ : Nat) (z : Value) (hgd : o.guard = none) (s x : Operand)
    (ho : o.op = .call { callee := .builtin .append, args := #[s, x], argTypes := #[S, S] })
    (hS : Tryd.prog.underlying S = some (.slice E)) (hinfo : (Tryd.prog.info? E).map (fun i => (i.zero, i.size, i.bytes)) = some (some z, sz, by_)) (hzs : z.cells.size = sz) (hpos : 0 < sz) (hb100 : by_ ≤ 128)
    (v : Value) (l : List (List Value)) (e : L[idx]? = some (rowT E sz v l)) (hs : a.eval s = v) (A : Option Addr) (new : List (List Value)) (k : Nat) (hx : a.eval x = .slice A new.length k)
    (hnew : ∀ x ∈ new, x.length = sz) (hone : ∀ x ∈ new, ∀ u ∈ x, u.oneCell' = true) (hat : RowsAt W A new) (hlen : l.length + new.length ≤ 1099511)
    (h : ∀ A' c' w', St w w' (L.set idx (rowT E sz (.slice A' (l ++ new).length c') (l ++ new))) → wpList Tryd.prog ops Q rest (a.put o.dst (.slice A' (l ++ new).length c')) w') :
    wpList Tryd.prog ops Q (o :: rest) a W := by
  obtain ⟨i, hi, hz0, hz1, hz2⟩ := info_parts hinfo
  refine app_rows E S sz by_ z i W hgd s x ho hS hi hz0 hz1 hz2 hzs hpos hb100 0 v l hs (hst.row idx E sz v l e) A new k hx hnew hone hat hlen (Nat.zero_le _) ?_
  intro v' w' h1 h2 h3
  obtain ⟨A', c', rfl⟩ := h1.form
  refine h A' c' w' (hst.grow idx E sz v l e h2 _ _ h1 ?_)
  rcases h3 with h3 | h3
  · exact .inl h3
  · exact .inr ⟨_, Nat.le_refl _, h3⟩
theorem step_St {ops : Array Oper} {o : Oper} {a : Act} {K : Act → World → Prop} {Q : Exit → Act → World → Prop} {EE : Prop} {w W : World} {L : List Thing} (hst : St w W L) (idx : Nat) (E S : TypeId) (sz by_ : Nat) (z : Value) (hgd : o.guard = none) (s x : Operand)
    (ho : o.op = .call { callee := .builtin .append, args := #[s, x], argTypes := #[S, S] })
    (hS : Tryd.prog.underlying S = some (.slice E)) (hinfo : (Tryd.prog.info? E).map (fun i => (i.zero, i.size, i.bytes)) = some (some z, sz, by_)) (hzs : z.cells.size = sz) (hpos : 0 < sz) (hb100 : by_ ≤ 128)
    (v : Value) (l : List (List Value)) (e : L[idx]? = some (rowT E sz v l)) (hs : a.eval s = v) (A : Option Addr) (new : List (List Value)) (k : Nat) (hx : a.eval x = .slice A new.length k)
    (hnew : ∀ x ∈ new, x.length = sz) (hone : ∀ x ∈ new, ∀ u ∈ x, u.oneCell' = true) (hat : RowsAt W A new) (hlen : l.length + new.length ≤ 1099511)
    (h : ∀ A' c' w', St w w' (L.set idx (rowT E sz (.slice A' (l ++ new).length c') (l ++ new))) → K (a.put o.dst (.slice A' (l ++ new).length c')) w') :
    if Region.wanted o (yielded ops a.tmps) = true then Oper.wp Tryd.prog o a W K Q else EE := by
  obtain ⟨i, hi, hz0, hz1, hz2⟩ := info_parts hinfo
  refine step_app_rows E S sz by_ z i W hgd s x ho hS hi hz0 hz1 hz2 hzs hpos hb100 0 v l hs (hst.row idx E sz v l e) A new k hx hnew hone hat hlen (Nat.zero_le _) ?_
  intro v' w' h1 h2 h3
  obtain ⟨A', c', rfl⟩ := h1.form
  refine h A' c' w' (hst.grow idx E sz v l e h2 _ _ h1 ?_)
  rcases h3 with h3 | h3
  · exact .inl h3
  · exact .inr ⟨_, Nat.le_refl _, h3⟩
end Go.Proofs.YtggfmimnmpanbaaDoor
