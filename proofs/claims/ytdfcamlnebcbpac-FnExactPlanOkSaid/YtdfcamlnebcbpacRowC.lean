/- What this text proves: rows of structs appended at once to a slice of the call's own. -/
import Derived.Test.YtdfcamlnebcbpacRowG
import Derived.Test.YtdfcamlnebcbpacGro
import Derived.Maps.AppendAt
namespace Go.Proofs.Ytdfcamlnebcbpac
open Go.ChangeShapes Go.WideShapes Go.ChangeAt Go.RowKit
set_option linter.unusedVariables false

/-- Rows of structs that are there to be read. -/
def RowsAt (w : World) (A : Option Addr) (l : List (List Value)) : Prop :=
  l.length = 0 ∨ ∃ b off, A = some ⟨b, off, none⟩ ∧ ∀ j u, l.flatten[j]? = some u → w.cell? ⟨b, off + j, none⟩ = some u
theorem flat_len {sz : Nat} : ∀ {l : List (List Value)}, (∀ x ∈ l, x.length = sz) → l.flatten.length = l.length * sz := by
  intro l
  induction l with
  | nil => intro _; simp
  | cons a r ih =>
    intro h
    rw [List.flatten_cons, List.length_append, h a List.mem_cons_self, ih (fun x hx => h x (List.mem_cons_of_mem _ hx)), List.length_cons, Nat.succ_mul]
    omega
theorem run_rows (E S : TypeId) (sz by_ : Nat) (z : Value) (i : TypeInfo) (w : World) (ty : TypeId)
    (hS : Try.prog.underlying S = some (.slice E)) (hi : Try.prog.info? E = some i) (hz : i.zero = some z) (hsz : i.size = sz) (hby : i.bytes = by_) (hzs : z.cells.size = sz) (hpos : 0 < sz) (hb100 : by_ ≤ 128)
    (base : Nat) (v : Value) (l : List (List Value)) (hown : OwnR E sz w base v l) (A : Option Addr) (new : List (List Value)) (k : Nat) (hnew : ∀ x ∈ new, x.length = sz) (hone : ∀ x ∈ new, ∀ u ∈ x, u.oneCell' = true) (hat : RowsAt w A new)
    (hlen : l.length + new.length ≤ 1099511) (hbase : base ≤ w.heap.size) :
    ∃ v' w', (Builtin.append_ #[S, S] ty #[v, .slice A new.length k]).run Try.prog w = .ok v' w' ∧ OwnR E sz w' base v' (l ++ new) ∧ w.grownBy w' v.ownBlock ∧ (v'.ownBlock = v.ownBlock ∨ v'.ownBlock = some w.heap.size) := by
  have hbm : (l.length + new.length) * by_ ≤ 1099511 * 128 := Nat.mul_le_mul hlen hb100
  have done : ∀ (a : Addr), (∀ j u, new.flatten[j]? = some u → w.cell? (a.add j) = some u) → ∃ v' w', (Builtin.append_ #[S, S] ty #[v, .slice (some a) new.length k]).run Try.prog w = .ok v' w' ∧ OwnR E sz w' base v' (l ++ new) ∧ w.grownBy w' v.ownBlock ∧ (v'.ownBlock = v.ownBlock ∨ v'.ownBlock = some w.heap.size) := by
    intro a ha
    obtain ⟨v', w', h1, h2, h3, _, h4⟩ := run_append_own_at (P := Try.prog) w base S ty E i z sz by_ hS hi hz hsz hby hzs hpos v l.length l.flatten hown.1 a new.length k new.flatten (flat_len hnew) ha (fun u hu => by
      obtain ⟨x, hx, hux⟩ := List.mem_flatten.1 hu
      exact hone x hx u hux) (by unfold maxLen; omega) (by omega) hbase
    refine ⟨v', w', h1, ⟨?_, fun y hy => ?_⟩, h3, h4⟩
    · rw [List.length_append, List.flatten_append]
      exact h2
    · rcases List.mem_append.1 hy with hy | hy
      · exact hown.2 y hy
      · exact hnew y hy
  rcases hat with h0 | ⟨b, off, rfl, hc⟩
  · obtain rfl : new = [] := List.eq_nil_of_length_eq_zero h0
    cases A with
    | some a => exact done a (fun j u hu => by simp at hu)
    | none =>
      refine ⟨v, w, ?_, by rw [List.append_nil]; exact hown, ⟨rfl, rfl, rfl, Nat.le_refl _, fun _ _ _ => rfl⟩, .inl rfl⟩
      have hcap : ∃ A0 c0, v = .slice A0 l.length c0 ∧ l.length ≤ c0 := by
        rcases hown.1.2 with ⟨rfl, hn⟩ | ⟨g, cap, cur, rfl, _, _, hle, _⟩
        · exact ⟨none, 0, by rw [hn], by omega⟩
        · exact ⟨_, _, rfl, hle⟩
      obtain ⟨A0, c0, rfl, hle⟩ := hcap
      cases A0 with
      | none => simp [Builtin.append_, run_underlying hS, sizeOf, typeInfo, hi, Builtin.lenOf, Builtin.firstCells, hle]
      | some a0 => simp [Builtin.append_, run_underlying hS, sizeOf, typeInfo, hi, Builtin.lenOf, Builtin.firstCells, hle, storeCells]
  · refine done _ (fun j u hu => ?_)
    rw [show (⟨b, off, none⟩ : Addr).add j = ⟨b, off + j, none⟩ from by unfold Addr.add; split <;> simp_all]
    exact hc j u hu

theorem app_rows {ops : Array Oper} {rest : List Oper} {o : Oper} {a : Act} {Q : Exit → Act → World → Prop} (E S : TypeId) (sz by_ : Nat) (z : Value) (i : TypeInfo) (w : World) (hgd : o.guard = none) (s x : Operand)
    (ho : o.op = .call { callee := .builtin .append, args := #[s, x], argTypes := #[S, S] })
    (hS : Try.prog.underlying S = some (.slice E)) (hi : Try.prog.info? E = some i) (hz : i.zero = some z) (hsz : i.size = sz) (hby : i.bytes = by_) (hzs : z.cells.size = sz) (hpos : 0 < sz) (hb100 : by_ ≤ 128)
    (base : Nat) (v : Value) (l : List (List Value)) (hs : a.eval s = v) (hown : OwnR E sz w base v l) (A : Option Addr) (new : List (List Value)) (k : Nat) (hx : a.eval x = .slice A new.length k)
    (hnew : ∀ x ∈ new, x.length = sz) (hone : ∀ x ∈ new, ∀ u ∈ x, u.oneCell' = true) (hat : RowsAt w A new)
    (hlen : l.length + new.length ≤ 1099511) (hbase : base ≤ w.heap.size)
    (h : ∀ v' w', OwnR E sz w' base v' (l ++ new) → w.grownBy w' v.ownBlock → (v'.ownBlock = v.ownBlock ∨ v'.ownBlock = some w.heap.size) → wpList Try.prog ops Q rest (a.put o.dst v') w') :
    wpList Try.prog ops Q (o :: rest) a w := by
  refine wpList_plain hgd fun _ hK => ?_
  obtain ⟨v', w', hr, h2, h3, h4⟩ := run_rows E S sz by_ z i w o.type hS hi hz hsz hby hzs hpos hb100 base v l hown A new k hnew hone hat hlen hbase
  unfold Oper.wp execOp
  simp only [ho, resolve, invoke, builtin, Sem.run_bind, Sem.run_pure, Result.andThen_ok, List.map_toArray, List.map_cons, List.map_nil, hs, hx, hr]
  exact hK _ _ (h v' w' h2 h3 h4)
theorem OwnR.empty {E : TypeId} {sz : Nat} (w : World) (base : Nat) (hb : base ≤ w.heap.size) : OwnR E sz (w.alloc (.cells #[] E)) base (.slice (some ⟨w.heap.size, 0, none⟩) 0 0) [] :=
  ⟨World.ownsRow_lit w #[] 0 hb (by decide) (by simp), fun _ h => by cases h⟩
theorem OwnR.grown {E : TypeId} {sz : Nat} {W W' : World} {b : Nat} {v : Value} {l : List (List Value)} {row : Option Nat} (h : OwnR E sz W b v l) (hg : W.grownBy W' row) (hne : ∀ k, v.ownBlock = some k → row ≠ some k) : OwnR E sz W' b v l := by
  refine ⟨World.ownsRow.kept (row := row) h.1 hg ?_, h.2⟩
  cases hv : v.ownBlock with
  | none => exact .inl rfl
  | some k => exact .inr (fun e => hne k hv e.symm)
theorem OwnR.away {E : TypeId} {sz : Nat} {W : World} {b g j : Nat} {v : Value} {l : List (List Value)} (h : OwnR E sz W b v l) (hg : v.ownBlock ≠ some g) (u : Value) : OwnR E sz (W.setCell ⟨g, j, none⟩ u) b v l :=
  h.grown (row := some g) ⟨rfl, rfl, rfl, by simp, fun k hk hne => Below.heap_setCell W _ u k (fun e => hne (by rw [e]))⟩ (fun k hk e => hg (by rw [hk, e]))
theorem OwnR.cellsAway {E : TypeId} {sz : Nat} {b g : Nat} {v : Value} {l : List (List Value)} (hg : v.ownBlock ≠ some g) : ∀ (us : List Value) (o : Nat) (W : World), OwnR E sz W b v l → OwnR E sz (W.setCells g o us) b v l := by
  intro us
  induction us with
  | nil => intro o W h; exact h
  | cons u r ih => intro o W h; exact ih _ _ (h.away hg u)
theorem OwnR.upto {E : TypeId} {sz : Nat} {W : World} {b : Nat} {v : Value} {l : List (List Value)} (h : OwnR E sz W b v l) : ∀ k, v.ownBlock = some k → b ≤ k ∧ k < W.heap.size := World.ownsRow.lt h.1
end Go.Proofs.Ytdfcamlnebcbpac
