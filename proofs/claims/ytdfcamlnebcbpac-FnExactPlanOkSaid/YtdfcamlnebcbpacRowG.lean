/- What this text proves: a list of structs in a slice of the call's own: what lies there, and what an append of one struct makes of it. -/
import Derived.Test.YtdfcamlnebcbpacLaw
import Derived.WalkKit
import Derived.LoopTactic
import Derived.IntWalk
import Derived.OwnWalk
import Derived.Laws.AppendOwn
import Derived.Laws.OwnMore
import Derived.Lib.Hide
namespace Go.Proofs.Ytdfcamlnebcbpac
open Go.ChangeShapes Go.WideShapes Go.ChangeAt Go.RowKit
set_option linter.unusedVariables false

/-- A slice of structs of sz cells each, of type E, that holds l in a block of its own, from block 'base' on. -/
def OwnR (E : TypeId) (sz : Nat) (w : World) (base : Nat) (v : Value) (l : List (List Value)) : Prop := w.ownsRow base E sz v l.length l.flatten ∧ ∀ x ∈ l, x.length = sz

theorem flat_at (sz : Nat) : ∀ (l : List (List Value)), (∀ x ∈ l, x.length = sz) → ∀ (k : Nat) (hk : k < l.length) (i : Nat) (hi : i < sz), l.flatten[k * sz + i]? = l[k][i]? := by
  intro l
  induction l with
  | nil => intro _ k hk; exact absurd hk (Nat.not_lt_zero _)
  | cons a r ih =>
    intro h k hk i hi
    have ha := h a List.mem_cons_self
    rw [List.flatten_cons]
    cases k with
    | zero =>
      rw [Nat.zero_mul, Nat.zero_add, List.getElem?_append_left (by omega)]
      rfl
    | succ k =>
      have e : (k + 1) * sz + i = sz + (k * sz + i) := by rw [Nat.succ_mul]; omega
      rw [e, List.getElem?_append_right (by omega), show sz + (k * sz + i) - a.length = k * sz + i by omega]
      exact ih (fun x hx => h x (List.mem_cons_of_mem _ hx)) k (by simpa using hk) i hi

theorem OwnR.more {E : TypeId} {sz : Nat} {w w' : World} {base : Nat} {v : Value} {l : List (List Value)} (h : OwnR E sz w base v l) (hb : Below w.heap.size w w') : OwnR E sz w' base v l := by
  refine ⟨World.ownsRow.kept (row := none) h.1 ⟨hb.os, hb.tape, hb.output, hb.size, fun k hk _ => hb.block k hk⟩ ?_, h.2⟩
  by_cases he : v.ownBlock = none
  · exact .inl he
  · exact .inr he
theorem OwnR.nil (E : TypeId) (sz : Nat) (w : World) (base : Nat) : OwnR E sz w base (.slice none 0 0) [] := ⟨World.ownsRow_nil w base _ sz, fun _ h => by cases h⟩
theorem OwnR.form {E : TypeId} {sz : Nat} {w : World} {base : Nat} {v : Value} {l : List (List Value)} (h : OwnR E sz w base v l) : ∃ A c, v = .slice A l.length c := by
  rcases h.1.2 with ⟨rfl, hn⟩ | ⟨g, cap, cur, rfl, _⟩
  · exact ⟨none, 0, by rw [hn]⟩
  · exact ⟨_, cap, rfl⟩
theorem OwnR.lower {E : TypeId} {sz : Nat} {w : World} {base base' : Nat} {v : Value} {l : List (List Value)} (h : OwnR E sz w base v l) (hb : base' ≤ base) : OwnR E sz w base' v l := by
  refine ⟨⟨h.1.1, ?_⟩, h.2⟩
  rcases h.1.2 with h1 | ⟨g, cap, cur, h1, h2, h3⟩
  · exact .inl h1
  · exact .inr ⟨g, cap, cur, h1, Nat.le_trans hb h2, h3⟩
theorem OwnR.rows {E : TypeId} {sz : Nat} {w : World} {base : Nat} {v : Value} {l : List (List Value)} (h : OwnR E sz w base v l) (hn : 0 < l.length) :
    ∃ g cap, v = .slice (some ⟨g, 0, none⟩) l.length cap ∧ base ≤ g ∧ g < w.heap.size ∧ (∀ k (hk : k < l.length) i (hi : i < sz), w.cell? ⟨g, k * sz + i, none⟩ = l[k][i]?) ∧ (∀ j, w.frozen? ⟨g, j, none⟩ = false) := by
  have h1 := h.1
  rcases h1.2 with ⟨_, h0⟩ | ⟨g, cap, cur, hv, hb, hh, _⟩
  · omega
  · have hg : g < w.heap.size := by
      rcases Nat.lt_or_ge g w.heap.size with h5 | h5
      · exact h5
      · rw [Array.getElem?_eq_none h5] at hh; cases hh
    subst hv
    refine ⟨g, cap, rfl, hb, hg, fun k hk i hi => ?_, fun j => World.ownsRow.frozenAt h1 j⟩
    have hlt : k * sz + i < l.length * sz := by
      have := Nat.mul_le_mul_right sz (show k + 1 ≤ l.length from hk)
      rw [Nat.succ_mul] at this
      omega
    rw [World.ownsRow.cellAt h1 _ hlt]
    exact flat_at sz l h.2 k hk i hi

/-- An append of one struct. -/
theorem app_row {ops : Array Oper} {rest : List Oper} {o : Oper} {a : Act} {Q : Exit → Act → World → Prop} (E S : TypeId) (sz by_ : Nat) (z : Value) (i : TypeInfo) (w : World) (hgd : o.guard = none) (s x : Operand)
    (ho : o.op = .call { callee := .builtin .append, args := #[s, x], argTypes := #[S, S] })
    (hS : Try.prog.underlying S = some (.slice E)) (hi : Try.prog.info? E = some i) (hz : i.zero = some z) (hsz : i.size = sz) (hby : i.bytes = by_) (hzs : z.cells.size = sz) (hpos : 0 < sz) (hb100 : by_ ≤ 128)
    (base : Nat) (v : Value) (l : List (List Value)) (t : List Value) (ht : t.length = sz) (hone : ∀ u ∈ t, u.oneCell' = true) (hs : a.eval s = v) (hown : OwnR E sz w base v l) (T : TypeId) (c : Nat)
    (hx : a.eval x = .slice (some ⟨w.heap.size, 0, none⟩) 1 c)
    (hlen : l.length ≤ 1099511) (hbase : base ≤ w.heap.size)
    (h : ∀ v' w', OwnR E sz w' base v' (l ++ [t]) → w.grownBy w' v.ownBlock → Below base w w' → w.heap.size ≤ w'.heap.size → wpList Try.prog ops Q rest (a.put o.dst v') w') :
    wpList Try.prog ops Q (o :: rest) a (w.alloc (.cells t.toArray T)) := by
  have hown' : (w.alloc (.cells t.toArray T)).ownsRow base E sz v l.length l.flatten := World.ownsRow.alloc hown.1 _
  have hbm : (l.length + 1) * by_ ≤ (1099511 + 1) * 128 := Nat.mul_le_mul (by omega) hb100
  refine wpList_append_own _ hgd s x S ho base E i z sz by_ hS hi hz hsz hby hzs hpos v l.length l.flatten hs hown'
    ⟨w.heap.size, 0, none⟩ 1 c t hx (by omega) (fun j u hu => ?_) hone (by unfold maxLen; omega) (by omega) (by simp; omega) (fun v' w' hown2 hg _ => ?_)
  · rw [show (⟨w.heap.size, 0, none⟩ : Addr).add j = ⟨w.heap.size, j, none⟩ from by unfold Addr.add; split <;> simp_all]
    rw [World.cell?_alloc_at _ _ _ _ rfl]
    simpa using hu
  · have hz2 : w.heap.size ≤ w'.heap.size := by have := hg.size; simp at this; omega
    refine h v' w' ⟨?_, ?_⟩ ?_ ?_ hz2
    · rw [List.length_append, List.flatten_append]
      simpa using hown2
    · intro y hy
      rcases List.mem_append.1 hy with hy | hy
      · exact hown.2 y hy
      · rw [List.mem_singleton.1 hy]; exact ht
    · refine ⟨hg.os, hg.tape, hg.output, hz2, fun k hk hne => ?_⟩
      rw [hg.block k (by simp; omega) hne]
      exact Below.heap_alloc w _ k hk
    · exact ((Below.refl base w).alloc hbase _).grown hg (by simp; omega) fun k hk => (World.ownsRow.lt hown' k hk).1
end Go.Proofs.Ytdfcamlnebcbpac
