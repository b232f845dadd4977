/- What this text proves: the append of one number in a drawn region. -/
import Derived.Test.YtjcdekonidekcagApI
import Derived.Test.YtjcdekonidekcagStR
import Derived.Test.YtjcdekonidekcagSt
namespace Go.Proofs.Ytjcdekonidekcag
open Go.ChangeShapes Go.WideShapes Go.ChangeAt Go.RowKit
set_option linter.unusedVariables false
theorem step_app_num {ops : Array Oper} {o : Oper} {a : Act} {K : Act → World → Prop} {Q : Exit → Act → World → Prop} {EE : Prop} (w : World) (hgd : o.guard = none) (s x : Operand)
    (ho : o.op = .call { callee := .builtin .append, args := #[s, x], argTypes := #[22, 22] })
    (base : Nat) (v : Value) (l : List Int) (t : Int) (hs : a.eval s = v) (hown : OwnR 3 1 w base v (l.map inC)) (g c : Nat)
    (hx : a.eval x = .slice (some ⟨g, 0, none⟩) 1 c) (hg : w.cell? ⟨g, 0, none⟩ = some (.int .i64 t))
    (hlen : l.length ≤ 1099510) (hbase : base ≤ w.heap.size)
    (h : ∀ v' w', OwnR 3 1 w' base v' ((l ++ [t]).map inC) → w.grownBy w' v.ownBlock → (v'.ownBlock = v.ownBlock ∨ ∃ k, w.heap.size ≤ k ∧ v'.ownBlock = some k) → K (a.put o.dst v') w') :
    if Region.wanted o (yielded ops a.tmps) = true then Oper.wp Try.prog o a w K Q else EE := by
  obtain ⟨i, hi, hz0, hz1, hz2⟩ := info_parts info_int
  refine step_app_rows 3 22 1 8 (.int .i64 0) i w hgd s x ho Try.underlying22 hi hz0 hz1 hz2 rfl (by decide) (by decide) base v (l.map inC) hs hown (some ⟨g, 0, none⟩) [inC t] c hx (fun y hy => by rw [List.mem_singleton.1 hy]; rfl) (fun y hy u hu => by rw [List.mem_singleton.1 hy] at hu; rw [List.mem_singleton.1 hu]; rfl) (.inr ⟨g, 0, rfl, fun j u hu => by
    cases j with
    | zero =>
      rw [show u = .int .i64 t from by simpa [inC] using hu.symm]
      exact hg
    | succ j => cases (show (none : Option Value) = some u from hu)⟩) (by simp; omega) hbase ?_
  intro v' w' h1 h2 h3
  refine h v' w' (by rw [List.map_append]; exact h1) h2 ?_
  rcases h3 with h3 | h3
  · exact .inl h3
  · exact .inr ⟨_, Nat.le_refl _, h3⟩
end Go.Proofs.Ytjcdekonidekcag
