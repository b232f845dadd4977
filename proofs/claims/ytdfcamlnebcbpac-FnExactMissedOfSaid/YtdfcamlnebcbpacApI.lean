/- What this text proves: an append of one number to a list of the call's own; the bytes that a conversion of a string has made, to be read. -/
import Derived.Test.YtdfcamlnebcbpacInS
import Derived.Test.YtdfcamlnebcbpacSt
import Derived.Test.YtdfcamlnebcbpacBuf
import Derived.Lib.ConvBytes
namespace Go.Proofs.Ytdfcamlnebcbpac
open Go.ChangeShapes Go.WideShapes Go.ChangeAt Go.RowKit
set_option linter.unusedVariables false

theorem app_num {ops : Array Oper} {rest : List Oper} {o : Oper} {a : Act} {Q : Exit → Act → World → Prop} (w : World) (hgd : o.guard = none) (s x : Operand)
    (ho : o.op = .call { callee := .builtin .append, args := #[s, x], argTypes := #[38, 38] })
    (base : Nat) (v : Value) (l : List Int) (t : Int) (hs : a.eval s = v) (hown : OwnR 3 1 w base v (l.map inC)) (T : TypeId) (c : Nat)
    (hx : a.eval x = .slice (some ⟨w.heap.size, 0, none⟩) 1 c)
    (hlen : l.length ≤ 1099510) (hbase : base ≤ w.heap.size)
    (h : ∀ v' w', OwnR 3 1 w' base v' ((l ++ [t]).map inC) → w.grownBy w' v.ownBlock → (v'.ownBlock = v.ownBlock ∨ ∃ k, w.heap.size ≤ k ∧ v'.ownBlock = some k) → wpList Try.prog ops Q rest (a.put o.dst v') w') :
    wpList Try.prog ops Q (o :: rest) a (w.alloc (.cells #[.int .i64 t] T)) := by
  obtain ⟨i, hi, hz0, hz1, hz2⟩ := info_parts info_int
  have ha : Below w.heap.size w (w.alloc (.cells #[.int .i64 t] T)) := (Below.refl _ _).alloc (Nat.le_refl _) _
  refine app_rows 3 38 1 8 (.int .i64 0) i _ hgd s x ho Try.underlying38 hi hz0 hz1 hz2 rfl (by decide) (by decide) base v (l.map inC) hs (OwnR.more hown ha) (some ⟨w.heap.size, 0, none⟩) [inC t] c hx (fun y hy => by rw [List.mem_singleton.1 hy]; rfl) (fun y hy u hu => by rw [List.mem_singleton.1 hy] at hu; rw [List.mem_singleton.1 hu]; rfl) (.inr ⟨w.heap.size, 0, rfl, fun j u hu => by
    rw [Nat.zero_add, World.cell?_alloc_at _ _ _ _ rfl]
    simpa using hu⟩) (by simp; omega) (by simp; omega) ?_
  intro v' w' h1 h2 h3
  refine h v' w' (by rw [List.map_append]; exact h1) (grown_trans (grown_of ha _) h2) ?_
  rcases h3 with h3 | h3
  · exact .inl h3
  · exact .inr ⟨_, by simp, h3⟩
theorem cvt_new (s : ByteArray) : ∃ (cap : World → Nat) (w1 : World → World), ∀ w,
    (convert 9 170 (.string s)).run Try.prog w = .ok (.slice (some ⟨w.heap.size, 0, none⟩) s.size (cap w)) (w1 w) ∧ Below w.heap.size w (w1 w) ∧ (seeT w.heap.size (s.data.toList.map cellB)).P (w1 w) := by
  refine ⟨_, _, fun w => ⟨Lib.run_convert_string_bytes w 9 170 5 s Try.underlying9 Try.underlying170 Try.underlying5, ⟨?_, ?_, ?_, ?_, ?_⟩, ?_, ?_⟩⟩
  · rfl
  · rfl
  · rfl
  · rw [Lib.bytesWorld_size]; omega
  · intro k hk
    exact Lib.bytesWorld_at_old w _ s k hk
  · rw [Lib.bytesWorld_size]; omega
  · intro j hj
    have hj1 : j < s.data.toList.length := by simpa using hj
    have hj' : j < s.size := by simpa using hj
    have h := Lib.bytesWorld_cell w 5 s j hj'
    rw [List.getD_eq_getElem?_getD, List.getElem?_eq_getElem hj1] at h
    rw [List.getElem_map]
    exact h
end Go.Proofs.Ytdfcamlnebcbpac
