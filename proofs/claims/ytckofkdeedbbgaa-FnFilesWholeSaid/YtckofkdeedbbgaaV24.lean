/- What this text proves: the parts Fi, TxC of the proof, each under its own words. -/
import Derived.Test.YtckofkdeedbbgaaV23
import Derived.Test.YtckofkdeedbbgaaV15
import Derived.Test.YtckofkdeedbbgaaV06
import Derived.Lib.SliceRun
/- What this text proves: receivers of files as things that lie apart: their list; the laws' own functions over them. -/
namespace Go.Proofs.Ytckofkdeedbbgaa
open Go.ChangeShapes Go.WideShapes Go.ChangeAt Go.RowKit
set_option linter.unusedVariables false

abbrev fiV (f : Int) (s : Int) (c : Int) (v : Value) : Value := .agg #[.int .i64 f, .int .i64 s, .int .i64 c, v]
abbrev fiL (f : Int) (s : Int) (c : Int) (v : Value) : List Value := [.int .i64 f, .int .i64 s, .int .i64 c, v]
abbrev Cells4Fi (W : World) (g : Nat) (x y z u : Value) : Prop := W.cell? ⟨g, 0, none⟩ = some x ∧ W.cell? ⟨g, 1, none⟩ = some y ∧ W.cell? ⟨g, 2, none⟩ = some z ∧ W.cell? ⟨g, 3, none⟩ = some u
theorem Box.fourFi {W : World} {g : Nat} {x y z u : Value} (h : Box W g [x, y, z, u]) : Cells4Fi W g x y z u := ⟨h.cell 0 (by simp), h.cell 1 (by simp), h.cell 2 (by simp), h.cell 3 (by simp)⟩
/-- The blocks of its list. -/
def blkFi (v : Value) (k : Nat) : Prop := ∃ f s c u, v = fiV f s c u ∧ u.ownBlock = some k
theorem blkFi_iff {f : Int} {s : Int} {c : Int} {u : Value} {k : Nat} : blkFi (fiV f s c u) k ↔ u.ownBlock = some k := by
  constructor
  · rintro ⟨f', s', c', u', e, h⟩
    simp only [fiV, Value.agg.injEq, Array.mk.injEq, List.cons.injEq, and_true] at e
    obtain ⟨e0, e1, e2, e3⟩ := e
    subst e3
    exact h
  · intro h
    exact ⟨f, s, c, u, rfl, h⟩
/-- A struct with a list of its own. -/
def fiT (v : Value) (f : Int) (s : Int) (c : Int) (l : List ByteArray) : Thing where
  F := blkFi v
  P := fun W => ∃ A q, v = fiV f s c (.slice A l.length q) ∧ LsO 1 W 0 (.slice A l.length q) (l.map txC)
  lt := fun W h k hk => by
    obtain ⟨A, q, rfl, h1⟩ := h
    exact (h1.up k (blkFi_iff.1 hk)).2
  keep := fun W W' S h ht hne => by
    obtain ⟨A, q, rfl, h1⟩ := h
    exact ⟨A, q, rfl, LsO.touch h1 ht (fun k hk => hne k (blkFi_iff.2 hk))⟩
/-- A struct whose list bears n marks from M on. -/
def fiM (v : Value) (M n : Nat) : Thing where
  F := blkFi v
  P := fun W => ∃ f s c A q, v = fiV f s c (.slice A n q) ∧ LsO 1 W 0 (.slice A n q) ((List.range n).map (mkTx M))
  lt := fun W h k hk => by
    obtain ⟨f, s, c, A, q, rfl, h1⟩ := h
    exact (h1.up k (blkFi_iff.1 hk)).2
  keep := fun W W' S h ht hne => by
    obtain ⟨f, s, c, A, q, rfl, h1⟩ := h
    exact ⟨f, s, c, A, q, rfl, LsO.touch h1 ht (fun k hk => hne k (blkFi_iff.2 hk))⟩

end Go.Proofs.Ytckofkdeedbbgaa
/- What this text proves: the contract of slices.Clone over lists of texts. -/
namespace Go.Proofs.Ytckofkdeedbbgaa
open Go.ChangeShapes Go.WideShapes Go.ChangeAt Go.RowKit
set_option linter.unusedVariables false


set_option maxHeartbeats 1000000 in
theorem clone_txs (A : Option Addr) (l : List ByteArray) (k : Nat) (hl : l.length ≤ 1099511) (w : World) (h : LsI 1 w w.heap.size A (l.map txC)) :
    Calls Try.prog 140 #[.slice A l.length k] w fun e w' => ∃ A1 c1, e = .returned (.slice A1 l.length c1) ∧ OwnR 9 1 w' w.heap.size (.slice A1 l.length c1) (l.map txC) ∧ Below w.heap.size w w' := by
  have hq : ∀ (w : World) (a : Option Addr) (n c n' c' : Nat), (binOp .eql 65 (.slice a n c) (.slice none n' c')).run Try.prog w = .ok (.bool a.isNone) w := fun w a n c n' c' => Lib.run_eql_slice_nil w _ _ a n c n' c' Try.underlying65
  have HB := Lib.hid ((Below.refl _ w).alloc (Nat.le_refl _) (.cells #[] 9))
  have HE := Lib.hid (OwnR.empty (E := 9) (sz := 1) w w.heap.size (Nat.le_refl _))
  cases A with
  | none =>
    have h0 : l = [] := by
      rcases h with h0 | ⟨b, off, hA, _⟩
      · rw [List.length_map] at h0; exact List.eq_nil_of_length_eq_zero h0
      · cases hA
    subst h0
    clear h
    go_enter Try.func140, Try.ntmps140
    go_wp2
    go_ret
    exact ⟨none, 0, rfl, OwnR.nil _ _ _ _, Below.refl _ _⟩
  | some a =>
    have HI := Lib.hid ((h.more HB.out).rows (tx_len l))
    obtain ⟨i, hi, hz0, hz1, hz2⟩ := info_parts info_str
    have Hi := Lib.hid hi
    have Hz0 := Lib.hid hz0
    have Hz1 := Lib.hid hz1
    have Hz2 := Lib.hid hz2
    clear h hi hz0 hz1 hz2
    go_enter Try.func140, Try.ntmps140
    go_wp2_with (at_builtin; go_loud (refine app_rows 9 65 1 16 (.string ⟨#[]⟩) i _ rfl _ _ rfl Try.underlying65 Hi.out Hz0.out Hz1.out Hz2.out rfl (by decide) (by decide) w.heap.size (.slice (some ⟨w.heap.size, 0, none⟩) 0 0) [] rfl HE.out (some a) (l.map txC) k (by rw [List.length_map]; rfl) (tx_len l) (tx_one l) HI.out (by simpa using hl) (by simp) ?_))
    intro v w2 hown hg _
    replace hown : OwnR 9 1 w2 w.heap.size v (l.map txC) := hown
    obtain ⟨A2, c2, rfl⟩ := hown.form
    rw [List.length_map] at hown ⊢
    have HO := Lib.hid hown
    have HB2 := Lib.hid (HB.out.grown hg (by simp) fun k hk => (World.ownsRow.lt HE.out.1 k hk).1)
    clear hown hg
    go_wp2
    go_ret
    exact ⟨_, _, rfl, HO.out, HB2.out⟩
end Go.Proofs.Ytckofkdeedbbgaa
