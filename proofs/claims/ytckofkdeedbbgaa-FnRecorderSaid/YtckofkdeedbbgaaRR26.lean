/- What this text proves: the parts TkM of the proof, each under its own words. -/
import Derived.Test.YtckofkdeedbbgaaRR17
import Derived.Test.YtckofkdeedbbgaaRR19
import Derived.ChangeKeysEq
import Derived.Laws.Slices
/- What this text proves: what TakeRecords answers, as numbers and lists; the boxes of a walk over it; slices of lists of records. -/
namespace Go.Proofs.Ytckofkdeedbbgaa
open Go.ChangeShapes Go.WideShapes Go.ChangeAt Go.RowKit
set_option linter.unusedVariables false

/-- How many records TakeRecords takes. -/
noncomputable def tkrK (r : Int) (l : List Rc) (d : List Int) (n : Int) : Nat := open Classical in if RcrOk r l d ∧ 0 ≤ n then min n.toNat l.length else 0
theorem tkrK_yes {r : Int} {l : List Rc} {d : List Int} {n : Int} (h : RcrOk r l d) (hn : 0 ≤ n) : tkrK r l d n = min n.toNat l.length := by unfold tkrK; rw [if_pos ⟨h, hn⟩]
theorem tkrK_no {r : Int} {l : List Rc} {d : List Int} {n : Int} (h : ¬ (RcrOk r l d ∧ 0 ≤ n)) : tkrK r l d n = 0 := by unfold tkrK; rw [if_neg h]
theorem tkrK_le (r : Int) (l : List Rc) (d : List Int) (n : Int) : tkrK r l d n ≤ l.length := by
  unfold tkrK
  split
  · exact Nat.min_le_right _ _
  · exact Nat.zero_le _
/-- What TakeRecords leaves. -/
def TkrEnd (w : World) (e : Ending) (w' : World) (r : Int) (l : List Rc) (d : List Int) (K : Nat) : Prop :=
  ∃ v u, e = .returned (.tuple #[v, u]) ∧ OwnRo w' w.heap.size v r (l.drop K) d ∧ OwnRc w' w.heap.size u (l.take K) ∧ (∀ k, blkRo v k → u.ownBlock ≠ some k) ∧ Below w.heap.size w w'
/-- The boxes of the walk: the argument, the answer, the copy. -/
structure TR (w W : World) (gz : Nat) (zp zr zo : List Value) : Prop where
  below : Below w.heap.size w W
  bp : Box W w.heap.size zp
  br : Box W (w.heap.size + 1) zr
  bo : Box W gz zo
  hz : w.heap.size + 2 ≤ gz
theorem TR.more {w W W' : World} {gz : Nat} {zp zr zo : List Value} (h : TR w W gz zp zr zo) (hb : Below W.heap.size W W') : TR w W' gz zp zr zo := ⟨h.below.trans (hb.mono h.below.size), h.bp.more hb, h.br.more hb, h.bo.more hb, h.hz⟩
theorem TR.drew {w W : World} {gz : Nat} {zp zr zo : List Value} (h : TR w W gz zp zr zo) : TR w W.drew gz zp zr zo := h.more (Below.refl _ _).drew
theorem TR.alloc {w W : World} {gz : Nat} {zp zr zo : List Value} (h : TR w W gz zp zr zo) (o : Obj) : TR w (W.alloc o) gz zp zr zo := h.more ((Below.refl _ _).alloc (Nat.le_refl _) o)
theorem TR.setO {w W : World} {gz : Nat} {zp zr zo : List Value} (h : TR w W gz zp zr zo) (j : Nat) (hj : j < zo.length) (u : Value) : TR w (W.setCell ⟨gz, j, none⟩ u) gz zp zr (zo.set j u) := by
  have := h.hz
  exact ⟨h.below.setCell (p := ⟨gz, j, none⟩) (by show w.heap.size ≤ gz; omega) u, h.bp.other (by omega) j u, h.br.other (by omega) j u, h.bo.set j hj u, h.hz⟩
theorem TR.fin {w W : World} {gz : Nat} {zp zr zo us : List Value} (h : TR w W gz zp zr zo) (hl : us.length = zr.length) : Below w.heap.size w (W.setCells (w.heap.size + 1) 0 us) ∧ Box (W.setCells (w.heap.size + 1) 0 us) (w.heap.size + 1) us :=
  ⟨below_setCells (by omega) us 0 _ h.below, h.br.all hl⟩
theorem OwnRo.cellsPast {W : World} {b g : Nat} {v : Value} {r : Int} {l : List Rc} {d : List Int} (hg : g < b) (us : List Value) (o : Nat) (h : OwnRo W b v r l d) : OwnRo (W.setCells g o us) b v r l d := by
  obtain ⟨A, c, A2, c2, rfl, h1, h2, h3⟩ := h.form
  exact ⟨A, c, A2, c2, rfl, LsO.cellsPast hg us o W h1, LsO.cellsPast hg us o W h2, h3⟩
theorem cut_rcs (A : Option Addr) (n c K : Nat) (hK : K ≤ n) (W : World) : (Instr.slice 28 (.slice A n c) (some (.int .i64 (K : Int))) none none).run Try.prog W = .ok (.slice (if c = K then A else A.map (·.add (K * 4))) (n - K) (c - K)) W := by
  have ht : Try.prog.underlying 28 = some (.slice 50) := Try.underlying28
  have he : Try.prog.elem 28 = 50 := by simp [Program.elem, ht]
  have hc : Try.prog.cellsOf 50 = 4 := by kernel_rfl
  obtain ⟨i, hi, _, _, _⟩ := info_parts info_rc
  rw [run_slice_l W 28 _ _ _ (by rw [he]; exact ht) .i64 _ (by omega) (by omega), he, run_sizeOf _ hi, hc]
  simp [Result.andThen, sliced]
theorem head_rcs (A : Option Addr) (n c K : Nat) (hK : K ≤ c) (W : World) : (Instr.slice 28 (.slice A n c) none (some (.int .i64 (K : Int))) none).run Try.prog W = .ok (.slice A K c) W := by
  have ht : Try.prog.underlying 28 = some (.slice 50) := Try.underlying28
  have he : Try.prog.elem 28 = 50 := by simp [Program.elem, ht]
  obtain ⟨i, hi, _, _, _⟩ := info_parts info_rc
  rw [run_slice_h W 28 _ _ _ (by rw [he]; exact ht) .i64 _ (by omega) (by omega), he, run_sizeOf _ hi]
  cases A with
  | none => simp [Result.andThen, sliced]
  | some a => simp [Result.andThen, sliced, Addr.add]
end Go.Proofs.Ytckofkdeedbbgaa
