/- What this text proves: the parts Pak, OpenP, RowG, Gro, RowC of the proof, each under its own words. -/
import Derived.Test.YtckofkdeedbbgaaNN00
import Derived.Laws.MakeOwn
import Derived.Deep.LoopGhost
import Derived.Lib.SmallJoins
import Derived.ChangeSlices
import Derived.WalkKit
import Derived.LoopTactic
import Derived.IntWalk
import Derived.OwnWalk
import Derived.Laws.AppendOwn
import Derived.Laws.OwnMore
import Derived.Lib.Hide
import Derived.Maps.AppendAt
/- What this text proves: the contracts of the laws' own functions over packers: their sizes, copies, comparisons and marks. -/
namespace Go.Proofs.Ytckofkdeedbbgaa
open Go.ChangeShapes Go.WideShapes Go.ChangeAt Go.RowKit
set_option linter.unusedVariables false

/-- A packer as a value; v: the slice of its Starts. -/
abbrev paV (c n : Int) (r : ByteArray) (v : Value) : Value := .agg #[.int .i64 c, .int .i64 n, .string r, v]
abbrev paL (c n : Int) (r : ByteArray) (v : Value) : List Value := [.int .i64 c, .int .i64 n, .string r, v]

/-- Numbers that are there to be read: the argument of a law. -/
def IntsAt (w : World) (B : Nat) (A : Option Addr) (l : List Int) : Prop :=
  l.length = 0 ∨ ∃ b off, A = some ⟨b, off, none⟩ ∧ b < B ∧ ∀ j (hj : j < l.length), w.cell? ⟨b, off + j, none⟩ = some (.int .i64 l[j])
theorem IntsAt.more {w w' : World} {B : Nat} {A : Option Addr} {l : List Int} (h : IntsAt w B A l) (hb : Below B w w') : IntsAt w' B A l := by
  rcases h with h | ⟨b, off, hA, hlt, hc⟩
  · exact .inl h
  · exact .inr ⟨b, off, hA, hlt, fun j hj => (hb.cell (p := ⟨b, off + j, none⟩) hlt).trans (hc j hj)⟩

theorem make_fullI (W : World) (n : Nat) (hn : n ≤ 1099511627776) :
    (Instr.makeSlice 24 (.int .i64 (n : Int)) (.int .i64 (n : Int))).run Try.prog W = .ok (.slice (some ⟨W.heap.size, 0, none⟩) n n) (W.alloc (.cells (madeCells (Value.int .i64 0).cells n) 3)) := by
  obtain ⟨i, hi, hz0, hz1, hz2⟩ := info_parts info_int
  have h := run_make (P := Try.prog) W 24 3 i (.int .i64 0) Try.underlying24 hi hz0 .i64 .i64 n n (by omega) (by omega) (by rw [hz2]; omega) (by omega)
  rw [hz1] at h
  simpa using h
theorem make_rowI (W : World) (n : Nat) (hn : n ≤ 1099511627776) : RowI (W.alloc (.cells (madeCells (Value.int .i64 0).cells n) 3)) W.heap.size W.heap.size n n (List.replicate n 0) := by
  have h := World.ownsRow_lit (base := W.heap.size) (e := 3) (size := 1) W (madeCells (Value.int .i64 0).cells n) n (Nat.le_refl _) (by unfold maxLen; omega) (by rw [size_madeCells]; omega)
  have e : (madeCells (Value.int .i64 0).cells n).toList = (List.replicate n (0 : Int)).map (Value.int .i64) := by
    rw [show (Value.int .i64 0).cells = #[Value.int .i64 0] from rfl, toList_madeCells_one, List.map_replicate]
  rw [e] at h
  exact h
theorem RowI.own {w : World} {base g n c : Nat} {m : List Int} (h : RowI w base g n c m) : OwnI w base (.slice (some ⟨g, 0, none⟩) n c) m := by
  unfold OwnI
  rw [h.len]
  exact h

set_option maxHeartbeats 2000000 in
theorem toI_any (A : Option Addr) (l : List Int) (c : Nat) (hl : l.length ≤ 1048576) (w : World) (h : IntsAt w w.heap.size A l) :
    Calls Try.prog 102 #[.slice A l.length c] w fun e w' => ∃ v, e = .returned v ∧ OwnI w' w.heap.size v l ∧ Below w.heap.size w w' := by
  have hmk := fun W => make_fullI W l.length (by omega)
  have HR0 := Lib.hid (make_rowI w l.length (by omega))
  have HB0 := Lib.hid ((Below.refl _ w).alloc (Nat.le_refl _) (.cells (madeCells (Value.int .i64 0).cells l.length) 3))
  have HI := Lib.hid (fun W (hb : Below w.heap.size w W) => h.more hb)
  clear h
  go_enter Try.func102, Try.ntmps102
  go_wp2
  clear hmk
  go_loopg [4] l.length (fun gh v4 wx => ∃ (k : Nat) (m : List Int), k ≤ l.length ∧ gh = l.length - k ∧ v4 = .int .i64 (k : Int) ∧ m.take k = l.take k ∧ RowI wx w.heap.size w.heap.size l.length l.length m ∧ Below w.heap.size w wx)
  case atStart => exact ⟨0, List.replicate l.length 0, by omega, rfl, rfl, rfl, HR0.out, HB0.out⟩
  case round =>
    obtain ⟨k, m, hk, rfl, rfl, htk, hrow, hbel⟩ := hrel
    have HTK := Lib.hid htk
    have HB := Lib.hid hbel
    clear htk
    by_cases hlt : k < l.length
    · have hd : decide (k < l.length) = true := by simp; omega
      have hd' : decide ((k : Int) < (l.length : Int)) = true := by simp; omega
      rcases HI.out _ hbel with h0 | ⟨b, off, rfl, hb, hc⟩
      · omega
      · have hck := hc k hlt
        have hml := hrow.len
        have hcell := hrow.cell k hlt
        have hf := hrow.frozen k
        have HST := Lib.hid (hrow.store k l[k])
        have HLK := Lib.hid (show (m.set k l[k]).take (k + 1) = l.take (k + 1) by
          rw [List.take_succ_eq_append_getElem (by rw [List.length_set]; omega), List.getElem_set_self, List.take_set_of_le (Nat.le_refl _), HTK.out, ← List.take_succ_eq_append_getElem hlt])
        obtain ⟨x, hx⟩ : ∃ x, l[k] = x := ⟨_, rfl⟩
        rw [hx] at hck HST HLK
        clear hc hx hbel
        go_wp2
        go_roundg (l.length - (k + 1))
        case measure => omega
        case rel => exact ⟨k + 1, _, by omega, rfl, by go_num, HLK.out, HST.out, HB.out.setCell (p := ⟨w.heap.size, k, none⟩) (Nat.le_refl _) _⟩
    · have hd : decide (k < l.length) = false := by simp; omega
      have hd' : decide ((k : Int) < (l.length : Int)) = false := by simp; omega
      have hml := hrow.len
      have HF := Lib.hid (show m = l by
        have h := HTK.out
        rw [List.take_of_length_le (by omega), List.take_of_length_le (by omega)] at h
        exact h)
      have HO := Lib.hid (show OwnI wr w.heap.size (.slice (some ⟨w.heap.size, 0, none⟩) l.length l.length) l by
        have ho := hrow.own
        rw [HF.out] at ho
        exact ho)
      clear hrow hml
      go_wp2
      go_ret
      exact ⟨_, rfl, HO.out, HB.out⟩
theorem szI_any (A : Option Addr) (n c L : Nat) (hn : n ≤ maxLen) (hL : L ≤ 1048576) (w : World) :
    Calls Try.prog 95 #[.slice A n c, .int .i64 (L : Int)] w fun e w' => e = .returned (.int .i64 (if n ≤ L then (L : Int) - (n : Int) else -1)) ∧ w = w' := by
  have hn' : n ≤ 9223372036854775807 := by unfold maxLen at hn; omega
  by_cases h : n ≤ L
  · rw [if_pos h]
    have hd0 : decide ((L : Int) - (n : Int) < 0) = false := by simp; omega
    go_enter Try.func95, Try.ntmps95
    go_wp2
    go_ret
    exact ⟨rfl, rfl⟩
  · rw [if_neg h]
    have hd0 : decide ((L : Int) - (n : Int) < 0) = true := by simp; omega
    go_enter Try.func95, Try.ntmps95
    go_wp2
    go_ret
    exact ⟨rfl, rfl⟩
end Go.Proofs.Ytckofkdeedbbgaa
/- What this text proves: a packer that is handed to a law, opened: its numbers, its Rest, and its Starts, which are there to be read. -/
namespace Go.Proofs.Ytckofkdeedbbgaa
open Go.ChangeShapes Go.WideShapes Go.ChangeAt Go.RowKit Go.Joins
set_option linter.unusedVariables false

theorem cells_int : Try.prog.cellsOf 3 = 1 := by kernel_rfl
theorem lt_of_cell {W : World} {p : Addr} {v : Value} (h : W.cell? p = some v) : p.block < W.heap.size := by
  rcases Nat.lt_or_ge p.block W.heap.size with h1 | h1
  · exact h1
  · simp [World.cell?, Array.getElem?_eq_none h1] at h
theorem ints_of_cells {W : World} {a : Addr} {len cap : Nat} {zs : List Int} (hl : len ≤ cap) (hz : zs.length = cap)
    (hcell : ∀ i, i < zs.length → W.cell? (a.add i) = some (.int .i64 (zs.getD i 0))) : IntsAt W W.heap.size (some a) (zs.take len) := by
  rcases Nat.eq_zero_or_pos len with h0 | h0
  · exact .inl (by rw [h0]; rfl)
  · obtain ⟨b, off, spot⟩ := a
    have hspot : spot = none := by simpa [Addr.add] using World.cell?_spot (hcell 0 (by omega))
    subst hspot
    have hadd : ∀ i, (⟨b, off, none⟩ : Addr).add i = ⟨b, off + i, none⟩ := fun i => by unfold Addr.add; split <;> simp_all
    refine .inr ⟨b, off, rfl, ?_, fun j hj => ?_⟩
    · have h := lt_of_cell (hcell 0 (by omega))
      rw [hadd] at h
      exact h
    · rw [List.length_take] at hj
      have h := hcell j (by omega)
      rw [hadd] at h
      rw [h]
      simp [List.getD_eq_getElem?_getD, show j < zs.length by omega]
section
variable {H : Type} {enc : TypeId × Value → H} {W : World} {base : Nat}
theorem open_starts {n : Nat} {v : Value} {y : DataW H × List MemPlace} (h : DataW.trod enc Try.prog W 0 (fun _ => true) true n 24 [v] = some y) :
    ∃ A l k, v = .slice A (List.length (α := Int) l) k ∧ l.length ≤ maxLen ∧ IntsAt W W.heap.size A l := by
  rcases open_ints Try.underlying24 Try.underlying3 cells_int h with ⟨hcs, _⟩ | ⟨a, len, cap, zs, hcs, _, hl, hm, hz, _, hcell, _⟩
  · simp at hcs
    exact ⟨none, [], 0, hcs, Nat.zero_le _, .inl rfl⟩
  · simp at hcs
    simp only [if_true] at hz
    refine ⟨some a, zs.take len, cap, ?_, ?_, ints_of_cells hl hz hcell⟩
    · rw [hcs, List.length_take, Nat.min_eq_left (by omega)]
    · rw [List.length_take]; omega
end
end Go.Proofs.Ytckofkdeedbbgaa
/- What this text proves: a list of structs in a slice of the call's own: what lies there, and what an append of one struct makes of it. -/
namespace Go.Proofs.Ytckofkdeedbbgaa
open Go.ChangeShapes Go.WideShapes Go.ChangeAt Go.RowKit
set_option linter.unusedVariables false

/-- A slice of structs of sz cells each, of type E, that holds l in a block of its own, from block 'base' on. -/
def OwnR (E : TypeId) (sz : Nat) (w : World) (base : Nat) (v : Value) (l : List (List Value)) : Prop := w.ownsRow base E sz v l.length l.flatten ∧ ∀ x ∈ l, x.length = sz

theorem flat_at (sz : Nat) : ∀ (l : List (List Value)), (∀ x ∈ l, x.length = sz) → ∀ (k : Nat) (hk : k < l.length) (i : Nat) (hi : i < sz), l.flatten[k * sz + i]? = l[k][i]? := by
  intro l
  induction l with
  | nil => intro _ k hk; exact absurd hk (Nat.not_lt_zero _)
  | cons a r ih =>
    intro h k hk i hi
    have ha := h a List.mem_cons_self
    rw [List.flatten_cons]
    cases k with
    | zero =>
      rw [Nat.zero_mul, Nat.zero_add, List.getElem?_append_left (by omega)]
      rfl
    | succ k =>
      have e : (k + 1) * sz + i = sz + (k * sz + i) := by rw [Nat.succ_mul]; omega
      rw [e, List.getElem?_append_right (by omega), show sz + (k * sz + i) - a.length = k * sz + i by omega]
      exact ih (fun x hx => h x (List.mem_cons_of_mem _ hx)) k (by simpa using hk) i hi

theorem OwnR.more {E : TypeId} {sz : Nat} {w w' : World} {base : Nat} {v : Value} {l : List (List Value)} (h : OwnR E sz w base v l) (hb : Below w.heap.size w w') : OwnR E sz w' base v l := by
  refine ⟨World.ownsRow.kept (row := none) h.1 ⟨hb.os, hb.tape, hb.output, hb.size, fun k hk _ => hb.block k hk⟩ ?_, h.2⟩
  by_cases he : v.ownBlock = none
  · exact .inl he
  · exact .inr he
theorem OwnR.nil (E : TypeId) (sz : Nat) (w : World) (base : Nat) : OwnR E sz w base (.slice none 0 0) [] := ⟨World.ownsRow_nil w base _ sz, fun _ h => by cases h⟩
theorem OwnR.form {E : TypeId} {sz : Nat} {w : World} {base : Nat} {v : Value} {l : List (List Value)} (h : OwnR E sz w base v l) : ∃ A c, v = .slice A l.length c := by
  rcases h.1.2 with ⟨rfl, hn⟩ | ⟨g, cap, cur, rfl, _⟩
  · exact ⟨none, 0, by rw [hn]⟩
  · exact ⟨_, cap, rfl⟩
theorem OwnR.lower {E : TypeId} {sz : Nat} {w : World} {base base' : Nat} {v : Value} {l : List (List Value)} (h : OwnR E sz w base v l) (hb : base' ≤ base) : OwnR E sz w base' v l := by
  refine ⟨⟨h.1.1, ?_⟩, h.2⟩
  rcases h.1.2 with h1 | ⟨g, cap, cur, h1, h2, h3⟩
  · exact .inl h1
  · exact .inr ⟨g, cap, cur, h1, Nat.le_trans hb h2, h3⟩
theorem OwnR.rows {E : TypeId} {sz : Nat} {w : World} {base : Nat} {v : Value} {l : List (List Value)} (h : OwnR E sz w base v l) (hn : 0 < l.length) :
    ∃ g cap, v = .slice (some ⟨g, 0, none⟩) l.length cap ∧ base ≤ g ∧ g < w.heap.size ∧ (∀ k (hk : k < l.length) i (hi : i < sz), w.cell? ⟨g, k * sz + i, none⟩ = l[k][i]?) ∧ (∀ j, w.frozen? ⟨g, j, none⟩ = false) := by
  have h1 := h.1
  rcases h1.2 with ⟨_, h0⟩ | ⟨g, cap, cur, hv, hb, hh, _⟩
  · omega
  · have hg : g < w.heap.size := by
      rcases Nat.lt_or_ge g w.heap.size with h5 | h5
      · exact h5
      · rw [Array.getElem?_eq_none h5] at hh; cases hh
    subst hv
    refine ⟨g, cap, rfl, hb, hg, fun k hk i hi => ?_, fun j => World.ownsRow.frozenAt h1 j⟩
    have hlt : k * sz + i < l.length * sz := by
      have := Nat.mul_le_mul_right sz (show k + 1 ≤ l.length from hk)
      rw [Nat.succ_mul] at this
      omega
    rw [World.ownsRow.cellAt h1 _ hlt]
    exact flat_at sz l h.2 k hk i hi

/-- An append of one struct. -/
theorem app_row {ops : Array Oper} {rest : List Oper} {o : Oper} {a : Act} {Q : Exit → Act → World → Prop} (E S : TypeId) (sz by_ : Nat) (z : Value) (i : TypeInfo) (w : World) (hgd : o.guard = none) (s x : Operand)
    (ho : o.op = .call { callee := .builtin .append, args := #[s, x], argTypes := #[S, S] })
    (hS : Try.prog.underlying S = some (.slice E)) (hi : Try.prog.info? E = some i) (hz : i.zero = some z) (hsz : i.size = sz) (hby : i.bytes = by_) (hzs : z.cells.size = sz) (hpos : 0 < sz) (hb100 : by_ ≤ 128)
    (base : Nat) (v : Value) (l : List (List Value)) (t : List Value) (ht : t.length = sz) (hone : ∀ u ∈ t, u.oneCell' = true) (hs : a.eval s = v) (hown : OwnR E sz w base v l) (T : TypeId) (c : Nat)
    (hx : a.eval x = .slice (some ⟨w.heap.size, 0, none⟩) 1 c)
    (hlen : l.length ≤ 1099511) (hbase : base ≤ w.heap.size)
    (h : ∀ v' w', OwnR E sz w' base v' (l ++ [t]) → w.grownBy w' v.ownBlock → Below base w w' → w.heap.size ≤ w'.heap.size → wpList Try.prog ops Q rest (a.put o.dst v') w') :
    wpList Try.prog ops Q (o :: rest) a (w.alloc (.cells t.toArray T)) := by
  have hown' : (w.alloc (.cells t.toArray T)).ownsRow base E sz v l.length l.flatten := World.ownsRow.alloc hown.1 _
  have hbm : (l.length + 1) * by_ ≤ (1099511 + 1) * 128 := Nat.mul_le_mul (by omega) hb100
  refine wpList_append_own _ hgd s x S ho base E i z sz by_ hS hi hz hsz hby hzs hpos v l.length l.flatten hs hown'
    ⟨w.heap.size, 0, none⟩ 1 c t hx (by omega) (fun j u hu => ?_) hone (by unfold maxLen; omega) (by omega) (by simp; omega) (fun v' w' hown2 hg _ => ?_)
  · rw [show (⟨w.heap.size, 0, none⟩ : Addr).add j = ⟨w.heap.size, j, none⟩ from by unfold Addr.add; split <;> simp_all]
    rw [World.cell?_alloc_at _ _ _ _ rfl]
    simpa using hu
  · have hz2 : w.heap.size ≤ w'.heap.size := by have := hg.size; simp at this; omega
    refine h v' w' ⟨?_, ?_⟩ ?_ ?_ hz2
    · rw [List.length_append, List.flatten_append]
      simpa using hown2
    · intro y hy
      rcases List.mem_append.1 hy with hy | hy
      · exact hown.2 y hy
      · rw [List.mem_singleton.1 hy]; exact ht
    · refine ⟨hg.os, hg.tape, hg.output, hz2, fun k hk hne => ?_⟩
      rw [hg.block k (by simp; omega) hne]
      exact Below.heap_alloc w _ k hk
    · exact ((Below.refl base w).alloc hbase _).grown hg (by simp; omega) fun k hk => (World.ownsRow.lt hown' k hk).1
end Go.Proofs.Ytckofkdeedbbgaa
/- What this text proves: what has grown in one block alone: it goes on, it stores, a struct elsewhere stays. -/
namespace Go.Proofs.Ytckofkdeedbbgaa
open Go.ChangeShapes Go.WideShapes Go.ChangeAt Go.RowKit
set_option linter.unusedVariables false

theorem grown_of {w W : World} (h : Below w.heap.size w W) (row : Option Nat) : w.grownBy W row := ⟨h.os, h.tape, h.output, h.size, fun k hk _ => h.block k hk⟩
theorem grown_trans {w W W' : World} {row : Option Nat} (h1 : w.grownBy W row) (h2 : W.grownBy W' row) : w.grownBy W' row :=
  ⟨h2.os.trans h1.os, h2.tape.trans h1.tape, h2.output.trans h1.output, Nat.le_trans h1.size h2.size, fun k hk hne => (h2.block k (Nat.lt_of_lt_of_le hk h1.size) hne).trans (h1.block k hk hne)⟩
theorem grown_store {w W : World} {g j : Nat} (h : w.grownBy W (some g)) (u : Value) : w.grownBy (W.setCell ⟨g, j, none⟩ u) (some g) :=
  grown_trans h ⟨rfl, rfl, rfl, by simp, fun k hk hne => Below.heap_setCell W _ u k (fun e => hne (by rw [e]))⟩

theorem Box.grown {W W' : World} {g : Nat} {vs : List Value} {row : Option Nat} (h : Box W g vs) (hb : W.grownBy W' row) (hne : row ≠ some g) : Box W' g vs := by
  have hk := hb.block g h.lt (fun e => hne e.symm)
  exact ⟨Nat.lt_of_lt_of_le h.lt hb.size, fun j hj => (World.cell?_of_block (a := ⟨g, j, none⟩) hk).trans (h.cell j hj), fun j => (World.frozen?_of_block (a := ⟨g, j, none⟩) hk).trans (h.ice j)⟩
end Go.Proofs.Ytckofkdeedbbgaa
/- What this text proves: rows of structs appended at once to a slice of the call's own. -/
namespace Go.Proofs.Ytckofkdeedbbgaa
open Go.ChangeShapes Go.WideShapes Go.ChangeAt Go.RowKit
set_option linter.unusedVariables false

/-- Rows of structs that are there to be read. -/
def RowsAt (w : World) (A : Option Addr) (l : List (List Value)) : Prop :=
  l.length = 0 ∨ ∃ b off, A = some ⟨b, off, none⟩ ∧ ∀ j u, l.flatten[j]? = some u → w.cell? ⟨b, off + j, none⟩ = some u
theorem flat_len {sz : Nat} : ∀ {l : List (List Value)}, (∀ x ∈ l, x.length = sz) → l.flatten.length = l.length * sz := by
  intro l
  induction l with
  | nil => intro _; simp
  | cons a r ih =>
    intro h
    rw [List.flatten_cons, List.length_append, h a List.mem_cons_self, ih (fun x hx => h x (List.mem_cons_of_mem _ hx)), List.length_cons, Nat.succ_mul]
    omega
theorem run_rows (E S : TypeId) (sz by_ : Nat) (z : Value) (i : TypeInfo) (w : World) (ty : TypeId)
    (hS : Try.prog.underlying S = some (.slice E)) (hi : Try.prog.info? E = some i) (hz : i.zero = some z) (hsz : i.size = sz) (hby : i.bytes = by_) (hzs : z.cells.size = sz) (hpos : 0 < sz) (hb100 : by_ ≤ 128)
    (base : Nat) (v : Value) (l : List (List Value)) (hown : OwnR E sz w base v l) (A : Option Addr) (new : List (List Value)) (k : Nat) (hnew : ∀ x ∈ new, x.length = sz) (hone : ∀ x ∈ new, ∀ u ∈ x, u.oneCell' = true) (hat : RowsAt w A new)
    (hlen : l.length + new.length ≤ 1099511) (hbase : base ≤ w.heap.size) :
    ∃ v' w', (Builtin.append_ #[S, S] ty #[v, .slice A new.length k]).run Try.prog w = .ok v' w' ∧ OwnR E sz w' base v' (l ++ new) ∧ w.grownBy w' v.ownBlock ∧ (v'.ownBlock = v.ownBlock ∨ v'.ownBlock = some w.heap.size) := by
  have hbm : (l.length + new.length) * by_ ≤ 1099511 * 128 := Nat.mul_le_mul hlen hb100
  have done : ∀ (a : Addr), (∀ j u, new.flatten[j]? = some u → w.cell? (a.add j) = some u) → ∃ v' w', (Builtin.append_ #[S, S] ty #[v, .slice (some a) new.length k]).run Try.prog w = .ok v' w' ∧ OwnR E sz w' base v' (l ++ new) ∧ w.grownBy w' v.ownBlock ∧ (v'.ownBlock = v.ownBlock ∨ v'.ownBlock = some w.heap.size) := by
    intro a ha
    obtain ⟨v', w', h1, h2, h3, _, h4⟩ := run_append_own_at (P := Try.prog) w base S ty E i z sz by_ hS hi hz hsz hby hzs hpos v l.length l.flatten hown.1 a new.length k new.flatten (flat_len hnew) ha (fun u hu => by
      obtain ⟨x, hx, hux⟩ := List.mem_flatten.1 hu
      exact hone x hx u hux) (by unfold maxLen; omega) (by omega) hbase
    refine ⟨v', w', h1, ⟨?_, fun y hy => ?_⟩, h3, h4⟩
    · rw [List.length_append, List.flatten_append]
      exact h2
    · rcases List.mem_append.1 hy with hy | hy
      · exact hown.2 y hy
      · exact hnew y hy
  rcases hat with h0 | ⟨b, off, rfl, hc⟩
  · obtain rfl : new = [] := List.eq_nil_of_length_eq_zero h0
    cases A with
    | some a => exact done a (fun j u hu => by simp at hu)
    | none =>
      refine ⟨v, w, ?_, by rw [List.append_nil]; exact hown, ⟨rfl, rfl, rfl, Nat.le_refl _, fun _ _ _ => rfl⟩, .inl rfl⟩
      have hcap : ∃ A0 c0, v = .slice A0 l.length c0 ∧ l.length ≤ c0 := by
        rcases hown.1.2 with ⟨rfl, hn⟩ | ⟨g, cap, cur, rfl, _, _, hle, _⟩
        · exact ⟨none, 0, by rw [hn], by omega⟩
        · exact ⟨_, _, rfl, hle⟩
      obtain ⟨A0, c0, rfl, hle⟩ := hcap
      cases A0 with
      | none => simp [Builtin.append_, run_underlying hS, sizeOf, typeInfo, hi, Builtin.lenOf, Builtin.firstCells, hle]
      | some a0 => simp [Builtin.append_, run_underlying hS, sizeOf, typeInfo, hi, Builtin.lenOf, Builtin.firstCells, hle, storeCells]
  · refine done _ (fun j u hu => ?_)
    rw [show (⟨b, off, none⟩ : Addr).add j = ⟨b, off + j, none⟩ from by unfold Addr.add; split <;> simp_all]
    exact hc j u hu

theorem app_rows {ops : Array Oper} {rest : List Oper} {o : Oper} {a : Act} {Q : Exit → Act → World → Prop} (E S : TypeId) (sz by_ : Nat) (z : Value) (i : TypeInfo) (w : World) (hgd : o.guard = none) (s x : Operand)
    (ho : o.op = .call { callee := .builtin .append, args := #[s, x], argTypes := #[S, S] })
    (hS : Try.prog.underlying S = some (.slice E)) (hi : Try.prog.info? E = some i) (hz : i.zero = some z) (hsz : i.size = sz) (hby : i.bytes = by_) (hzs : z.cells.size = sz) (hpos : 0 < sz) (hb100 : by_ ≤ 128)
    (base : Nat) (v : Value) (l : List (List Value)) (hs : a.eval s = v) (hown : OwnR E sz w base v l) (A : Option Addr) (new : List (List Value)) (k : Nat) (hx : a.eval x = .slice A new.length k)
    (hnew : ∀ x ∈ new, x.length = sz) (hone : ∀ x ∈ new, ∀ u ∈ x, u.oneCell' = true) (hat : RowsAt w A new)
    (hlen : l.length + new.length ≤ 1099511) (hbase : base ≤ w.heap.size)
    (h : ∀ v' w', OwnR E sz w' base v' (l ++ new) → w.grownBy w' v.ownBlock → (v'.ownBlock = v.ownBlock ∨ v'.ownBlock = some w.heap.size) → wpList Try.prog ops Q rest (a.put o.dst v') w') :
    wpList Try.prog ops Q (o :: rest) a w := by
  refine wpList_plain hgd fun _ hK => ?_
  obtain ⟨v', w', hr, h2, h3, h4⟩ := run_rows E S sz by_ z i w o.type hS hi hz hsz hby hzs hpos hb100 base v l hown A new k hnew hone hat hlen hbase
  unfold Oper.wp execOp
  simp only [ho, resolve, invoke, builtin, Sem.run_bind, Sem.run_pure, Result.andThen_ok, List.map_toArray, List.map_cons, List.map_nil, hs, hx, hr]
  exact hK _ _ (h v' w' h2 h3 h4)
theorem OwnR.empty {E : TypeId} {sz : Nat} (w : World) (base : Nat) (hb : base ≤ w.heap.size) : OwnR E sz (w.alloc (.cells #[] E)) base (.slice (some ⟨w.heap.size, 0, none⟩) 0 0) [] :=
  ⟨World.ownsRow_lit w #[] 0 hb (by decide) (by simp), fun _ h => by cases h⟩
theorem OwnR.grown {E : TypeId} {sz : Nat} {W W' : World} {b : Nat} {v : Value} {l : List (List Value)} {row : Option Nat} (h : OwnR E sz W b v l) (hg : W.grownBy W' row) (hne : ∀ k, v.ownBlock = some k → row ≠ some k) : OwnR E sz W' b v l := by
  refine ⟨World.ownsRow.kept (row := row) h.1 hg ?_, h.2⟩
  cases hv : v.ownBlock with
  | none => exact .inl rfl
  | some k => exact .inr (fun e => hne k hv e.symm)
theorem OwnR.away {E : TypeId} {sz : Nat} {W : World} {b g j : Nat} {v : Value} {l : List (List Value)} (h : OwnR E sz W b v l) (hg : v.ownBlock ≠ some g) (u : Value) : OwnR E sz (W.setCell ⟨g, j, none⟩ u) b v l :=
  h.grown (row := some g) ⟨rfl, rfl, rfl, by simp, fun k hk hne => Below.heap_setCell W _ u k (fun e => hne (by rw [e]))⟩ (fun k hk e => hg (by rw [hk, e]))
theorem OwnR.cellsAway {E : TypeId} {sz : Nat} {b g : Nat} {v : Value} {l : List (List Value)} (hg : v.ownBlock ≠ some g) : ∀ (us : List Value) (o : Nat) (W : World), OwnR E sz W b v l → OwnR E sz (W.setCells g o us) b v l := by
  intro us
  induction us with
  | nil => intro o W h; exact h
  | cons u r ih => intro o W h; exact ih _ _ (h.away hg u)
theorem OwnR.upto {E : TypeId} {sz : Nat} {W : World} {b : Nat} {v : Value} {l : List (List Value)} (h : OwnR E sz W b v l) : ∀ k, v.ownBlock = some k → b ≤ k ∧ k < W.heap.size := World.ownsRow.lt h.1
end Go.Proofs.Ytckofkdeedbbgaa
