/- What this text proves: the parts Law, RowG, Box, Gro of the proof, each under its own words. -/
import Derived.Test.YtckofkdeedbbgaaRows
import Derived.ProofKit
import Derived.OpenShut
import Derived.ShutString
import Derived.Below
import Derived.Deep.Draws
import Derived.WalkKit
import Derived.LoopTactic
import Derived.IntWalk
import Derived.OwnWalk
import Derived.Laws.AppendOwn
import Derived.Laws.OwnMore
import Derived.Lib.Hide
import Derived.Laws.IdiomCopy
/- What this text proves: a step of every row: a law that returned true, and that wrote into nothing that was there before the call, left each argument as it was. -/
namespace Go.Proofs.Ytckofkdeedbbgaa
open Go.ChangeShapes Go.WideShapes Go.ChangeAt Go.RowKit

theorem calm_post {H : Type} {enc : TypeId × Value → H} {P : Program} {f : Func} {s : ChangeSpec} {apart fresh handsOn : Bool} {W W' : World} {args : Array Value} {v : Value}
    {ds gs : List (DataW H)} {before : List MemPlace} (whole : DataW.Whole enc P f.params.toList s.vars apart W args.toList ds gs before) (calm : Below W.heap.size W W')
    (told : ∀ b sp hd, DataW.TrodAll enc P W' b sp hd f.resultTypes.toList (v.resultList f.resultTypes.size) (s.fn H (ds ++ gs)).results [])
    (kept : ∀ sp : Nat → Bool, (∀ p ∈ before, sp p.block = true) → DataW.TrodAll enc P W' 0 sp true f.params.toList args.toList (s.fn H (ds ++ gs)).args before)
    (none : ∀ sp, DataW.TrodVars enc P W' sp s.vars (s.fn H (ds ++ gs)).vars []) :
    s.post enc P f apart fresh handsOn false W args v W' :=
  ⟨ds, gs, before, [], before, [], whole, told _ _ _, kept _ (fun p hp => decide_eq_true (whole.lt p hp)), none _, World.keptBut_mono (fun _ hp => ⟨hp, .inr (.inl hp)⟩) (calm.frame (· ∈ before)), fun h => nomatch h⟩

theorem below_draws {B : Nat} {a w : World} (h : Below B a w) (n : Nat) : Below B a (w.drewN n) := ⟨h.os, h.tape, h.output, h.size, h.block⟩
end Go.Proofs.Ytckofkdeedbbgaa
/- What this text proves: a list of structs in a slice of the call's own: what lies there, and what an append of one struct makes of it. -/
namespace Go.Proofs.Ytckofkdeedbbgaa
open Go.ChangeShapes Go.WideShapes Go.ChangeAt Go.RowKit
set_option linter.unusedVariables false

/-- A slice of structs of sz cells each, of type E, that holds l in a block of its own, from block 'base' on. -/
def OwnR (E : TypeId) (sz : Nat) (w : World) (base : Nat) (v : Value) (l : List (List Value)) : Prop := w.ownsRow base E sz v l.length l.flatten ∧ ∀ x ∈ l, x.length = sz

theorem flat_at (sz : Nat) : ∀ (l : List (List Value)), (∀ x ∈ l, x.length = sz) → ∀ (k : Nat) (hk : k < l.length) (i : Nat) (hi : i < sz), l.flatten[k * sz + i]? = l[k][i]? := by
  intro l
  induction l with
  | nil => intro _ k hk; exact absurd hk (Nat.not_lt_zero _)
  | cons a r ih =>
    intro h k hk i hi
    have ha := h a List.mem_cons_self
    rw [List.flatten_cons]
    cases k with
    | zero =>
      rw [Nat.zero_mul, Nat.zero_add, List.getElem?_append_left (by omega)]
      rfl
    | succ k =>
      have e : (k + 1) * sz + i = sz + (k * sz + i) := by rw [Nat.succ_mul]; omega
      rw [e, List.getElem?_append_right (by omega), show sz + (k * sz + i) - a.length = k * sz + i by omega]
      exact ih (fun x hx => h x (List.mem_cons_of_mem _ hx)) k (by simpa using hk) i hi

theorem OwnR.more {E : TypeId} {sz : Nat} {w w' : World} {base : Nat} {v : Value} {l : List (List Value)} (h : OwnR E sz w base v l) (hb : Below w.heap.size w w') : OwnR E sz w' base v l := by
  refine ⟨World.ownsRow.kept (row := none) h.1 ⟨hb.os, hb.tape, hb.output, hb.size, fun k hk _ => hb.block k hk⟩ ?_, h.2⟩
  by_cases he : v.ownBlock = none
  · exact .inl he
  · exact .inr he
theorem OwnR.nil (E : TypeId) (sz : Nat) (w : World) (base : Nat) : OwnR E sz w base (.slice none 0 0) [] := ⟨World.ownsRow_nil w base _ sz, fun _ h => by cases h⟩
theorem OwnR.form {E : TypeId} {sz : Nat} {w : World} {base : Nat} {v : Value} {l : List (List Value)} (h : OwnR E sz w base v l) : ∃ A c, v = .slice A l.length c := by
  rcases h.1.2 with ⟨rfl, hn⟩ | ⟨g, cap, cur, rfl, _⟩
  · exact ⟨none, 0, by rw [hn]⟩
  · exact ⟨_, cap, rfl⟩
theorem OwnR.lower {E : TypeId} {sz : Nat} {w : World} {base base' : Nat} {v : Value} {l : List (List Value)} (h : OwnR E sz w base v l) (hb : base' ≤ base) : OwnR E sz w base' v l := by
  refine ⟨⟨h.1.1, ?_⟩, h.2⟩
  rcases h.1.2 with h1 | ⟨g, cap, cur, h1, h2, h3⟩
  · exact .inl h1
  · exact .inr ⟨g, cap, cur, h1, Nat.le_trans hb h2, h3⟩
theorem OwnR.rows {E : TypeId} {sz : Nat} {w : World} {base : Nat} {v : Value} {l : List (List Value)} (h : OwnR E sz w base v l) (hn : 0 < l.length) :
    ∃ g cap, v = .slice (some ⟨g, 0, none⟩) l.length cap ∧ base ≤ g ∧ g < w.heap.size ∧ (∀ k (hk : k < l.length) i (hi : i < sz), w.cell? ⟨g, k * sz + i, none⟩ = l[k][i]?) ∧ (∀ j, w.frozen? ⟨g, j, none⟩ = false) := by
  have h1 := h.1
  rcases h1.2 with ⟨_, h0⟩ | ⟨g, cap, cur, hv, hb, hh, _⟩
  · omega
  · have hg : g < w.heap.size := by
      rcases Nat.lt_or_ge g w.heap.size with h5 | h5
      · exact h5
      · rw [Array.getElem?_eq_none h5] at hh; cases hh
    subst hv
    refine ⟨g, cap, rfl, hb, hg, fun k hk i hi => ?_, fun j => World.ownsRow.frozenAt h1 j⟩
    have hlt : k * sz + i < l.length * sz := by
      have := Nat.mul_le_mul_right sz (show k + 1 ≤ l.length from hk)
      rw [Nat.succ_mul] at this
      omega
    rw [World.ownsRow.cellAt h1 _ hlt]
    exact flat_at sz l h.2 k hk i hi

/-- An append of one struct. -/
theorem app_row {ops : Array Oper} {rest : List Oper} {o : Oper} {a : Act} {Q : Exit → Act → World → Prop} (E S : TypeId) (sz by_ : Nat) (z : Value) (i : TypeInfo) (w : World) (hgd : o.guard = none) (s x : Operand)
    (ho : o.op = .call { callee := .builtin .append, args := #[s, x], argTypes := #[S, S] })
    (hS : Try.prog.underlying S = some (.slice E)) (hi : Try.prog.info? E = some i) (hz : i.zero = some z) (hsz : i.size = sz) (hby : i.bytes = by_) (hzs : z.cells.size = sz) (hpos : 0 < sz) (hb100 : by_ ≤ 128)
    (base : Nat) (v : Value) (l : List (List Value)) (t : List Value) (ht : t.length = sz) (hone : ∀ u ∈ t, u.oneCell' = true) (hs : a.eval s = v) (hown : OwnR E sz w base v l) (T : TypeId) (c : Nat)
    (hx : a.eval x = .slice (some ⟨w.heap.size, 0, none⟩) 1 c)
    (hlen : l.length ≤ 1099511) (hbase : base ≤ w.heap.size)
    (h : ∀ v' w', OwnR E sz w' base v' (l ++ [t]) → w.grownBy w' v.ownBlock → Below base w w' → w.heap.size ≤ w'.heap.size → wpList Try.prog ops Q rest (a.put o.dst v') w') :
    wpList Try.prog ops Q (o :: rest) a (w.alloc (.cells t.toArray T)) := by
  have hown' : (w.alloc (.cells t.toArray T)).ownsRow base E sz v l.length l.flatten := World.ownsRow.alloc hown.1 _
  have hbm : (l.length + 1) * by_ ≤ (1099511 + 1) * 128 := Nat.mul_le_mul (by omega) hb100
  refine wpList_append_own _ hgd s x S ho base E i z sz by_ hS hi hz hsz hby hzs hpos v l.length l.flatten hs hown'
    ⟨w.heap.size, 0, none⟩ 1 c t hx (by omega) (fun j u hu => ?_) hone (by unfold maxLen; omega) (by omega) (by simp; omega) (fun v' w' hown2 hg _ => ?_)
  · rw [show (⟨w.heap.size, 0, none⟩ : Addr).add j = ⟨w.heap.size, j, none⟩ from by unfold Addr.add; split <;> simp_all]
    rw [World.cell?_alloc_at _ _ _ _ rfl]
    simpa using hu
  · have hz2 : w.heap.size ≤ w'.heap.size := by have := hg.size; simp at this; omega
    refine h v' w' ⟨?_, ?_⟩ ?_ ?_ hz2
    · rw [List.length_append, List.flatten_append]
      simpa using hown2
    · intro y hy
      rcases List.mem_append.1 hy with hy | hy
      · exact hown.2 y hy
      · rw [List.mem_singleton.1 hy]; exact ht
    · refine ⟨hg.os, hg.tape, hg.output, hz2, fun k hk hne => ?_⟩
      rw [hg.block k (by simp; omega) hne]
      exact Below.heap_alloc w _ k hk
    · exact ((Below.refl base w).alloc hbase _).grown hg (by simp; omega) fun k hk => (World.ownsRow.lt hown' k hk).1
end Go.Proofs.Ytckofkdeedbbgaa
/- What this text proves: the cells of a struct in a block: what lies there stays, whatever else is made; what a store leaves. -/
namespace Go.Proofs.Ytckofkdeedbbgaa
open Go.ChangeShapes Go.WideShapes Go.ChangeAt Go.RowKit
set_option linter.unusedVariables false

/-- Block g holds the cells vs, and no string shares them. -/
structure Box (W : World) (g : Nat) (vs : List Value) : Prop where
  lt : g < W.heap.size
  cell : ∀ j (h : j < vs.length), W.cell? ⟨g, j, none⟩ = some vs[j]
  ice : ∀ j, W.frozen? ⟨g, j, none⟩ = false
theorem Box.more {W W' : World} {g : Nat} {vs : List Value} (h : Box W g vs) (hb : Below W.heap.size W W') : Box W' g vs :=
  ⟨Nat.lt_of_lt_of_le h.lt hb.size, fun j hj => (hb.cell (p := ⟨g, j, none⟩) h.lt).trans (h.cell j hj), fun j => (hb.frozen (p := ⟨g, j, none⟩) h.lt).trans (h.ice j)⟩
theorem Box.moreAt {W W' : World} {g n : Nat} {vs : List Value} (h : Box W g vs) (hb : Below n W W') (hg : g < n) (hz : W.heap.size ≤ W'.heap.size) : Box W' g vs :=
  ⟨Nat.lt_of_lt_of_le h.lt hz, fun j hj => (hb.cell (p := ⟨g, j, none⟩) hg).trans (h.cell j hj), fun j => (hb.frozen (p := ⟨g, j, none⟩) hg).trans (h.ice j)⟩
theorem Box.alloc {W : World} {g : Nat} {vs : List Value} (h : Box W g vs) (o : Obj) : Box (W.alloc o) g vs := h.more ((Below.refl _ _).alloc (Nat.le_refl _) o)
theorem Box.drew {W : World} {g : Nat} {vs : List Value} (h : Box W g vs) : Box W.drew g vs := h.more (Below.refl _ _).drew
theorem Box.drewN {W : World} {g : Nat} {vs : List Value} (h : Box W g vs) (n : Nat) : Box (W.drewN n) g vs := h.more (below_draws (Below.refl _ _) n)
theorem Box.made (w : World) (vs : List Value) (T : TypeId) (g : Nat) (hg : g = w.heap.size) : Box (w.alloc (.cells vs.toArray T)) g vs := by
  subst hg
  refine ⟨by simp, fun j hj => ?_, fun j => World.frozen?_alloc_at _ _ _ _ rfl⟩
  rw [World.cell?_alloc_at _ _ _ _ rfl]
  simp [hj]
theorem Box.set {W : World} {g : Nat} {vs : List Value} (h : Box W g vs) (j : Nat) (hj : j < vs.length) (v : Value) : Box (W.setCell ⟨g, j, none⟩ v) g (vs.set j v) := by
  refine ⟨by simpa using h.lt, fun i hi => ?_, fun i => by rw [World.frozen?_setCell]; exact h.ice i⟩
  rw [List.length_set] at hi
  rw [List.getElem_set]
  by_cases e : j = i
  · rw [if_pos e]
    subst e
    exact World.cell?_setCell_same _ _ _ (h.cell j hj)
  · rw [if_neg e, World.cell?_setCell_other _ _ _ _ (fun he => e (congrArg Addr.off he))]
    exact h.cell i hi
theorem Box.other {W : World} {g ga : Nat} {vs : List Value} (h : Box W g vs) (hne : ga ≠ g) (j : Nat) (v : Value) : Box (W.setCell ⟨ga, j, none⟩ v) g vs := by
  refine ⟨by simpa using h.lt, fun i hi => ?_, fun i => by rw [World.frozen?_setCell]; exact h.ice i⟩
  rw [World.cell?_setCell_other _ _ _ _ (fun he => hne (congrArg Addr.block he))]
  exact h.cell i hi
/-- All cells are stored. -/
theorem Box.all {W : World} {g : Nat} {vs us : List Value} (h : Box W g vs) (hl : us.length = vs.length) : Box (W.setCells g 0 us) g us := by
  have hs : ∀ (us : List Value) (o : Nat) (W : World), (W.setCells g o us).heap.size = W.heap.size := by
    intro us
    induction us with
    | nil => intro o W; rfl
    | cons v r ih => intro o W; exact (ih _ _).trans (by simp)
  refine ⟨by rw [hs]; exact h.lt, fun j hj => ?_, fun j => by rw [World.frozen?_setCells]; exact h.ice j⟩
  have := World.cell?_setCells_in g us 0 W (fun i hi => by rw [Nat.zero_add, h.cell i (by omega)]; rfl) j hj
  rwa [Nat.zero_add] at this
theorem Box.allOther {W : World} {g ga : Nat} {vs : List Value} (hne : ga ≠ g) : ∀ (us : List Value) (o : Nat) (W : World), Box W g vs → Box (W.setCells ga o us) g vs := by
  intro us
  induction us with
  | nil => intro o W h; exact h
  | cons v r ih => intro o W h; exact ih _ _ (h.other hne _ _)
theorem below_setCells {B : Nat} {w : World} {ga : Nat} (hg : B ≤ ga) : ∀ (us : List Value) (o : Nat) (W : World), Below B w W → Below B w (W.setCells ga o us) := by
  intro us
  induction us with
  | nil => intro o W h; exact h
  | cons v r ih => intro o W h; exact ih _ _ (h.setCell (p := ⟨ga, o, none⟩) hg v)
end Go.Proofs.Ytckofkdeedbbgaa
/- What this text proves: what has grown in one block alone: it goes on, it stores, a struct elsewhere stays. -/
namespace Go.Proofs.Ytckofkdeedbbgaa
open Go.ChangeShapes Go.WideShapes Go.ChangeAt Go.RowKit
set_option linter.unusedVariables false

theorem grown_of {w W : World} (h : Below w.heap.size w W) (row : Option Nat) : w.grownBy W row := ⟨h.os, h.tape, h.output, h.size, fun k hk _ => h.block k hk⟩
theorem grown_trans {w W W' : World} {row : Option Nat} (h1 : w.grownBy W row) (h2 : W.grownBy W' row) : w.grownBy W' row :=
  ⟨h2.os.trans h1.os, h2.tape.trans h1.tape, h2.output.trans h1.output, Nat.le_trans h1.size h2.size, fun k hk hne => (h2.block k (Nat.lt_of_lt_of_le hk h1.size) hne).trans (h1.block k hk hne)⟩
theorem grown_store {w W : World} {g j : Nat} (h : w.grownBy W (some g)) (u : Value) : w.grownBy (W.setCell ⟨g, j, none⟩ u) (some g) :=
  grown_trans h ⟨rfl, rfl, rfl, by simp, fun k hk hne => Below.heap_setCell W _ u k (fun e => hne (by rw [e]))⟩

theorem Box.grown {W W' : World} {g : Nat} {vs : List Value} {row : Option Nat} (h : Box W g vs) (hb : W.grownBy W' row) (hne : row ≠ some g) : Box W' g vs := by
  have hk := hb.block g h.lt (fun e => hne e.symm)
  exact ⟨Nat.lt_of_lt_of_le h.lt hb.size, fun j hj => (World.cell?_of_block (a := ⟨g, j, none⟩) hk).trans (h.cell j hj), fun j => (World.frozen?_of_block (a := ⟨g, j, none⟩) hk).trans (h.ice j)⟩
end Go.Proofs.Ytckofkdeedbbgaa
