/- What this text proves: the parts Law, Again, Box, BufI, MarkI of the proof, each under its own words. -/
import Derived.Test.YtckofkdeedbbgaaRows
import Derived.ProofKit
import Derived.OpenShut
import Derived.ShutString
import Derived.Below
import Derived.Deep.Draws
import Derived.ChangeBook
import Derived.ChangeBears
import Derived.ChangeStays
import Derived.Deep.Frames
import Derived.WalkKit
import Derived.Laws.IdiomCopy
import Derived.Lib.Hide
import Derived.LoopTactic
import Derived.IntWalk
import Derived.OwnWalk
import Derived.Laws.AppendOwn
import Derived.Laws.OwnMore
import Derived.Laws.Concat
import Derived.BigQuiet
import Derived.Deep.QuietTactic
import Derived.Deep.RegionLaw
import Derived.BigRegion
import Derived.Outline
/- What this text proves: a step of every row: a law that returned true, and that wrote into nothing that was there before the call, left each argument as it was. -/
namespace Go.Proofs.Ytckofkdeedbbgaa
open Go.ChangeShapes Go.WideShapes Go.ChangeAt Go.RowKit

theorem calm_post {H : Type} {enc : TypeId × Value → H} {P : Program} {f : Func} {s : ChangeSpec} {apart fresh handsOn : Bool} {W W' : World} {args : Array Value} {v : Value}
    {ds gs : List (DataW H)} {before : List MemPlace} (whole : DataW.Whole enc P f.params.toList s.vars apart W args.toList ds gs before) (calm : Below W.heap.size W W')
    (told : ∀ b sp hd, DataW.TrodAll enc P W' b sp hd f.resultTypes.toList (v.resultList f.resultTypes.size) (s.fn H (ds ++ gs)).results [])
    (kept : ∀ sp : Nat → Bool, (∀ p ∈ before, sp p.block = true) → DataW.TrodAll enc P W' 0 sp true f.params.toList args.toList (s.fn H (ds ++ gs)).args before)
    (none : ∀ sp, DataW.TrodVars enc P W' sp s.vars (s.fn H (ds ++ gs)).vars []) :
    s.post enc P f apart fresh handsOn false W args v W' :=
  ⟨ds, gs, before, [], before, [], whole, told _ _ _, kept _ (fun p hp => decide_eq_true (whole.lt p hp)), none _, World.keptBut_mono (fun _ hp => ⟨hp, .inr (.inl hp)⟩) (calm.frame (· ∈ before)), fun h => nomatch h⟩

theorem below_draws {B : Nat} {a w : World} (h : Below B a w) (n : Nat) : Below B a (w.drewN n) := ⟨h.os, h.tape, h.output, h.size, h.block⟩
end Go.Proofs.Ytckofkdeedbbgaa
/- What this text proves: what a law was handed reads behind its call as it read before, whatever its type, if nothing that was there has changed. -/
namespace Go.Proofs.Ytckofkdeedbbgaa
open Go.ChangeShapes Go.WideShapes Go.ChangeAt Go.RowKit

theorem laid_out : laidOutB Try.prog = true := by kernel_rfl
section
variable {H : Type} {enc : TypeId × Value → H}
theorem trod_again {t : TypeId} (hr : Try.prog.readableRec t = true) (hrow : t < Try.prog.types.size) {W W' : World} (hb : Below W.heap.size W W') {v : Value} {d : DataW H} {p : List MemPlace}
    (h : DataW.Trod enc Try.prog W 0 (fun _ => true) true t v d p) (hlt : ∀ q ∈ p, q.block < W.heap.size) {sp : Nat → Bool} (hs : ∀ q ∈ p, sp q.block = true) : DataW.Trod enc Try.prog W' 0 sp true t v d p := by
  obtain ⟨n, hn⟩ := h
  exact ⟨n, DataW.trod_stays (kids_book laid_out hr) (book_sized hr) (fun h => by cases h) ⟨hrow, book_self t⟩ hn (fun q hq => (hb.frame (fun _ => False)).sameAt (hlt q hq) id (fun b e => by
      have := DataW.trod_good (kids_book laid_out hr) (fun h => by cases h) n t _ _ ⟨hrow, book_self t⟩ hn q hq
      subst e
      exact this)) hs⟩
theorem trodAll_again {W W' : World} (hb : Below W.heap.size W W') {sp : Nat → Bool} : ∀ {ts : List TypeId} {vs : List Value} {ds : List (DataW H)} {p : List MemPlace},
    (ts.all fun t => Try.prog.readableRec t && decide (t < Try.prog.types.size)) = true → DataW.TrodAll enc Try.prog W 0 (fun _ => true) true ts vs ds p → (∀ q ∈ p, q.block < W.heap.size) → (∀ q ∈ p, sp q.block = true) → DataW.TrodAll enc Try.prog W' 0 sp true ts vs ds p := by
  intro ts
  induction ts with
  | nil =>
    intro vs ds p _ h _ _
    obtain ⟨rfl, rfl, rfl⟩ := trodAll_nil h
    exact trodAll_mk0
  | cons t ts ih =>
    intro vs ds p hr h hlt hs
    obtain ⟨v, vs', d, ds', p1, p2, rfl, rfl, rfl, h1, h2⟩ := trodAll_cons h
    simp only [List.all_cons, Bool.and_eq_true, decide_eq_true_iff] at hr
    exact trodAll_cons_mk (trod_again hr.1.1 hr.1.2 hb h1 (fun q hq => hlt q (List.mem_append_left _ hq)) (fun q hq => hs q (List.mem_append_left _ hq)))
      (ih (by simpa using hr.2) h2 (fun q hq => hlt q (List.mem_append_right _ hq)) (fun q hq => hs q (List.mem_append_right _ hq)))
end
end Go.Proofs.Ytckofkdeedbbgaa
/- What this text proves: the cells of a struct in a block: what lies there stays, whatever else is made; what a store leaves. -/
namespace Go.Proofs.Ytckofkdeedbbgaa
open Go.ChangeShapes Go.WideShapes Go.ChangeAt Go.RowKit
set_option linter.unusedVariables false

/-- Block g holds the cells vs, and no string shares them. -/
structure Box (W : World) (g : Nat) (vs : List Value) : Prop where
  lt : g < W.heap.size
  cell : ∀ j (h : j < vs.length), W.cell? ⟨g, j, none⟩ = some vs[j]
  ice : ∀ j, W.frozen? ⟨g, j, none⟩ = false
theorem Box.more {W W' : World} {g : Nat} {vs : List Value} (h : Box W g vs) (hb : Below W.heap.size W W') : Box W' g vs :=
  ⟨Nat.lt_of_lt_of_le h.lt hb.size, fun j hj => (hb.cell (p := ⟨g, j, none⟩) h.lt).trans (h.cell j hj), fun j => (hb.frozen (p := ⟨g, j, none⟩) h.lt).trans (h.ice j)⟩
theorem Box.moreAt {W W' : World} {g n : Nat} {vs : List Value} (h : Box W g vs) (hb : Below n W W') (hg : g < n) (hz : W.heap.size ≤ W'.heap.size) : Box W' g vs :=
  ⟨Nat.lt_of_lt_of_le h.lt hz, fun j hj => (hb.cell (p := ⟨g, j, none⟩) hg).trans (h.cell j hj), fun j => (hb.frozen (p := ⟨g, j, none⟩) hg).trans (h.ice j)⟩
theorem Box.alloc {W : World} {g : Nat} {vs : List Value} (h : Box W g vs) (o : Obj) : Box (W.alloc o) g vs := h.more ((Below.refl _ _).alloc (Nat.le_refl _) o)
theorem Box.drew {W : World} {g : Nat} {vs : List Value} (h : Box W g vs) : Box W.drew g vs := h.more (Below.refl _ _).drew
theorem Box.drewN {W : World} {g : Nat} {vs : List Value} (h : Box W g vs) (n : Nat) : Box (W.drewN n) g vs := h.more (below_draws (Below.refl _ _) n)
theorem Box.made (w : World) (vs : List Value) (T : TypeId) (g : Nat) (hg : g = w.heap.size) : Box (w.alloc (.cells vs.toArray T)) g vs := by
  subst hg
  refine ⟨by simp, fun j hj => ?_, fun j => World.frozen?_alloc_at _ _ _ _ rfl⟩
  rw [World.cell?_alloc_at _ _ _ _ rfl]
  simp [hj]
theorem Box.set {W : World} {g : Nat} {vs : List Value} (h : Box W g vs) (j : Nat) (hj : j < vs.length) (v : Value) : Box (W.setCell ⟨g, j, none⟩ v) g (vs.set j v) := by
  refine ⟨by simpa using h.lt, fun i hi => ?_, fun i => by rw [World.frozen?_setCell]; exact h.ice i⟩
  rw [List.length_set] at hi
  rw [List.getElem_set]
  by_cases e : j = i
  · rw [if_pos e]
    subst e
    exact World.cell?_setCell_same _ _ _ (h.cell j hj)
  · rw [if_neg e, World.cell?_setCell_other _ _ _ _ (fun he => e (congrArg Addr.off he))]
    exact h.cell i hi
theorem Box.other {W : World} {g ga : Nat} {vs : List Value} (h : Box W g vs) (hne : ga ≠ g) (j : Nat) (v : Value) : Box (W.setCell ⟨ga, j, none⟩ v) g vs := by
  refine ⟨by simpa using h.lt, fun i hi => ?_, fun i => by rw [World.frozen?_setCell]; exact h.ice i⟩
  rw [World.cell?_setCell_other _ _ _ _ (fun he => hne (congrArg Addr.block he))]
  exact h.cell i hi
/-- All cells are stored. -/
theorem Box.all {W : World} {g : Nat} {vs us : List Value} (h : Box W g vs) (hl : us.length = vs.length) : Box (W.setCells g 0 us) g us := by
  have hs : ∀ (us : List Value) (o : Nat) (W : World), (W.setCells g o us).heap.size = W.heap.size := by
    intro us
    induction us with
    | nil => intro o W; rfl
    | cons v r ih => intro o W; exact (ih _ _).trans (by simp)
  refine ⟨by rw [hs]; exact h.lt, fun j hj => ?_, fun j => by rw [World.frozen?_setCells]; exact h.ice j⟩
  have := World.cell?_setCells_in g us 0 W (fun i hi => by rw [Nat.zero_add, h.cell i (by omega)]; rfl) j hj
  rwa [Nat.zero_add] at this
theorem Box.allOther {W : World} {g ga : Nat} {vs : List Value} (hne : ga ≠ g) : ∀ (us : List Value) (o : Nat) (W : World), Box W g vs → Box (W.setCells ga o us) g vs := by
  intro us
  induction us with
  | nil => intro o W h; exact h
  | cons v r ih => intro o W h; exact ih _ _ (h.other hne _ _)
theorem below_setCells {B : Nat} {w : World} {ga : Nat} (hg : B ≤ ga) : ∀ (us : List Value) (o : Nat) (W : World), Below B w W → Below B w (W.setCells ga o us) := by
  intro us
  induction us with
  | nil => intro o W h; exact h
  | cons v r ih => intro o W h; exact ih _ _ (h.setCell (p := ⟨ga, o, none⟩) hg v)
end Go.Proofs.Ytckofkdeedbbgaa
/- What this text proves: a list of numbers that grows in a slice of the call's own: what an append of one number makes of it. -/
namespace Go.Proofs.Ytckofkdeedbbgaa
open Go.ChangeShapes Go.WideShapes Go.ChangeAt Go.RowKit

/-- A slice of ints that holds the numbers l in a block of its own, from block 'base' on. -/
def OwnI (w : World) (base : Nat) (v : Value) (l : List Int) : Prop := w.ownsRow base 3 1 v l.length (l.map (Value.int .i64))

theorem info_int : (Try.prog.info? 3).map (fun i => (i.zero, i.size, i.bytes)) = some (some (.int .i64 0), 1, 8) := by kernel_rfl

theorem OwnI.more {w w' : World} {base : Nat} {v : Value} {l : List Int} (h : OwnI w base v l) (hb : Below w.heap.size w w') : OwnI w' base v l := by
  refine World.ownsRow.kept (row := none) h ⟨hb.os, hb.tape, hb.output, hb.size, fun k hk _ => hb.block k hk⟩ ?_
  by_cases he : v.ownBlock = none
  · exact .inl he
  · exact .inr he
theorem OwnI.nil (w : World) (base : Nat) : OwnI w base (.slice none 0 0) [] := World.ownsRow_nil w base _ 1
theorem OwnI.empty (w : World) (base : Nat) (hb : base ≤ w.heap.size) : OwnI (w.alloc (.cells #[] 3)) base (.slice (some ⟨w.heap.size, 0, none⟩) 0 0) [] :=
  World.ownsRow_lit w #[] 0 hb (by decide) rfl
theorem OwnI.form {w : World} {base : Nat} {v : Value} {l : List Int} (h : OwnI w base v l) : ∃ A c, v = .slice A l.length c := by
  rcases h.2 with ⟨rfl, hn⟩ | ⟨g, cap, cur, rfl, _⟩
  · exact ⟨none, 0, by rw [hn]⟩
  · exact ⟨_, cap, rfl⟩
theorem OwnI.lower {w : World} {base base' : Nat} {v : Value} {l : List Int} (h : OwnI w base v l) (hb : base' ≤ base) : OwnI w base' v l := by
  refine ⟨h.1, ?_⟩
  rcases h.2 with h1 | ⟨g, cap, cur, h1, h2, h3⟩
  · exact .inl h1
  · exact .inr ⟨g, cap, cur, h1, Nat.le_trans hb h2, h3⟩

theorem app_int {ops : Array Oper} {rest : List Oper} {o : Oper} {a : Act} {Q : Exit → Act → World → Prop} (w : World) (hgd : o.guard = none) (s x : Operand)
    (ho : o.op = .call { callee := .builtin .append, args := #[s, x], argTypes := #[24, 24] })
    (base : Nat) (v : Value) (l : List Int) (t : Int) (hs : a.eval s = v) (hown : OwnI w base v l) (T : TypeId) (c : Nat)
    (hx : a.eval x = .slice (some ⟨w.heap.size, 0, none⟩) 1 c)
    (hlen : l.length ≤ 1099511627) (hbase : base ≤ w.heap.size)
    (h : ∀ v' w', OwnI w' base v' (l ++ [t]) → Below base w w' → w.heap.size ≤ w'.heap.size → wpList Try.prog ops Q rest (a.put o.dst v') w') :
    wpList Try.prog ops Q (o :: rest) a (w.alloc (.cells #[.int .i64 t] T)) := by
  obtain ⟨i, hi, hz0, hz1, hz2⟩ := info_parts info_int
  have hown' : (w.alloc (.cells #[.int .i64 t] T)).ownsRow base 3 1 v l.length (l.map (Value.int .i64)) := World.ownsRow.alloc hown _
  refine wpList_append_own _ hgd s x 24 ho base 3 i (.int .i64 0) 1 8 Try.underlying24 hi hz0 hz1 hz2 rfl (by decide) v l.length (l.map (Value.int .i64)) hs hown'
    ⟨w.heap.size, 0, none⟩ 1 c [.int .i64 t] hx rfl (fun j u hu => ?_) (fun u hu => ?_) (by unfold maxLen; omega) (by omega) (by simp; omega) (fun v' w' hown2 hg _ => ?_)
  · rw [show (⟨w.heap.size, 0, none⟩ : Addr).add j = ⟨w.heap.size, j, none⟩ from by unfold Addr.add; split <;> simp_all]
    rw [World.cell?_alloc_at _ _ _ _ rfl]
    simpa using hu
  · obtain rfl : u = .int .i64 t := by simpa using hu
    rfl
  · have hz : w.heap.size ≤ w'.heap.size := by have := hg.size; simp at this; omega
    refine h v' w' ?_ ?_ hz
    · unfold OwnI
      rw [List.length_append, List.map_append]
      exact hown2
    · exact ((Below.refl base w).alloc hbase _).grown hg (by simp; omega) fun k hk => (World.ownsRow.lt hown' k hk).1
end Go.Proofs.Ytckofkdeedbbgaa
/- What this text proves: the contracts of the laws' own functions over lists of numbers: two lists that hold the same numbers are found equal; marks that were written are found again. -/
namespace Go.Proofs.Ytckofkdeedbbgaa
open Go.ChangeShapes Go.WideShapes Go.ChangeAt Go.RowKit
set_option linter.unusedVariables false

theorem OwnI.rows {w : World} {base : Nat} {v : Value} {l : List Int} (h : OwnI w base v l) (hn : 0 < l.length) :
    ∃ g cap, v = .slice (some ⟨g, 0, none⟩) l.length cap ∧ base ≤ g ∧ g < w.heap.size ∧ (∀ j (hj : j < l.length), w.cell? ⟨g, j, none⟩ = some (.int .i64 l[j])) ∧ (∀ j, w.frozen? ⟨g, j, none⟩ = false) := by
  rcases h.2 with ⟨_, h0⟩ | ⟨g, cap, cur, hv, hb, hh, h1, h2, h3, h4⟩
  · omega
  · have hg : g < w.heap.size := by
      rcases Nat.lt_or_ge g w.heap.size with h5 | h5
      · exact h5
      · rw [Array.getElem?_eq_none h5] at hh; cases hh
    subst hv
    refine ⟨g, cap, rfl, hb, hg, fun j hj => ?_, fun j => ?_⟩
    · have hc := World.ownsRow.cellAt h j (by omega)
      rw [hc]
      simp [hj]
    · exact World.ownsRow.frozenAt h j

set_option maxHeartbeats 1000000 in
theorem eqI_any (w : World) (b1 b2 : Nat) (v1 v2 : Value) (l : List Int) (hl : l.length ≤ 2000000) (h1 : OwnI w b1 v1 l) (h2 : OwnI w b2 v2 l) :
    Calls Try.prog 104 #[v1, v2] w fun e w' => e = .returned (.bool true) ∧ ∃ d, w' = w.drewN d := by
  rcases Nat.eq_zero_or_pos l.length with h0 | h0
  · obtain ⟨A1, c1, rfl⟩ := h1.form
    obtain ⟨A2, c2, rfl⟩ := h2.form
    rw [h0]
    go_enter Try.func104, Try.ntmps104
    go_wp2
    refine wp_loop_rounds 1 ?_
    rw [rounds_succ]
    go_wp2
    go_ret
    exact ⟨rfl, 0, rfl⟩
  · obtain ⟨g1, c1, rfl, _, _, hc1, _⟩ := h1.rows h0
    obtain ⟨g2, c2, rfl, _, _, hc2, _⟩ := h2.rows h0
    have H1 := Lib.hid hc1
    have H2 := Lib.hid hc2
    clear hc1 hc2 h1 h2
    go_enter Try.func104, Try.ntmps104
    go_wp2
    go_loopw [5] (fun i wr => ∃ k : Nat, k ≤ l.length ∧ i = .int .i64 (k : Int) ∧ ∃ d, wr = w.drewN d) (fun i _ => l.length - (intOf i).toNat)
    case atStart => exact ⟨0, by omega, rfl, 0, rfl⟩
    case round =>
      obtain ⟨k, hk, rfl, d, rfl⟩ := hrel
      by_cases hlt : k < l.length
      · have hd : decide (k < l.length) = true := by simp; omega
        have e1 := H1.out k hlt
        have e2 := H2.out k hlt
        generalize l[k] = t at e1 e2
        go_wp2
        go_quiet (fail)
        go_wp2
        refine ⟨⟨k + 1, by omega, by go_num, _, rfl⟩, by simp [intOf]; omega⟩
      · have hd : decide (k < l.length) = false := by simp; omega
        clear hlt
        go_wp2
        go_ret
        exact ⟨rfl, d, rfl⟩


/-- The marks from k on. -/
def marksI (k : Nat) : Nat → List Int
  | 0 => []
  | n + 1 => marksI k n ++ [((k + n : Nat) : Int)]
theorem marksI_len (k n : Nat) : (marksI k n).length = n := by
  induction n with
  | zero => rfl
  | succ n ih => simp [marksI, ih]
theorem marksI_at (k n j : Nat) (hj : j < (marksI k n).length) : (marksI k n)[j] = ((k + j : Nat) : Int) := by
  induction n with
  | zero => simp [marksI] at hj
  | succ n ih =>
    simp only [marksI]
    rcases Nat.lt_or_ge j (marksI k n).length with h | h
    · rw [List.getElem_append_left h]
      exact ih h
    · have hl := marksI_len k n
      have hl2 := marksI_len k (n + 1)
      obtain rfl : j = n := by omega
      rw [List.getElem_append_right h]
      simp

/-- Block g holds the n numbers m. -/
def RowI (w : World) (base g n c : Nat) (m : List Int) : Prop := w.ownsRow base 3 1 (.slice (some ⟨g, 0, none⟩) n c) n (m.map (Value.int .i64))
theorem RowI.len {w : World} {base g n c : Nat} {m : List Int} (h : RowI w base g n c m) : m.length = n := by have := h.1; simpa using this
theorem RowI.store {w : World} {base g n c : Nat} {m : List Int} (h : RowI w base g n c m) (j : Nat) (t : Int) : RowI (w.setCell ⟨g, j, none⟩ (.int .i64 t)) base g n c (m.set j t) := by
  have h2 := (World.ownsRow.stored h j (.int .i64 t)).1
  unfold RowI
  rw [List.map_set]
  exact h2
theorem RowI.cell {w : World} {base g n c : Nat} {m : List Int} (h : RowI w base g n c m) (j : Nat) (hj : j < n) : w.cell? ⟨g, j, none⟩ = some (.int .i64 (m[j]'(by rw [h.len]; exact hj))) := by
  rw [World.ownsRow.cellAt h j (by omega)]
  have := h.len
  simp [show j < m.length by omega]
theorem RowI.frozen {w : World} {base g n c : Nat} {m : List Int} (h : RowI w base g n c m) (j : Nat) : w.frozen? ⟨g, j, none⟩ = false := World.ownsRow.frozenAt h j

set_option maxHeartbeats 2000000 in
theorem markI_any (w : World) (base : Nat) (v : Value) (l : List Int) (hl : l.length ≤ 2000000) (hown : OwnI w base v l) (hbase : base ≤ w.heap.size) :
    Calls Try.prog 106 #[v, .int .i64 1] w fun e w' => e = .returned (.int .i64 ((1 + l.length : Nat) : Int)) ∧ OwnI w' base v (marksI 1 l.length) ∧ Below base w w' ∧ w.heap.size ≤ w'.heap.size := by
  rcases Nat.eq_zero_or_pos l.length with h0 | h0
  · obtain ⟨A1, c1, rfl⟩ := hown.form
    have hnil : l = [] := List.eq_nil_of_length_eq_zero h0
    have H0 := Lib.hid (show OwnI w base (.slice A1 0 c1) (marksI 1 0) by subst hnil; exact hown)
    rw [h0]
    go_enter Try.func106, Try.ntmps106
    go_wp2
    refine wp_loop_rounds 1 ?_
    rw [rounds_succ]
    go_wp2
    go_ret
    exact ⟨rfl, H0.out, Below.refl _ _, Nat.le_refl _⟩
  · obtain ⟨g, c, rfl, hbg, hglt, _, _⟩ := hown.rows h0
    go_enter Try.func106, Try.ntmps106
    go_wp2
    go_loopw [1, 5] (fun q i wr => ∃ (k : Nat) (m : List Int), k ≤ l.length ∧ q = .int .i64 ((1 + k : Nat) : Int) ∧ i = .int .i64 (k : Int) ∧ m.take k = marksI 1 k ∧ RowI wr base g l.length c m ∧ Below base w wr ∧ w.heap.size ≤ wr.heap.size) (fun _ i _ => l.length - (intOf i).toNat)
    case atStart => exact ⟨0, l, by omega, rfl, rfl, rfl, hown, Below.refl _ _, Nat.le_refl _⟩
    case round =>
      obtain ⟨k, m, hk, rfl, rfl, htk, how, hbel, hsz⟩ := hrel
      have Htk := Lib.hid htk
      clear htk
      by_cases hlt : k < l.length
      · have hd : decide (k < l.length) = true := by simp; omega
        have hst := how.store k ((1 + k : Nat) : Int)
        rw [show ((1 + k : Nat) : Int) = 1 + (k : Int) by omega] at hst
        have hml := how.len
        have hc := how.cell k hlt
        have hf := how.frozen k
        have HS := Lib.hid hst
        have Hml := Lib.hid hml
        clear hst hml
        go_wp2
        refine ⟨⟨k + 1, m.set k (1 + (k : Int)), by omega, by go_num, by go_num, ?_, HS.out, hbel.setCell hbg _, by simp [World.setCell]; omega⟩, by simp [intOf]; omega⟩
        have hkm : k < m.length := by rw [Hml.out]; exact hlt
        rw [List.take_succ_eq_append_getElem (by simpa using hkm), List.getElem_set_self, List.take_set_of_le (Nat.le_refl _), Htk.out]
        simp only [marksI]
        rw [show ((1 + k : Nat) : Int) = 1 + (k : Int) by omega]
      · have hd : decide (k < l.length) = false := by simp; omega
        have hfin := Lib.hid (show m = marksI 1 l.length by
          have h := Htk.out
          have hml := how.len
          obtain rfl : k = l.length := by omega
          rw [List.take_of_length_le (by omega)] at h
          exact h)
        have hkl := Lib.hid (show k = l.length by omega)
        clear hlt
        go_wp2
        go_ret
        refine ⟨by rw [hkl.out]; rfl, ?_, hbel, hsz⟩
        unfold OwnI
        rw [marksI_len, ← hfin.out]
        exact how

set_option maxHeartbeats 4000000 in
theorem heldI_any (w : World) (base n : Nat) (v : Value) (hn : n ≤ 2000000) (hown : OwnI w base v (marksI 1 n)) :
    Calls Try.prog 108 #[v, .int .i64 1] w fun e w' => e = .returned (.int .i64 ((1 + n : Nat) : Int)) ∧ ∃ d, w' = w.drewN d := by
  have hln := marksI_len 1 n
  rcases Nat.eq_zero_or_pos n with h0 | h0
  · obtain ⟨A1, c1, rfl⟩ := hown.form
    subst h0
    rw [hln]
    clear hown hln
    go_enter Try.func108, Try.ntmps108
    go_wp2
    refine wp_loop_rounds 1 ?_
    rw [rounds_succ]
    go_wp2
    go_ret
    exact ⟨rfl, 0, rfl⟩
  · obtain ⟨g, c, rfl, hbg, hglt, hcell, _⟩ := hown.rows (by omega)
    have Hc := Lib.hid (show ∀ j, j < n → w.cell? ⟨g, j, none⟩ = some (.int .i64 (1 + (j : Int))) from fun j hj => by rw [hcell j (by omega), marksI_at, show ((1 + j : Nat) : Int) = 1 + (j : Int) by omega])
    rw [hln]
    clear hcell hown hln
    go_enter Try.func108, Try.ntmps108
    go_wp2
    go_loopw [1, 5] (fun q i wr => ∃ k : Nat, k ≤ n ∧ q = .int .i64 (1 + (k : Int)) ∧ i = .int .i64 (k : Int) ∧ ∃ d, wr = w.drewN d) (fun _ i _ => n - (intOf i).toNat)
    case atStart => exact ⟨0, by omega, rfl, rfl, 0, rfl⟩
    case round =>
      obtain ⟨k, hk, rfl, rfl, d, rfl⟩ := hrel
      by_cases hlt : k < n
      · have hd : decide (k < n) = true := by simp; omega
        have hc := Hc.out k hlt
        go_wp2
        refine ⟨⟨k + 1, by omega, by go_num, by go_num, _, rfl⟩, by simp [intOf]; omega⟩
      · have hd : decide (k < n) = false := by simp; omega
        obtain rfl : k = n := by omega
        clear hlt
        go_wp2
        go_ret
        exact ⟨by go_num, d, rfl⟩
end Go.Proofs.Ytckofkdeedbbgaa
