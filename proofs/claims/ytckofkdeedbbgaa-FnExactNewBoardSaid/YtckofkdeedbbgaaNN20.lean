/- What this text proves: the parts BdT, LmC, SZ, NbM of the proof, each under its own words. -/
import Derived.Test.YtckofkdeedbbgaaNN17
import Derived.Test.YtckofkdeedbbgaaNN19
import Derived.Test.YtckofkdeedbbgaaNN05
import Derived.Lib.SliceRun
import Derived.Test.YtckofkdeedbbgaaNN01
/- What this text proves: boards as things that lie apart: to be read, marked; the laws' own comparison and marks over them. -/
namespace Go.Proofs.Ytckofkdeedbbgaa
open Go.ChangeShapes Go.WideShapes Go.ChangeAt Go.RowKit
set_option linter.unusedVariables false

/-- The lists of a board, as things. -/
abbrev bdLs (b : Bd) (a : BdA) : List Thing := [lsT 1 (.slice a.aP b.ps.length a.cP) (b.ps.map inC), lsT 3 (.slice a.aL b.ls.length a.cL) (b.ls.map lmC), lsT 5 (.slice a.aO b.os.length a.cO) (b.os.map wtC), lsT 3 (.slice a.aD b.ds.length a.cD) (b.ds.map dnC), roT (roV b.r (.slice a.aR b.rs.length a.cR) (.slice a.aX b.xs.length a.cX)) b.r b.rs b.xs, lsT 1 (.slice a.aQ b.qs.length a.cQ) (b.qs.map inC)]
def blkBv (v : Value) (k : Nat) : Prop := ∃ (b : Bd) (a : BdA), v = bdV b a ∧ blkBd b a k
theorem blkBv_iff {b : Bd} {a : BdA} {k : Nat} : blkBv (bdV b a) k ↔ blkBd b a k := by
  constructor
  · rintro ⟨b', a', e, h⟩
    simp only [bdV, Value.agg.injEq, Array.mk.injEq, List.cons.injEq, and_true] at e
    obtain ⟨_, e1, _, e2, e3, e4, _, e5, e6, _, _, e7⟩ := e
    unfold blkBd at h ⊢
    rw [e1, e2, e3, e4, e7]
    rcases h with h | h | h | h | h | h
    · exact .inl h
    · exact .inr (.inl h)
    · exact .inr (.inr (.inl h))
    · exact .inr (.inr (.inr (.inl h)))
    · refine .inr (.inr (.inr (.inr (.inl ?_))))
      rw [blkRo_iff] at h ⊢
      rw [e5, e6]
      exact h
    · exact .inr (.inr (.inr (.inr (.inr h))))
  · intro h
    exact ⟨b, a, rfl, h⟩
theorem blkBd_mem {b : Bd} {a : BdA} {k : Nat} : blkBd b a k ↔ ∃ t ∈ bdLs b a, t.F k := by
  unfold blkBd bdLs
  simp only [List.mem_cons, List.not_mem_nil, or_false]
  constructor
  · rintro (h | h | h | h | h | h)
    · exact ⟨_, .inl rfl, h⟩
    · exact ⟨_, .inr (.inl rfl), h⟩
    · exact ⟨_, .inr (.inr (.inl rfl)), h⟩
    · exact ⟨_, .inr (.inr (.inr (.inl rfl))), h⟩
    · exact ⟨_, .inr (.inr (.inr (.inr (.inl rfl)))), h⟩
    · exact ⟨_, .inr (.inr (.inr (.inr (.inr rfl)))), h⟩
  · rintro ⟨t, h | h | h | h | h | h, hk⟩ <;> subst h
    · exact .inl hk
    · exact .inr (.inl hk)
    · exact .inr (.inr (.inl hk))
    · exact .inr (.inr (.inr (.inl hk)))
    · exact .inr (.inr (.inr (.inr (.inl hk))))
    · exact .inr (.inr (.inr (.inr (.inr hk))))
/-- A board of the call's own, to be read. -/
def bdT (v : Value) (b : Bd) : Thing where
  F := blkBv v
  P := fun W => ∃ a, v = bdV b a ∧ (allT (bdLs b a)).P W
  lt := fun W h k hk => by
    obtain ⟨a, rfl, h1⟩ := h
    exact (allT (bdLs b a)).lt W h1 k (blkBd_mem.1 (blkBv_iff.1 hk))
  keep := fun W W' S h ht hne => by
    obtain ⟨a, rfl, h1⟩ := h
    exact ⟨a, rfl, (allT (bdLs b a)).keep W W' S h1 ht (fun k hk => hne k (blkBv_iff.2 (blkBd_mem.2 hk)))⟩
/-- A board that bears marks. -/
theorem MkBd.touch {w w' : World} {base : Nat} {v : Value} {M : Nat} {b : Bd} {S : Nat → Prop} (h : MkBd w base v M b) (ht : Touch w w' S) (hne : ∀ k, blkBv v k → ¬ S k) : MkBd w' base v M b := by
  obtain ⟨a, rfl, h1, h2, h3, h4, h5, h6⟩ := h.form
  have hn : ∀ k, blkBd b a k → ¬ S k := fun k hk => hne k (blkBv_iff.2 hk)
  exact ⟨a, rfl, LsO.touch h1 ht (fun k hk => hn k (.inl hk)), LsO.touch h2 ht (fun k hk => hn k (.inr (.inl hk))), LsO.touch h3 ht (fun k hk => hn k (.inr (.inr (.inl hk)))), LsO.touch h4 ht (fun k hk => hn k (.inr (.inr (.inr (.inl hk))))), MkRo.touch h5 ht (fun k hk => hn k (.inr (.inr (.inr (.inr (.inl hk)))))), LsO.touch h6 ht (fun k hk => hn k (.inr (.inr (.inr (.inr (.inr hk))))))⟩
theorem MkBd.blk {w : World} {base : Nat} {v : Value} {M : Nat} {b : Bd} (h : MkBd w base v M b) {k : Nat} (hk : blkBv v k) : k < w.heap.size := by
  obtain ⟨a, rfl, h1, h2, h3, h4, h5, h6⟩ := h.form
  rcases blkBv_iff.1 hk with e | e | e | e | e | e
  · exact (LsO.up h1 k e).2
  · exact (LsO.up h2 k e).2
  · exact (LsO.up h3 k e).2
  · exact (LsO.up h4 k e).2
  · exact h5.blk e
  · exact (LsO.up h6 k e).2
def bmT (v : Value) (M : Nat) (b : Bd) : Thing := ⟨blkBv v, fun W => MkBd W 0 v M b, fun W h k hk => h.blk hk, fun W W' S h ht hne => h.touch ht hne⟩
theorem bdT.own {W : World} {v : Value} {b : Bd} (h : (bdT v b).P W) : OwnBd W 0 v b := by
  obtain ⟨a, rfl, h1, h2⟩ := h
  have g := fun i (hi : i < (bdLs b a).length) => h1 _ (List.getElem_mem hi)
  exact ⟨a, rfl, g 0 (by simp), g 1 (by simp), g 2 (by simp), g 3 (by simp), g 4 (by simp), g 5 (by simp)⟩
theorem bdT.apart {W : World} {b : Bd} {a : BdA} (h : (allT (bdLs b a)).P W) : BdApart b a := by
  have hp := List.pairwise_iff_getElem.1 h.2
  exact ⟨hp 0 1 (by simp) (by simp) (by omega), hp 0 2 (by simp) (by simp) (by omega), hp 0 3 (by simp) (by simp) (by omega), hp 0 4 (by simp) (by simp) (by omega), hp 0 5 (by simp) (by simp) (by omega), hp 1 2 (by simp) (by simp) (by omega), hp 1 3 (by simp) (by simp) (by omega), hp 1 4 (by simp) (by simp) (by omega), hp 1 5 (by simp) (by simp) (by omega), hp 2 3 (by simp) (by simp) (by omega), hp 2 4 (by simp) (by simp) (by omega), hp 2 5 (by simp) (by simp) (by omega), hp 3 4 (by simp) (by simp) (by omega), hp 3 5 (by simp) (by simp) (by omega), hp 4 5 (by simp) (by simp) (by omega)⟩
theorem bdSz_of {b : Bd} (h : bdSum b ≤ 1048576) : BdSz b := by
  unfold bdSum at h
  exact ⟨by omega, by omega, by omega, by omega, by omega, by omega, by omega, by omega⟩
theorem eq_bdT (b : Bd) (hS : bdSum b ≤ 1048576) (v1 v2 : Value) (w : World) (h1 : (bdT v1 b).P w) (h2 : (bdT v2 b).P w) :
    Calls Try.prog 46 #[v1, v2] w fun e w' => e = .returned (.bool true) ∧ Below w.heap.size w w' := eq_bd b (bdSz_of hS) v1 v2 0 0 w (bdT.own h1) (bdT.own h2)
/-- How many marks a board bears. -/
def bdN (b : Bd) : Nat := b.ps.length + 3 * b.ls.length + 5 * b.os.length + 3 * b.ds.length + 4 * b.rs.length + b.xs.length + b.qs.length
theorem mark_bdT (b : Bd) (hS : bdSum b ≤ 1048576) (v : Value) (w : World) (h : (bdT v b).P w) :
    Calls Try.prog 49 #[v, .int .i64 1] w fun e w' => e = .returned (.int .i64 ((1 + bdN b : Nat) : Int)) ∧ Touch w w' (blkBv v) ∧ (bmT v 1 b).P w' := by
  obtain ⟨a, rfl, h1⟩ := h
  have g := fun i (hi : i < (bdLs b a).length) => h1.1 _ (List.getElem_mem hi)
  refine (mark_bd b a hS 0 1 (Nat.le_refl _) (by omega) w (bdT.apart h1) (g 0 (by simp)) (g 1 (by simp)) (g 2 (by simp)) (g 3 (by simp)) (g 4 (by simp)) (g 5 (by simp))).mono fun e w' hh => ⟨?_, hh.2.1.mono (fun k hk => blkBv_iff.2 hk), hh.2.2⟩
  rw [hh.1]
  unfold bdN
  congr 3
  omega
theorem held_bdT (b : Bd) (hS : bdSum b ≤ 1048576) (v : Value) (w : World) (h : (bmT v 1 b).P w) :
    Calls Try.prog 50 #[v, .int .i64 1] w fun e w' => e = .returned (.int .i64 ((1 + bdN b : Nat) : Int)) ∧ Below w.heap.size w w' := by
  refine (held_bd b hS v 0 1 (Nat.le_refl _) (by omega) w h).mono fun e w' hh => ⟨?_, hh.2⟩
  rw [hh.1]
  unfold bdN
  congr 3
  omega
end Go.Proofs.Ytckofkdeedbbgaa
/- What this text proves: the contract of slices.Clone over lists of limits. -/
namespace Go.Proofs.Ytckofkdeedbbgaa
open Go.ChangeShapes Go.WideShapes Go.ChangeAt Go.RowKit
set_option linter.unusedVariables false


set_option maxHeartbeats 1000000 in
theorem clone_lms (A : Option Addr) (l : List Lm) (k : Nat) (hl : l.length ≤ 1099511) (w : World) (h : LsI 3 w w.heap.size A (l.map lmC)) :
    Calls Try.prog 51 #[.slice A l.length k] w fun e w' => ∃ A1 c1, e = .returned (.slice A1 l.length c1) ∧ OwnR 57 3 w' w.heap.size (.slice A1 l.length c1) (l.map lmC) ∧ Below w.heap.size w w' := by
  have hq : ∀ (w : World) (a : Option Addr) (n c n' c' : Nat), (binOp .eql 25 (.slice a n c) (.slice none n' c')).run Try.prog w = .ok (.bool a.isNone) w := fun w a n c n' c' => Lib.run_eql_slice_nil w _ _ a n c n' c' Try.underlying25
  have HB := Lib.hid ((Below.refl _ w).alloc (Nat.le_refl _) (.cells #[] 57))
  have HE := Lib.hid (OwnR.empty (E := 57) (sz := 3) w w.heap.size (Nat.le_refl _))
  cases A with
  | none =>
    have h0 : l = [] := by
      rcases h with h0 | ⟨b, off, hA, _⟩
      · rw [List.length_map] at h0; exact List.eq_nil_of_length_eq_zero h0
      · cases hA
    subst h0
    clear h
    go_enter Try.func51, Try.ntmps51
    go_wp2
    go_ret
    exact ⟨none, 0, rfl, OwnR.nil _ _ _ _, Below.refl _ _⟩
  | some a =>
    have HI := Lib.hid ((h.more HB.out).rows (lm_len l))
    obtain ⟨i, hi, hz0, hz1, hz2⟩ := info_parts info_lm
    have Hi := Lib.hid hi
    have Hz0 := Lib.hid hz0
    have Hz1 := Lib.hid hz1
    have Hz2 := Lib.hid hz2
    clear h hi hz0 hz1 hz2
    go_enter Try.func51, Try.ntmps51
    go_wp2_with (at_builtin; go_loud (refine app_rows 57 25 3 24 (.agg #[.int .i64 0, .int .i64 0, .int .i64 0]) i _ rfl _ _ rfl Try.underlying25 Hi.out Hz0.out Hz1.out Hz2.out rfl (by decide) (by decide) w.heap.size (.slice (some ⟨w.heap.size, 0, none⟩) 0 0) [] rfl HE.out (some a) (l.map lmC) k (by rw [List.length_map]; rfl) (lm_len l) (lm_one l) HI.out (by simpa using hl) (by simp) ?_))
    intro v w2 hown hg _
    replace hown : OwnR 57 3 w2 w.heap.size v (l.map lmC) := hown
    obtain ⟨A2, c2, rfl⟩ := hown.form
    rw [List.length_map] at hown ⊢
    have HO := Lib.hid hown
    have HB2 := Lib.hid (HB.out.grown hg (by simp) fun k hk => (World.ownsRow.lt HE.out.1 k hk).1)
    clear hown hg
    go_wp2
    go_ret
    exact ⟨_, _, rfl, HO.out, HB2.out⟩
end Go.Proofs.Ytckofkdeedbbgaa
/- What this text proves: things that a drawn region makes, beside one box that it may make at any moment. -/
namespace Go.Proofs.Ytckofkdeedbbgaa
open Go.ChangeShapes Go.WideShapes Go.ChangeAt Go.RowKit
set_option linter.unusedVariables false

def optB : Option (Nat × List Value) → List Thing
  | none => []
  | some z => [boxT z.1 z.2]
/-- What has been made since the world b: some things, and the region's own box once it is there. -/
structure SZ (b W : World) (zo : Option (Nat × List Value)) (L : List Thing) : Prop where
  st : St b W (optB zo ++ L)
theorem SZ.start (b : World) : SZ b b none [] := ⟨St.start b⟩
theorem SZ.more {b W W' : World} {zo : Option (Nat × List Value)} {L : List Thing} (h : SZ b W zo L) (hb : Below W.heap.size W W') : SZ b W' zo L := ⟨h.st.more hb⟩
theorem SZ.drew {b W : World} {zo : Option (Nat × List Value)} {L : List Thing} (h : SZ b W zo L) : SZ b W.drew zo L := ⟨h.st.drew⟩
theorem SZ.below {b W : World} {zo : Option (Nat × List Value)} {L : List Thing} (h : SZ b W zo L) : Below b.heap.size b W := h.st.below
theorem SZ.new {b W : World} {L : List Thing} (h : SZ b W none L) (zs : List Value) (T : TypeId) : SZ b (W.alloc (.cells zs.toArray T)) (some (W.heap.size, zs)) L := ⟨h.st.made zs T⟩
theorem SZ.add {b W W' : World} {zo : Option (Nat × List Value)} {L : List Thing} (h : SZ b W zo L) (t : Thing) (hb : Below W.heap.size W W') (hp : t.P W') (hn : ∀ k, t.F k → W.heap.size ≤ k) : SZ b W' zo (t :: L) := by
  cases zo with
  | none => exact ⟨h.st.add t hb hp hn⟩
  | some z =>
    refine ⟨?_⟩
    have h1 := h.st.add t hb hp hn
    have h2 : St b W' ((t :: boxT z.1 z.2 :: L)) := h1
    refine ⟨h2.below, fun s hs => h2.all s ?_, fun s hs => h2.past s ?_, ?_⟩
    · have h3 : s ∈ boxT z.1 z.2 :: t :: L := hs
      simp only [List.mem_cons] at h3 ⊢
      rcases h3 with h3 | h3 | h3
      · exact .inr (.inl h3)
      · exact .inl h3
      · exact .inr (.inr h3)
    · have h3 : s ∈ boxT z.1 z.2 :: t :: L := hs
      simp only [List.mem_cons] at h3 ⊢
      rcases h3 with h3 | h3 | h3
      · exact .inr (.inl h3)
      · exact .inl h3
      · exact .inr (.inr h3)
    · have h4 := List.pairwise_cons.1 h2.apart
      have h5 := List.pairwise_cons.1 h4.2
      refine List.pairwise_cons.2 ⟨fun u hu k hk hk2 => ?_, List.pairwise_cons.2 ⟨fun u hu => h4.1 u (List.mem_cons_of_mem _ hu), h5.2⟩⟩
      rcases List.mem_cons.1 hu with rfl | hu
      · exact h4.1 _ (List.mem_cons_self ..) k hk2 hk
      · exact h5.1 u hu k hk hk2
theorem SZ.has {b W : World} {zo : Option (Nat × List Value)} {L : List Thing} (h : SZ b W zo L) (t : Thing) (ht : t ∈ L) : t.P W := h.st.all t (List.mem_append_right _ ht)
theorem SZ.box {b W : World} {g : Nat} {zs : List Value} {L : List Thing} (h : SZ b W (some (g, zs)) L) : Box W g zs := h.st.box 0 g zs rfl
/-- The box is made at the end, with its values. -/
theorem SZ.fin_made {b W : World} {zo : Option (Nat × List Value)} {L : List Thing} (h : SZ b W zo L) (us : List Value) (T : TypeId) : St b (W.alloc (.cells us.toArray T)) (boxT W.heap.size us :: L) :=
  (h.st.sub (List.sublist_append_right _ _)).made us T
/-- The box was there, and is stored. -/
theorem SZ.fin_put {b W : World} {g : Nat} {zs : List Value} {L : List Thing} (h : SZ b W (some (g, zs)) L) (us : List Value) (hl : us.length = zs.length) : St b (W.setCells g 0 us) (boxT g us :: L) := h.st.setAll 0 g zs rfl us hl
/-- Things of before a world, and things that were made since. -/
theorem St.trans {w b W : World} {L L' : List Thing} (h : St w b L) (h' : St b W L') : St w W (L' ++ L) := by
  have h0 := h.more h'.below
  have hz := h.below.size
  refine ⟨h0.below, fun t ht => ?_, fun t ht k hk => ?_, List.pairwise_append.2 ⟨h'.apart, h0.apart, fun a ha c hc k hk hk2 => ?_⟩⟩
  · rcases List.mem_append.1 ht with ht | ht
    · exact h'.all t ht
    · exact h0.all t ht
  · rcases List.mem_append.1 ht with ht | ht
    · exact Nat.le_trans hz (h'.past t ht k hk)
    · exact h0.past t ht k hk
  · have h1 := h'.past a ha k hk
    have h2 := h.fresh c hc k hk2
    omega
/-- A thing of before is there still. -/
theorem Thing.stays {t : Thing} {b W : World} (h : t.P b) (hb : Below b.heap.size b W) : t.P W := t.keep b W (fun _ => False) h (Touch.of_below hb _) (fun _ _ e => e)
end Go.Proofs.Ytckofkdeedbbgaa
/- What this text proves: what NewBoard answers, as a board and a Bool; new memory that a board is made of. -/
namespace Go.Proofs.Ytckofkdeedbbgaa
open Go.ChangeShapes Go.WideShapes Go.ChangeAt Go.RowKit
set_option linter.unusedVariables false

theorem Box.twelve {W : World} {g : Nat} {x0 x1 x2 x3 x4 x5 x6 x7 x8 x9 x10 x11 : Value} (h : Box W g [x0, x1, x2, x3, x4, x5, x6, x7, x8, x9, x10, x11]) : W.cell? ⟨g, 0, none⟩ = some x0 ∧ W.cell? ⟨g, 1, none⟩ = some x1 ∧ W.cell? ⟨g, 2, none⟩ = some x2 ∧ W.cell? ⟨g, 3, none⟩ = some x3 ∧ W.cell? ⟨g, 4, none⟩ = some x4 ∧ W.cell? ⟨g, 5, none⟩ = some x5 ∧ W.cell? ⟨g, 6, none⟩ = some x6 ∧ W.cell? ⟨g, 7, none⟩ = some x7 ∧ W.cell? ⟨g, 8, none⟩ = some x8 ∧ W.cell? ⟨g, 9, none⟩ = some x9 ∧ W.cell? ⟨g, 10, none⟩ = some x10 ∧ W.cell? ⟨g, 11, none⟩ = some x11 :=
  ⟨h.cell 0 (by simp), h.cell 1 (by simp), h.cell 2 (by simp), h.cell 3 (by simp), h.cell 4 (by simp), h.cell 5 (by simp), h.cell 6 (by simp), h.cell 7 (by simp), h.cell 8 (by simp), h.cell 9 (by simp), h.cell 10 (by simp), h.cell 11 (by simp)⟩
def newB (r : Int) (ll : List Lm) : Bd := ⟨0, List.replicate 8 0, false, ll, [], [], r, [], [], 0, 0, []⟩
def bd0 : Bd := ⟨0, [], false, [], [], [], 0, [], [], 0, 0, []⟩
def bdA0 : BdA := ⟨none, 0, none, 0, none, 0, none, 0, none, 0, none, 0, none, 0⟩
def bdAn (g : Nat) (A : Option Addr) (c : Nat) : BdA := ⟨some ⟨g, 0, none⟩, 8, A, c, none, 0, none, 0, none, 0, none, 0, none, 0⟩
noncomputable def nbR (r : Int) (ll : List Lm) : Bd × Bool := open Classical in if BrdOk (newB r ll) then (newB r ll, true) else (bd0, false)
theorem nbR_yes {r : Int} {ll : List Lm} (h : BrdOk (newB r ll)) : nbR r ll = (newB r ll, true) := by unfold nbR; rw [if_pos h]
theorem nbR_no {r : Int} {ll : List Lm} (h : ¬ BrdOk (newB r ll)) : nbR r ll = (bd0, false) := by unfold nbR; rw [if_neg h]
theorem newB_sum (r : Int) (ll : List Lm) : bdSum (newB r ll) = 8 + ll.length := by simp [bdSum, newB, totRc]
theorem bd0_sum : bdSum bd0 = 0 := by simp [bdSum, bd0, totRc]
theorem nbR_sum (r : Int) (ll : List Lm) (h : ll.length ≤ 1048000) : bdSum (nbR r ll).1 ≤ 1048576 := by
  by_cases hb : BrdOk (newB r ll)
  · rw [nbR_yes hb]; show bdSum (newB r ll) ≤ _; rw [newB_sum]; omega
  · rw [nbR_no hb]; show bdSum bd0 ≤ _; rw [bd0_sum]; omega
/-- A call that hands back a board of its own, and a Bool. -/
def BbEnd (w : World) (R : Bd × Bool) (e : Ending) (w' : World) : Prop := ∃ v, e = .returned (.tuple #[v, .bool R.2]) ∧ (bdT v R.1).P w' ∧ (∀ k, (bdT v R.1).F k → w.heap.size ≤ k) ∧ Below w.heap.size w w'
theorem bd0_P (W : World) : (bdT (bdV bd0 bdA0) bd0).P W := by
  refine ⟨bdA0, rfl, fun t ht => ?_, ?_⟩
  · simp only [bdLs, List.mem_cons, List.not_mem_nil, or_false] at ht
    rcases ht with rfl | rfl | rfl | rfl | rfl | rfl
    · exact LsO.nil0 1 _ _ 0
    · exact LsO.nil0 3 _ _ 0
    · exact LsO.nil0 5 _ _ 0
    · exact LsO.nil0 3 _ _ 0
    · exact ⟨none, 0, none, 0, rfl, LsO.nil0 4 _ _ 0, LsO.nil0 1 _ _ 0, fun k hk => by cases hk⟩
    · exact LsO.nil0 1 _ _ 0
  · have hF : ∀ t ∈ bdLs bd0 bdA0, ∀ k, ¬ t.F k := fun t ht k hk => by
      simp only [bdLs, List.mem_cons, List.not_mem_nil, or_false] at ht
      rcases ht with rfl | rfl | rfl | rfl | rfl | rfl
      · cases hk
      · cases hk
      · cases hk
      · cases hk
      · rcases blkRo_iff.1 hk with e | e <;> cases e
      · cases hk
    refine List.pairwise_iff_getElem.2 fun i j hi hj _ k hk => absurd hk (hF _ (List.getElem_mem hi) k)
theorem bd0_F (k : Nat) : ¬ (bdT (bdV bd0 bdA0) bd0).F k := fun h => by
  rcases blkBv_iff.1 h with e | e | e | e | e | e
  · cases e
  · cases e
  · cases e
  · cases e
  · rcases blkRo_iff.1 e with e | e <;> cases e
  · cases e
/-- Eight zeros and a list of limits that lie apart make a new board. -/
theorem newB_P {w W : World} {L : List Thing} (h : St w W L) (r : Int) {g : Nat} {A : Option Addr} {c : Nat} {ll : List Lm} (i j : Nat) (ei : L[i]? = some (lsT 1 (.slice (some ⟨g, 0, none⟩) 8 8) ((List.replicate 8 (0 : Int)).map inC))) (ej : L[j]? = some (lsT 3 (.slice A ll.length c) (ll.map lmC))) (hne : i ≠ j) :
    (bdT (bdV (newB r ll) (bdAn g A c)) (newB r ll)).P W ∧ (∀ k, (bdT (bdV (newB r ll) (bdAn g A c)) (newB r ll)).F k → w.heap.size ≤ k) ∧ BdAt W W.heap.size (newB r ll) (bdAn g A c) := by
  have hi := h.ls i _ _ _ ei
  have hj := h.ls j _ _ _ ej
  have hF : ∀ t ∈ bdLs (newB r ll) (bdAn g A c), ∀ k, t.F k → t = lsT 1 (.slice (some ⟨g, 0, none⟩) 8 8) ((List.replicate 8 (0 : Int)).map inC) ∨ t = lsT 3 (.slice A ll.length c) (ll.map lmC) := fun t ht k hk => by
    simp only [bdLs, List.mem_cons, List.not_mem_nil, or_false] at ht
    rcases ht with rfl | rfl | rfl | rfl | rfl | rfl
    · exact .inl rfl
    · exact .inr rfl
    · cases hk
    · cases hk
    · rcases blkRo_iff.1 hk with e | e <;> cases e
    · cases hk
  refine ⟨⟨bdAn g A c, rfl, fun t ht => ?_, ?_⟩, fun k hk => ?_, ⟨LsO.ats hi, LsO.ats hj, .inl rfl, .inl rfl, .inl rfl, .inl rfl, .inl rfl⟩⟩
  · simp only [bdLs, List.mem_cons, List.not_mem_nil, or_false] at ht
    rcases ht with rfl | rfl | rfl | rfl | rfl | rfl
    · exact hi
    · exact hj
    · exact LsO.nil0 5 _ _ 0
    · exact LsO.nil0 3 _ _ 0
    · exact ⟨none, 0, none, 0, rfl, LsO.nil0 4 _ _ 0, LsO.nil0 1 _ _ 0, fun k hk => by cases hk⟩
    · exact LsO.nil0 1 _ _ 0
  · have h2 : ∀ k, (Value.slice (some ⟨g, 0, none⟩) 8 8).ownBlock = some k → ¬ (Value.slice A ll.length c).ownBlock = some k := h.two i j _ _ ei ej hne
    refine List.pairwise_cons.2 ⟨fun b hb k hk hbk => ?_, List.pairwise_iff_getElem.2 fun x y hx hy hxy k hk hbk => ?_⟩
    · rcases hF b (List.mem_cons_of_mem _ hb) k hbk with e | e
      · simp only [List.mem_cons, List.not_mem_nil, or_false] at hb
        rcases hb with rfl | rfl | rfl | rfl | rfl
        · exact h2 k hk hbk
        · cases hbk
        · cases hbk
        · rcases blkRo_iff.1 hbk with e | e <;> cases e
        · cases hbk
      · rw [e] at hbk
        exact h2 k hk hbk
    · rcases y with _ | _ | _ | _ | _ | y
      · omega
      · cases hbk
      · cases hbk
      · rcases blkRo_iff.1 hbk with e | e <;> cases e
      · cases hbk
      · simp at hy; omega
  · obtain ⟨t, ht, hk⟩ := blkBd_mem.1 (blkBv_iff.1 hk)
    rcases hF t ht k hk with e | e
    · rw [e] at hk; exact h.nthPast i _ ei k hk
    · rw [e] at hk; exact h.nthPast j _ ej k hk
theorem make8 (W : World) : (Instr.makeSlice 24 (.int .i64 8) (.int .i64 8)).run Try.prog W = .ok (.slice (some ⟨W.heap.size, 0, none⟩) 8 8) (W.alloc (.cells (madeCells (Value.int .i64 0).cells 8) 3)) := make_fullI W 8 (by omega)
theorem St.make8 {w W : World} {L : List Thing} (h : St w W L) : St w (W.alloc (.cells (madeCells (Value.int .i64 0).cells 8) 3)) (lsT 1 (.slice (some ⟨W.heap.size, 0, none⟩) 8 8) ((List.replicate 8 (0 : Int)).map inC) :: L) := by
  have hu := (make_rowI W 8 (by omega)).own.toO
  exact h.add _ ((Below.refl _ _).alloc (Nat.le_refl _) _) (LsO.lower hu (Nat.zero_le _)) (fun k hk => (hu.up k hk).1)
end Go.Proofs.Ytckofkdeedbbgaa
