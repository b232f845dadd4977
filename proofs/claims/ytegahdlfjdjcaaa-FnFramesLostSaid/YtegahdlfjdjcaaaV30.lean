/- What this text proves: the parts TakN, PshN of the proof, each under its own words. -/
import Derived.Test.YtegahdlfjdjcaaaV20
import Derived.Test.YtegahdlfjdjcaaaV28
import Derived.Test.YtegahdlfjdjcaaaV29
import Derived.Test.YtegahdlfjdjcaaaV12
import Derived.Test.YtegahdlfjdjcaaaV27
/- What this text proves: what taking frames until there is none answers, as numbers and bytes; the boxes of a walk over it. -/
namespace Go.Proofs.Ytegahdlfjdjcaaa
open Go.ChangeShapes Go.WideShapes Go.ChangeAt Go.RowKit
set_option linter.unusedVariables false

/-- A packer's Count, Rest and Starts. -/
abbrev Pa3 := Int × ByteArray × List Int
noncomputable def oneT (c : Int) (s : Pa3) : Pa3 := (tkN c s.1 s.2.1 s.2.2, tkR c s.1 s.2.1 s.2.2, tkL c s.1 s.2.1 s.2.2)
noncomputable def itT (c : Int) (s : Pa3) : Nat → Pa3
  | 0 => s
  | k + 1 => oneT c (itT c s k)
noncomputable def oneB (c : Int) (s : Pa3) : Bool := tkB c s.1 s.2.1 s.2.2
noncomputable def oneF (c : Int) (s : Pa3) : Fr := tkF c s.1 s.2.1 s.2.2
noncomputable def flT (c : Int) (s : Pa3) : Nat → List Fr
  | 0 => []
  | k + 1 => flT c s k ++ [oneF c (itT c s k)]
theorem flT_len (c : Int) (s : Pa3) (k : Nat) : (flT c s k).length = k := by
  induction k with
  | zero => rfl
  | succ k ih => simp only [flT, List.length_append, ih, List.length_cons, List.length_nil]
/-- There are exactly K frames. -/
def Runs (c : Int) (s : Pa3) (K : Nat) : Prop := (∀ k, k < K → oneB c (itT c s k) = true) ∧ oneB c (itT c s K) = false
theorem oneB_ok {c : Int} {s : Pa3} (h : oneB c s = true) : TkOk c s.1 s.2.1 s.2.2 := by
  by_cases h1 : TkOk c s.1 s.2.1 s.2.2
  · exact h1
  · have h2 := tkB_no h1
    unfold oneB at h
    rw [h2] at h
    cases h
theorem oneT_no {c : Int} {s : Pa3} (h : oneB c s = false) : oneT c s = s := by
  unfold oneB at h
  unfold oneT tkN tkR tkL
  rw [h]
  rfl
theorem oneT_size {c : Int} {s : Pa3} (h : oneB c s = true) : (oneT c s).2.1.size + 24 = s.2.1.size := by
  have h24 := (oneB_ok h).2
  unfold oneB at h
  unfold oneT tkR
  rw [h]
  show (s.2.1.extract 24 s.2.1.size).size + 24 = s.2.1.size
  rw [ByteArray.size_extract]
  omega
theorem oneT_le {c : Int} {s : Pa3} : (oneT c s).2.1.size ≤ s.2.1.size := by
  cases h : oneB c s
  · rw [oneT_no h]; exact Nat.le_refl _
  · have := oneT_size h; omega
theorem itT_le (c : Int) (s : Pa3) (k : Nat) : (itT c s k).2.1.size ≤ s.2.1.size ∧ (itT c s k).2.2.length ≤ s.2.2.length := by
  induction k with
  | zero => exact ⟨Nat.le_refl _, Nat.le_refl _⟩
  | succ k ih => exact ⟨Nat.le_trans oneT_le ih.1, Nat.le_trans (tkL_len c _ _ _) ih.2⟩
theorem itT_size {c : Int} {s : Pa3} : ∀ k, (∀ j, j < k → oneB c (itT c s j) = true) → (itT c s k).2.1.size + 24 * k = s.2.1.size := by
  intro k
  induction k with
  | zero => intro _; rfl
  | succ k ih =>
    intro h
    have h1 := ih (fun j hj => h j (by omega))
    have h2 := oneT_size (h k (by omega))
    show (oneT c (itT c s k)).2.1.size + 24 * (k + 1) = s.2.1.size
    omega
theorem runs_ex (c : Int) (s : Pa3) : ∃ K, Runs c s K ∧ 24 * K ≤ s.2.1.size := by
  have h : ∀ N, (∃ K, Runs c s K) ∨ ∀ j, j < N → oneB c (itT c s j) = true := by
    intro N
    induction N with
    | zero => exact .inr fun j hj => absurd hj (Nat.not_lt_zero _)
    | succ N ih =>
      rcases ih with h1 | h1
      · exact .inl h1
      · cases hN : oneB c (itT c s N)
        · exact .inl ⟨N, h1, hN⟩
        · refine .inr fun j hj => ?_
          rcases Nat.lt_or_ge j N with h2 | h2
          · exact h1 j h2
          · obtain rfl : j = N := by omega
            exact hN
  rcases h (s.2.1.size + 1) with ⟨K, hK⟩ | h1
  · refine ⟨K, hK, ?_⟩
    have := itT_size K hK.1
    omega
  · have := itT_size _ h1
    omega

theorem own_apartF {w : World} {b1 b2 : Nat} {v1 v2 : Value} {l1 : List Int} {l2 : List Fr} (h1 : OwnI w b1 v1 l1) (h2 : OwnF w b2 v2 l2) : v1.ownBlock = none ∨ v1.ownBlock ≠ v2.ownBlock := by
  rcases h1.2 with ⟨rfl, _⟩ | ⟨g1, cap1, cur1, rfl, _, hh1, _⟩
  · exact .inl rfl
  · rcases h2.1.2 with ⟨rfl, _⟩ | ⟨g2, cap2, cur2, rfl, _, hh2, _⟩
    · exact .inr (by intro e; cases e)
    · refine .inr fun e => ?_
      have e2 : g1 = g2 := by injection e
      subst e2
      rw [hh1] at hh2
      injection hh2 with h3
      injection h3 with _ h4
      exact absurd h4 (by decide)

/-- The boxes of a walk over TakeFrames: what it was handed, its answer, one more; the Starts and the frames. -/
structure TL (w W : World) (gx : Nat) (p r x : List Value) (v v2 : Value) (l : List Int) (fs : List Fr) : Prop where
  below : Below w.heap.size w W
  bp : Box W w.heap.size p
  br : Box W (w.heap.size + 1) r
  bx : Box W gx x
  oi : OwnI W (w.heap.size + 2) v l
  ow : OwnF W (w.heap.size + 2) v2 fs
  fx : w.heap.size + 2 ≤ gx
  ni : v.ownBlock ≠ some gx
  no : v2.ownBlock ≠ some gx
theorem TL.far {w W : World} {gx : Nat} {p r x : List Value} {v v2 : Value} {l : List Int} {fs : List Fr} (h : TL w W gx p r x v v2 l fs) : w.heap.size + 2 ≤ W.heap.size := Nat.le_trans h.fx (Nat.le_of_lt h.bx.lt)
theorem TL.more {w W W' : World} {gx : Nat} {p r x : List Value} {v v2 : Value} {l : List Int} {fs : List Fr} (h : TL w W gx p r x v v2 l fs) (hb : Below W.heap.size W W') : TL w W' gx p r x v v2 l fs :=
  ⟨h.below.trans (hb.mono h.below.size), h.bp.more hb, h.br.more hb, h.bx.more hb, h.oi.more hb, OwnR.more h.ow hb, h.fx, h.ni, h.no⟩
theorem TL.fresh {w W W' : World} {gx : Nat} {p r x : List Value} {v v2 v' : Value} {l l' : List Int} {fs : List Fr} (h : TL w W gx p r x v v2 l fs) (hb : Below W.heap.size W W') (ho : OwnI W' W.heap.size v' l') : TL w W' gx p r x v' v2 l' fs :=
  ⟨h.below.trans (hb.mono h.below.size), h.bp.more hb, h.br.more hb, h.bx.more hb, ho.lower h.far, OwnR.more h.ow hb, h.fx, fun e => by have := (World.ownsRow.lt ho _ e).1; have := h.bx.lt; omega, h.no⟩
theorem OwnI.cellsAway {W : World} {b g : Nat} {v : Value} {l : List Int} (h : OwnI W b v l) (hg : v.ownBlock ≠ some g) (us : List Value) : OwnI (W.setCells g 0 us) b v l := by
  have : ∀ (us : List Value) (o : Nat) (W : World), OwnI W b v l → OwnI (W.setCells g o us) b v l := by
    intro us
    induction us with
    | nil => intro o W h; exact h
    | cons u r ih => intro o W h; exact ih _ _ (h.away hg u)
  exact this us 0 W h
theorem TL.putP {w W : World} {gx : Nat} {p r x : List Value} {v v2 : Value} {l : List Int} {fs : List Fr} (h : TL w W gx p r x v v2 l fs) (us : List Value) (hl : us.length = p.length) : TL w (W.setCells w.heap.size 0 us) gx us r x v v2 l fs :=
  have f := h.fx
  ⟨below_setCells (Nat.le_refl _) us 0 W h.below, h.bp.all hl, Box.allOther (W := W) (by omega) us 0 _ h.br, Box.allOther (W := W) (by omega) us 0 _ h.bx, h.oi.cellsAway (fun e => by have := (World.ownsRow.lt h.oi _ e).1; omega) us, OwnR.cellsAway (fun e => by have := (OwnR.upto h.ow _ e).1; omega) us 0 _ h.ow, f, h.ni, h.no⟩
theorem TL.putR {w W : World} {gx : Nat} {p r x : List Value} {v v2 : Value} {l : List Int} {fs : List Fr} (h : TL w W gx p r x v v2 l fs) (us : List Value) (hl : us.length = r.length) : TL w (W.setCells (w.heap.size + 1) 0 us) gx p us x v v2 l fs :=
  have f := h.fx
  ⟨below_setCells (Nat.le_succ _) us 0 W h.below, Box.allOther (W := W) (by omega) us 0 _ h.bp, h.br.all hl, Box.allOther (W := W) (by omega) us 0 _ h.bx, h.oi.cellsAway (fun e => by have := (World.ownsRow.lt h.oi _ e).1; omega) us, OwnR.cellsAway (fun e => by have := (OwnR.upto h.ow _ e).1; omega) us 0 _ h.ow, f, h.ni, h.no⟩
theorem TL.putX {w W : World} {gx : Nat} {p r x : List Value} {v v2 : Value} {l : List Int} {fs : List Fr} (h : TL w W gx p r x v v2 l fs) (us : List Value) (hl : us.length = x.length) : TL w (W.setCells gx 0 us) gx p r us v v2 l fs :=
  have f := h.fx
  ⟨below_setCells (by omega) us 0 W h.below, Box.allOther (W := W) (by omega) us 0 _ h.bp, Box.allOther (W := W) (by omega) us 0 _ h.br, h.bx.all hl, h.oi.cellsAway h.ni us, OwnR.cellsAway h.no us 0 _ h.ow, f, h.ni, h.no⟩
/-- An append to the frames. -/
theorem TL.app {w W W' : World} {gx : Nat} {p r x : List Value} {v v2 v3 : Value} {l : List Int} {fs fs' : List Fr} (h : TL w W gx p r x v v2 l fs) (ho : OwnF W' (w.heap.size + 2) v3 fs') (hg : W.grownBy W' v2.ownBlock) (hor : v3.ownBlock = v2.ownBlock ∨ v3.ownBlock = some W.heap.size) : TL w W' gx p r x v v3 l fs' := by
  have f := h.fx
  have hlt := h.bx.lt
  have hne : ∀ k, k < w.heap.size + 2 → v2.ownBlock ≠ some k := fun k hk e => by have := (OwnR.upto h.ow k e).1; omega
  refine ⟨h.below.grown hg h.below.size (fun k hk => by have := (OwnR.upto h.ow k hk).1; omega), h.bp.grown hg (hne _ (by omega)), h.br.grown hg (hne _ (by omega)), h.bx.grown hg h.no, ?_, ho, f, h.ni, fun e => ?_⟩
  · exact World.ownsRow.kept h.oi hg (own_apartF h.oi h.ow)
  · rcases hor with h1 | h1
    · exact h.no (h1 ▸ e)
    · rw [h1] at e
      injection e with e2
      omega
/-- What TakeFrames answers. -/
def TakesEnd (c : Int) (s : Pa3) (K : Nat) (w : World) (e : Ending) (w' : World) : Prop :=
  ∃ v v2, e = .returned (.tuple #[paV c (itT c s K).1 (itT c s K).2.1 v, v2]) ∧ OwnI w' w.heap.size v (itT c s K).2.2 ∧ OwnF w' w.heap.size v2 (flT c s K) ∧ Below w.heap.size w w'
theorem TL.fin {w W : World} {gx : Nat} {p r x : List Value} {v v2 : Value} {l : List Int} {fs : List Fr} (h : TL w W gx p r x v v2 l fs) (us : List Value) (hl : us.length = r.length) :
    Box (W.setCells (w.heap.size + 1) 0 us) (w.heap.size + 1) us ∧ OwnI (W.setCells (w.heap.size + 1) 0 us) w.heap.size v l ∧ OwnF (W.setCells (w.heap.size + 1) 0 us) w.heap.size v2 fs ∧ Below w.heap.size w (W.setCells (w.heap.size + 1) 0 us) :=
  have h2 := h.putR us hl
  ⟨h2.br, h2.oi.lower (by omega), OwnR.lower h2.ow (by omega), h2.below⟩
end Go.Proofs.Ytegahdlfjdjcaaa
/- What this text proves: what pushing a list of frames answers, as numbers, bytes and packets; the boxes of a walk over it. -/
namespace Go.Proofs.Ytegahdlfjdjcaaa
open Go.ChangeShapes Go.WideShapes Go.ChangeAt Go.RowKit
set_option linter.unusedVariables false

theorem itP_both (r0 : ByteArray) (k : Nat) : 4 * (itP r0 k).1.length + (itP r0 k).2.size ≤ r0.size := by
  induction k with
  | zero => show 4 * ([] : List Pk).length + r0.size ≤ r0.size; simp
  | succ k ih =>
    simp only [itP]
    cases ho : okP (itP r0 k).2
    · exact ih
    · have h := okP_len ho
      simp only [cond_true, List.length_append, ByteArray.size_extract]
      split <;> simp <;> omega
theorem takeP_both (r0 : ByteArray) : 4 * (takeP r0).1.length + (takeP r0).2.size ≤ r0.size := itP_both r0 _
abbrev Fr4 := Int × Int × Int × ByteArray
theorem puS_both (c n : Int) (s : Bool × ByteArray × Int) (f : Fr4) : 4 * (puL c n s f).length + (puS c n s f).2.1.size ≤ s.2.1.size + f.2.2.2.size := by
  unfold puL puS
  split
  · have h1 := g1_size (n := n) (co := f.2.1) (s := s)
    have h2 := g2_size (fi := f.2.2.1) (d := f.2.2.2) (s := g1 n f.2.1 s)
    have h3 := takeP_both (g2 f.2.2.1 f.2.2.2 (g1 n f.2.1 s)).2.1
    unfold g3
    split
    · show 4 * _ + 0 ≤ _
      omega
    · show 4 * _ + (takeP (g2 f.2.2.1 f.2.2.2 (g1 n f.2.1 s)).2.1).2.size ≤ _
      omega
  · simp only [List.length_nil]; omega
/-- An unpacker's Next, Synced, Rest, Lost. -/
abbrev Un4 := Int × Bool × ByteArray × Int
noncomputable def oneS (c : Int) (t : Un4) (f : Fr4) : Un4 := (puN c t.1 t.2 f, puS c t.1 t.2 f)
abbrev fr0 : Fr4 := (0, 0, 0, ⟨#[]⟩)
noncomputable def stP (c : Int) (t : Un4) (fs : List Fr4) : Nat → Un4
  | 0 => t
  | k + 1 => oneS c (stP c t fs k) (fs.getD k fr0)
noncomputable def plP (c : Int) (t : Un4) (fs : List Fr4) : Nat → List Pk
  | 0 => []
  | k + 1 => plP c t fs k ++ puL c (stP c t fs k).1 (stP c t fs k).2 (fs.getD k fr0)
def totD (fs : List Fr4) : Nat → Nat
  | 0 => 0
  | k + 1 => totD fs k + (fs.getD k fr0).2.2.2.size
theorem totD_le (fs : List Fr4) {j k : Nat} (h : j ≤ k) : totD fs j ≤ totD fs k := by
  induction k with
  | zero => obtain rfl : j = 0 := by omega
            exact Nat.le_refl _
  | succ k ih =>
    rcases Nat.lt_or_ge j (k + 1) with h1 | h1
    · exact Nat.le_trans (ih (by omega)) (Nat.le_add_right _ _)
    · obtain rfl : j = k + 1 := by omega
      exact Nat.le_refl _
theorem plP_len (c : Int) (t : Un4) (fs : List Fr4) (k : Nat) : 4 * (plP c t fs k).length + (stP c t fs k).2.2.1.size ≤ t.2.2.1.size + totD fs k := by
  induction k with
  | zero => show 4 * ([] : List Pk).length + t.2.2.1.size ≤ t.2.2.1.size + 0; simp
  | succ k ih =>
    have h := puS_both c (stP c t fs k).1 (stP c t fs k).2 (fs.getD k fr0)
    simp only [plP, stP, oneS, totD, List.length_append]
    omega
theorem getD_at {fs : List Fr4} {k : Nat} (h : k < fs.length) : fs.getD k fr0 = fs[k] := by simp [List.getD_eq_getElem?_getD, h]

theorem OwnR.at {E : TypeId} {sz : Nat} {W : World} {base n c : Nat} {A : Option Addr} {l : List (List Value)} (h : OwnR E sz W base (.slice A n c) l) : RowsAt W A l := by
  have h1 := h.1
  rcases h1.2 with ⟨_, hn⟩ | ⟨g, cap, cur, hv, _⟩
  · exact .inl hn
  · injection hv with hA hn hc
    subst hA
    subst hn
    subst hc
    refine .inr ⟨g, 0, rfl, fun j u hu => ?_⟩
    have hj : j < l.length * sz := by
      rw [← flat_len h.2]
      rcases Nat.lt_or_ge j l.flatten.length with h2 | h2
      · exact h2
      · rw [List.getElem?_eq_none h2] at hu; cases hu
    rw [Nat.zero_add, World.ownsRow.cellAt h1 j hj]
    exact hu

/-- The boxes of a walk over PushFrames: the unpacker, the answer; the packets. -/
structure TP (w W : World) (p r : List Value) (v : Value) (ps : List Pk) : Prop where
  below : Below w.heap.size w W
  bp : Box W w.heap.size p
  br : Box W (w.heap.size + 1) r
  ow : OwnP W (w.heap.size + 2) v ps
theorem TP.far {w W : World} {p r : List Value} {v : Value} {ps : List Pk} (h : TP w W p r v ps) : w.heap.size + 2 ≤ W.heap.size := h.br.lt
theorem TP.more {w W W' : World} {p r : List Value} {v : Value} {ps : List Pk} (h : TP w W p r v ps) (hb : Below W.heap.size W W') : TP w W' p r v ps :=
  ⟨h.below.trans (hb.mono h.below.size), h.bp.more hb, h.br.more hb, OwnR.more h.ow hb⟩
theorem TP.putP {w W : World} {p r : List Value} {v : Value} {ps : List Pk} (h : TP w W p r v ps) (us : List Value) (hl : us.length = p.length) : TP w (W.setCells w.heap.size 0 us) us r v ps :=
  ⟨below_setCells (Nat.le_refl _) us 0 W h.below, h.bp.all hl, Box.allOther (W := W) (by omega) us 0 _ h.br, OwnR.cellsAway (fun e => by have := (OwnR.upto h.ow _ e).1; omega) us 0 _ h.ow⟩
theorem TP.fin {w W : World} {p r : List Value} {v : Value} {ps : List Pk} (h : TP w W p r v ps) (us : List Value) (hl : us.length = r.length) :
    Box (W.setCells (w.heap.size + 1) 0 us) (w.heap.size + 1) us ∧ OwnP (W.setCells (w.heap.size + 1) 0 us) w.heap.size v ps ∧ Below w.heap.size w (W.setCells (w.heap.size + 1) 0 us) :=
  ⟨h.br.all hl, OwnR.lower (OwnR.cellsAway (fun e => by have := (OwnR.upto h.ow _ e).1; omega) us 0 _ h.ow) (by omega), below_setCells (by omega) us 0 W h.below⟩
theorem TP.app {w W W' : World} {p r : List Value} {v v3 : Value} {ps ps' : List Pk} (h : TP w W p r v ps) (ho : OwnP W' (w.heap.size + 2) v3 ps') (hg : W.grownBy W' v.ownBlock) : TP w W' p r v3 ps' := by
  have hne : ∀ k, k < w.heap.size + 2 → v.ownBlock ≠ some k := fun k hk e => by have := (OwnR.upto h.ow k e).1; omega
  exact ⟨h.below.grown hg h.below.size (fun k hk => by have := (OwnR.upto h.ow k hk).1; omega), h.bp.grown hg (hne _ (by omega)), h.br.grown hg (hne _ (by omega)), ho⟩
/-- What PushFrames answers. -/
def PushesEnd (c : Int) (t : Un4) (fs : List Fr4) (w : World) (e : Ending) (w' : World) : Prop :=
  ∃ v, e = .returned (.tuple #[unW c (stP c t fs fs.length).1 (stP c t fs fs.length).2, v]) ∧ OwnP w' w.heap.size v (plP c t fs fs.length) ∧ Below w.heap.size w w'
end Go.Proofs.Ytegahdlfjdjcaaa
