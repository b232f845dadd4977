/- What this text proves: the parts Ro, RcC, InC of the proof, each under its own words. -/
import Derived.Test.YtckofkdeedbbgaaRR07
import Derived.Test.YtckofkdeedbbgaaRR06
import Derived.Test.YtckofkdeedbbgaaRR12
import Derived.Test.YtckofkdeedbbgaaRR15
import Derived.Test.YtckofkdeedbbgaaRR05
import Derived.Lib.SliceRun
/- What this text proves: the contracts of the laws' own functions over recorders: their sizes, copies, comparisons. -/
namespace Go.Proofs.Ytckofkdeedbbgaa
open Go.ChangeShapes Go.WideShapes Go.ChangeAt Go.RowKit
set_option linter.unusedVariables false

/-- Two slices lie in different blocks. -/
def Apart (v u : Value) : Prop := ∀ k, v.ownBlock = some k → u.ownBlock ≠ some k
theorem Apart.of {n m : Nat} {w w' : World} {b b' : Nat} {v u : Value} {l l' : List (List Value)} (h : LsO n w b v l) (h' : LsO m w' b' u l') (hb : w.heap.size ≤ b') : Apart v u := fun k hk hu => by
  have h1 := (h.up k hk).2
  have h2 := (h'.up k hu).1
  omega
theorem Apart.symm {v u : Value} (h : Apart v u) : Apart u v := fun k hk hu => h k hu hk
theorem szI_same (A : Option Addr) (n c L : Nat) (hn : n ≤ maxLen) (hL : L ≤ 1048576) (w : World) :
    Calls Try.prog 95 #[.slice A n c, .int .i64 (L : Int)] w fun e w' => e = .returned (.int .i64 (if n ≤ L then (L : Int) - (n : Int) else -1)) ∧ Below w.heap.size w w' :=
  (szI_any A n c L hn hL w).mono fun e w' h => ⟨h.1, by first | exact h.2 | (rw [← h.2]; exact Below.refl _ _) | (rw [h.2]; exact Below.refl _ _)⟩

set_option maxHeartbeats 1000000 in
theorem sz_ro (r : Int) (A A2 : Option Addr) (l : List Rc) (d : List Int) (c c2 L : Nat) (hl : l.length ≤ maxLen) (hs : ∀ j (hj : j < l.length), l[j].2.2.2.size ≤ maxLen) (hd : d.length ≤ maxLen) (hL : L ≤ 1048576) (w : World) (h1 : LsI 4 w w.heap.size A (l.map rcC)) :
    Calls Try.prog 35 #[roV r (.slice A l.length c) (.slice A2 d.length c2), .int .i64 (L : Int)] w fun e w' => e = .returned (.int .i64 (if l.length + totRc l l.length + d.length ≤ L then ((L - (l.length + totRc l l.length + d.length) : Nat) : Int) else -1)) ∧ Below w.heap.size w w' := by
  have F0 := Fit.made w (roL r (.slice A l.length c) (.slice A2 d.length c2)) 81
  have HC := Lib.hid (sz_rcs A l c L hl hs hL _ (h1.full F0.below))
  have F0 := Lib.hid F0
  clear h1 hs
  by_cases g : l.length + totRc l l.length ≤ L
  · rw [if_pos g, show (L : Int) - ((l.length : Int) + (totRc l l.length : Int)) = ((L - (l.length + totRc l l.length) : Nat) : Int) by omega] at HC
    have HD := Lib.hid (szI_same A2 d.length c2 (L - (l.length + totRc l l.length)) hd (by omega))
    have HX := Lib.hid (show (if d.length ≤ L - (l.length + totRc l l.length) then ((L - (l.length + totRc l l.length) : Nat) : Int) - (d.length : Int) else -1) = (if l.length + totRc l l.length + d.length ≤ L then ((L - (l.length + totRc l l.length + d.length) : Nat) : Int) else -1) by
      by_cases g2 : d.length ≤ L - (l.length + totRc l l.length)
      · rw [if_pos g2, if_pos (by omega)]; omega
      · rw [if_neg g2, if_neg (by omega)])
    rw [HX.out] at HD
    obtain ⟨X, hX⟩ : ∃ X, (if l.length + totRc l l.length + d.length ≤ L then ((L - (l.length + totRc l l.length + d.length) : Nat) : Int) else -1) = X := ⟨_, rfl⟩
    rw [hX] at HD ⊢
    clear HX g
    generalize L - (l.length + totRc l l.length) = L2 at *
    have hd1 : decide ((L2 : Int) < 0) = false := by simp
    rcases Int.lt_or_le X 0 with hx | hx
    · have hx1 : X = -1 := by
        rw [← hX] at hx ⊢
        split at hx <;> rename_i g
        · omega
        · rw [if_neg g]
      subst hx1
      clear hX hx
      go_enter Try.func35, Try.ntmps35
      go_wp2_with fail
      refine HC.out.mono ?_
      rintro e w1 ⟨rfl, hb⟩
      have F1 := Lib.hid (F0.out.more hb)
      obtain ⟨k0, k1, k2⟩ := F1.out.box.threeQ
      clear hb
      go_wp2_with fail
      refine (HD.out _).mono ?_
      rintro e w2 ⟨rfl, hb⟩
      have F2 := Lib.hid (F1.out.more hb)
      clear hb
      go_wp2
      go_ret
      exact ⟨rfl, F2.out.below⟩
    · have hx1 : decide (X < 0) = false := by simp; omega
      clear hX
      go_enter Try.func35, Try.ntmps35
      go_wp2_with fail
      refine HC.out.mono ?_
      rintro e w1 ⟨rfl, hb⟩
      have F1 := Lib.hid (F0.out.more hb)
      obtain ⟨k0, k1, k2⟩ := F1.out.box.threeQ
      clear hb
      go_wp2_with fail
      refine (HD.out _).mono ?_
      rintro e w2 ⟨rfl, hb⟩
      have F2 := Lib.hid (F1.out.more hb)
      clear hb
      go_wp2
      go_ret
      exact ⟨rfl, F2.out.below⟩
  · rw [if_neg g] at HC
    rw [if_neg (by omega)]
    clear g
    go_enter Try.func35, Try.ntmps35
    go_wp2_with fail
    refine HC.out.mono ?_
    rintro e w1 ⟨rfl, hb⟩
    have F1 := Lib.hid (F0.out.more hb)
    clear hb
    go_wp2
    go_ret
    exact ⟨rfl, F1.out.below⟩

/-- A recorder of the call's own: its lists, in different blocks. -/
structure OwnRo (w : World) (base : Nat) (v : Value) (r : Int) (l : List Rc) (d : List Int) : Prop where
  form : ∃ A c A2 c2, v = roV r (.slice A l.length c) (.slice A2 d.length c2) ∧ OwnRc w base (.slice A l.length c) l ∧ OwnIn w base (.slice A2 d.length c2) d ∧ Apart (.slice A l.length c) (.slice A2 d.length c2)
theorem OwnRo.more {w w' : World} {base : Nat} {v : Value} {r : Int} {l : List Rc} {d : List Int} (h : OwnRo w base v r l d) (hb : Below w.heap.size w w') : OwnRo w' base v r l d := by
  obtain ⟨A, c, A2, c2, rfl, h1, h2, h3⟩ := h.form
  exact ⟨A, c, A2, c2, rfl, LsO.more h1 hb, LsO.more h2 hb, h3⟩
theorem OwnRo.lower {w : World} {base base' : Nat} {v : Value} {r : Int} {l : List Rc} {d : List Int} (h : OwnRo w base v r l d) (hb : base' ≤ base) : OwnRo w base' v r l d := by
  obtain ⟨A, c, A2, c2, rfl, h1, h2, h3⟩ := h.form
  exact ⟨A, c, A2, c2, rfl, LsO.lower h1 hb, LsO.lower h2 hb, h3⟩

set_option maxHeartbeats 4000000 in
theorem to_ro (r : Int) (A A2 : Option Addr) (l : List Rc) (d : List Int) (c c2 : Nat) (hl : l.length ≤ 1048576) (hd : d.length ≤ 1048576) (w : World) (h1 : LsI 4 w w.heap.size A (l.map rcC)) (h2 : LsI 1 w w.heap.size A2 (d.map inC)) :
    Calls Try.prog 38 #[roV r (.slice A l.length c) (.slice A2 d.length c2)] w fun e w' => ∃ v, e = .returned v ∧ OwnRo w' w.heap.size v r l d ∧ Below w.heap.size w w' := by
  have HT1 := Lib.hid (fun W (hb : Below w.heap.size w W) => to_rcs A l c hl W (h1.full hb))
  have HT2 := Lib.hid (fun W (hb : Below w.heap.size w W) => to_ins A2 d c2 hd W (h2.full hb))
  have BI := Lib.hid (((Box.made w (roL r (.slice A l.length c) (.slice A2 d.length c2)) 81 w.heap.size rfl).alloc (.cells (roL 0 (.slice none 0 0) (.slice none 0 0)).toArray 30)).alloc (.cells (roL r (.slice none 0 0) (.slice none 0 0)).toArray 30))
  have BR := Lib.hid ((Box.made (w.alloc (.cells (roL r (.slice A l.length c) (.slice A2 d.length c2)).toArray 81)) (roL 0 (.slice none 0 0) (.slice none 0 0)) 30 (w.heap.size + 1) (by simp)).alloc (.cells (roL r (.slice none 0 0) (.slice none 0 0)).toArray 30))
  have BO := Lib.hid (Box.made ((w.alloc (.cells (roL r (.slice A l.length c) (.slice A2 d.length c2)).toArray 81)).alloc (.cells (roL 0 (.slice none 0 0) (.slice none 0 0)).toArray 30)) (roL r (.slice none 0 0) (.slice none 0 0)) 30 (w.heap.size + 1 + 1) (by simp))
  have BB : Below w.heap.size w (((w.alloc (.cells (roL r (.slice A l.length c) (.slice A2 d.length c2)).toArray 81)).alloc (.cells (roL 0 (.slice none 0 0) (.slice none 0 0)).toArray 30)).alloc (.cells (roL r (.slice none 0 0) (.slice none 0 0)).toArray 30)) := (((Below.refl _ w).alloc (Nat.le_refl _) _).alloc (by simp) _).alloc (by simp; omega) _
  have hz : (((w.alloc (.cells (roL r (.slice A l.length c) (.slice A2 d.length c2)).toArray 81)).alloc (.cells (roL 0 (.slice none 0 0) (.slice none 0 0)).toArray 30)).alloc (.cells (roL r (.slice none 0 0) (.slice none 0 0)).toArray 30)).heap.size = w.heap.size + 3 := by simp
  have HZ := Lib.hid hz
  have BB := Lib.hid BB
  clear h1 h2 hz
  go_enter Try.func38, Try.ntmps38
  go_wp2_with fail
  refine (HT1.out _ BB.out).mono ?_
  rintro e w2 ⟨v, rfl, hown, hb⟩
  have BI2 := BI.out.more hb
  have BR2 := BR.out.more hb
  have BO2 := BO.out.more hb
  have BB2 := BB.out.trans (hb.mono (by rw [HZ.out]; omega))
  rw [HZ.out] at hown
  obtain ⟨A1, c1, rfl⟩ := OwnRc.nform hown
  have BI3 := BI2.other (ga := w.heap.size + 1 + 1) (by omega) 1 (.slice A1 l.length c1)
  have BO3 := BO2.set 1 (by simp) (.slice A1 l.length c1)
  have BR3 := Lib.hid (BR2.other (ga := w.heap.size + 1 + 1) (by omega) 1 (.slice A1 l.length c1))
  have HO3 := Lib.hid (LsO.past hown (g := w.heap.size + 1 + 1) (j := 1) (by omega) (.slice A1 l.length c1))
  have HB3 := Lib.hid (BB2.setCell (p := ⟨w.heap.size + 1 + 1, 1, none⟩) (by simp; omega) (.slice A1 l.length c1))
  have HZ2 := Lib.hid (show w.heap.size + 3 ≤ (w2.setCell ⟨w.heap.size + 1 + 1, 1, none⟩ (.slice A1 l.length c1)).heap.size by have := hb.size; rw [HZ.out] at this; simpa using this)
  obtain ⟨i0, i1, i2⟩ := BI2.threeQ
  obtain ⟨j0, j1, j2⟩ := BI3.threeQ
  obtain ⟨m0, m1, m2⟩ := BO2.threeQ
  have mi := BO2.ice
  have BI4 := Lib.hid BI3
  have BO4 := Lib.hid (show Box _ _ (roL r (.slice A1 l.length c1) (.slice none 0 0)) from BO3)
  clear BI BR BO BB BI2 BR2 BO2 BB2 BI3 BO3 hown hb
  go_wp2_with fail
  refine (HT2.out _ HB3.out).mono ?_
  rintro e w4 ⟨v, rfl, hown2, hb⟩
  obtain ⟨A3, c3, rfl⟩ := OwnIn.nform hown2
  have hsz := hb.size
  have BO5 := BO4.out.more hb
  have BR5 := BR3.out.more hb
  have HO5 := LsO.more HO3.out hb
  have HB5 := HB3.out.trans (hb.mono (by have := HZ2.out; omega))
  have HAP := Lib.hid (Apart.of HO3.out hown2 (Nat.le_refl _))
  have HOI := LsO.lower hown2 (base' := w.heap.size + 3) HZ2.out
  have BO6 := BO5.set 2 (by simp) (.slice A3 d.length c3)
  have BR6 := BR5.other (ga := w.heap.size + 1 + 1) (by omega) 2 (.slice A3 d.length c3)
  have HO6 := LsO.past HO5 (g := w.heap.size + 1 + 1) (j := 2) (by omega) (.slice A3 d.length c3)
  have HI6 := LsO.past HOI (g := w.heap.size + 1 + 1) (j := 2) (by omega) (.slice A3 d.length c3)
  have HB6 := HB5.setCell (p := ⟨w.heap.size + 1 + 1, 2, none⟩) (by simp; omega) (.slice A3 d.length c3)
  obtain ⟨m0, m1, m2⟩ := BO5.threeQ
  have mi := BO5.ice
  obtain ⟨k0, k1, k2⟩ := (show Box _ _ (roL r (.slice A1 l.length c1) (.slice A3 d.length c3)) from BO6).threeQ
  obtain ⟨r0, r1, r2⟩ := BR6.threeQ
  have ri := BR6.ice
  have BF := Lib.hid (BR6.all (us := roL r (.slice A1 l.length c1) (.slice A3 d.length c3)) rfl)
  have HBF := Lib.hid (below_setCells (B := w.heap.size) (ga := w.heap.size + 1) (by omega) (roL r (.slice A1 l.length c1) (.slice A3 d.length c3)) 0 _ HB6)
  have HOF := Lib.hid (LsO.cellsPast (g := w.heap.size + 1) (by omega) (roL r (.slice A1 l.length c1) (.slice A3 d.length c3)) 0 _ HO6)
  have HIF := Lib.hid (LsO.cellsPast (g := w.heap.size + 1) (by omega) (roL r (.slice A1 l.length c1) (.slice A3 d.length c3)) 0 _ HI6)
  clear BO5 BR5 HO5 HB5 HOI BO6 BR6 HO6 HI6 HB6 hown2 hb hsz i0 i1 i2 j0 j1 j2
  go_wp2
  show bodyPost Try.prog Try.f38 _ Exit.ret _ ((w4.setCell ⟨w.heap.size + 1 + 1, 2, none⟩ (.slice A3 d.length c3)).setCells (w.heap.size + 1) 0 (roL r (.slice A1 l.length c1) (.slice A3 d.length c3)))
  generalize (w4.setCell ⟨w.heap.size + 1 + 1, 2, none⟩ (.slice A3 d.length c3)).setCells (w.heap.size + 1) 0 (roL r (.slice A1 l.length c1) (.slice A3 d.length c3)) = WE at *
  obtain ⟨c0, c1', c2'⟩ := BF.out.threeQ
  refine bodyPost_ret_by (v := roV r (.slice A1 l.length c1) (.slice A3 d.length c3)) ?_ rfl ⟨_, rfl, ⟨_, _, _, _, rfl, LsO.lower HOF.out (by omega), LsO.lower HIF.out (by omega), HAP.out⟩, HBF.out⟩
  simp [results, Try.f38, go_sem, c0, c1', c2']

set_option maxHeartbeats 1000000 in
theorem eq_ro (r : Int) (l : List Rc) (d : List Int) (hl : l.length ≤ 2000000) (hd : d.length ≤ 2000000) (v1 v2 : Value) (b1 b2 : Nat) (w : World) (h1 : OwnRo w b1 v1 r l d) (h2 : OwnRo w b2 v2 r l d) :
    Calls Try.prog 40 #[v1, v2] w fun e w' => e = .returned (.bool true) ∧ Below w.heap.size w w' := by
  obtain ⟨A1, c1, B1, e1, rfl, o1, p1, _⟩ := h1.form
  obtain ⟨A2, c2, B2, e2, rfl, o2, p2, _⟩ := h2.form
  have B0 := (((Below.refl _ w).alloc (Nat.le_refl _) (.cells (roL r (.slice A1 l.length c1) (.slice B1 d.length e1)).toArray 30)).alloc (by simp) (.cells (roL r (.slice A2 l.length c2) (.slice B2 d.length e2)).toArray 30))
  have X0 := (Box.made w (roL r (.slice A1 l.length c1) (.slice B1 d.length e1)) 30 w.heap.size rfl).alloc (.cells (roL r (.slice A2 l.length c2) (.slice B2 d.length e2)).toArray 30)
  have Y0 := Box.made (w.alloc (.cells (roL r (.slice A1 l.length c1) (.slice B1 d.length e1)).toArray 30)) (roL r (.slice A2 l.length c2) (.slice B2 d.length e2)) 30 (w.heap.size + 1) (by simp)
  have HE := Lib.hid (fun W (hb : Below w.heap.size w W) => eqRc_any W b1 b2 (.slice A1 l.length c1) (.slice A2 l.length c2) l hl (LsO.more o1 hb) (LsO.more o2 hb))
  have HF := Lib.hid (fun W (hb : Below w.heap.size w W) => eqIn_any W b1 b2 (.slice B1 d.length e1) (.slice B2 d.length e2) d hd (LsO.more p1 hb) (LsO.more p2 hb))
  clear o1 o2 p1 p2 h1 h2
  go_enter Try.func40, Try.ntmps40
  go_wp2_with fail
  refine (HE.out _ B0).mono ?_
  rintro e w2 ⟨rfl, hb⟩
  obtain ⟨x0, x1, x2⟩ := (X0.more hb).threeQ
  obtain ⟨y0, y1, y2⟩ := (Y0.more hb).threeQ
  have B2 := B0.trans (hb.mono B0.size)
  have HB := Lib.hid B2
  clear hb X0 Y0 B0
  go_wp2_with fail
  refine (HF.out _ B2).mono ?_
  rintro e w3 ⟨rfl, hb⟩
  have HB2 := Lib.hid (B2.trans (hb.mono B2.size))
  clear hb B2
  go_wp2
  go_ret
  exact ⟨rfl, HB2.out⟩
end Go.Proofs.Ytckofkdeedbbgaa
/- What this text proves: the contract of slices.Clone over lists of records. -/
namespace Go.Proofs.Ytckofkdeedbbgaa
open Go.ChangeShapes Go.WideShapes Go.ChangeAt Go.RowKit
set_option linter.unusedVariables false


set_option maxHeartbeats 1000000 in
theorem clone_rcs (A : Option Addr) (l : List Rc) (k : Nat) (hl : l.length ≤ 1099511) (w : World) (h : LsI 4 w w.heap.size A (l.map rcC)) :
    Calls Try.prog 71 #[.slice A l.length k] w fun e w' => ∃ A1 c1, e = .returned (.slice A1 l.length c1) ∧ OwnR 50 4 w' w.heap.size (.slice A1 l.length c1) (l.map rcC) ∧ Below w.heap.size w w' := by
  have hq : ∀ (w : World) (a : Option Addr) (n c n' c' : Nat), (binOp .eql 28 (.slice a n c) (.slice none n' c')).run Try.prog w = .ok (.bool a.isNone) w := fun w a n c n' c' => Lib.run_eql_slice_nil w _ _ a n c n' c' Try.underlying28
  have HB := Lib.hid ((Below.refl _ w).alloc (Nat.le_refl _) (.cells #[] 50))
  have HE := Lib.hid (OwnR.empty (E := 50) (sz := 4) w w.heap.size (Nat.le_refl _))
  cases A with
  | none =>
    have h0 : l = [] := by
      rcases h with h0 | ⟨b, off, hA, _⟩
      · rw [List.length_map] at h0; exact List.eq_nil_of_length_eq_zero h0
      · cases hA
    subst h0
    clear h
    go_enter Try.func71, Try.ntmps71
    go_wp2
    go_ret
    exact ⟨none, 0, rfl, OwnR.nil _ _ _ _, Below.refl _ _⟩
  | some a =>
    have HI := Lib.hid ((h.more HB.out).rows (rc_len l))
    obtain ⟨i, hi, hz0, hz1, hz2⟩ := info_parts info_rc
    have Hi := Lib.hid hi
    have Hz0 := Lib.hid hz0
    have Hz1 := Lib.hid hz1
    have Hz2 := Lib.hid hz2
    clear h hi hz0 hz1 hz2
    go_enter Try.func71, Try.ntmps71
    go_wp2_with (at_builtin; go_loud (refine app_rows 50 28 4 40 (.agg #[.int .i64 0, .int .i64 0, .int .i64 0, .string ⟨#[]⟩]) i _ rfl _ _ rfl Try.underlying28 Hi.out Hz0.out Hz1.out Hz2.out rfl (by decide) (by decide) w.heap.size (.slice (some ⟨w.heap.size, 0, none⟩) 0 0) [] rfl HE.out (some a) (l.map rcC) k (by rw [List.length_map]; rfl) (rc_len l) (rc_one l) HI.out (by simpa using hl) (by simp) ?_))
    intro v w2 hown hg _
    replace hown : OwnR 50 4 w2 w.heap.size v (l.map rcC) := hown
    obtain ⟨A2, c2, rfl⟩ := hown.form
    rw [List.length_map] at hown ⊢
    have HO := Lib.hid hown
    have HB2 := Lib.hid (HB.out.grown hg (by simp) fun k hk => (World.ownsRow.lt HE.out.1 k hk).1)
    clear hown hg
    go_wp2
    go_ret
    exact ⟨_, _, rfl, HO.out, HB2.out⟩
end Go.Proofs.Ytckofkdeedbbgaa
/- What this text proves: the contract of slices.Clone over lists of numbers. -/
namespace Go.Proofs.Ytckofkdeedbbgaa
open Go.ChangeShapes Go.WideShapes Go.ChangeAt Go.RowKit
set_option linter.unusedVariables false


set_option maxHeartbeats 1000000 in
theorem clone_ins (A : Option Addr) (l : List Int) (k : Nat) (hl : l.length ≤ 1099511) (w : World) (h : LsI 1 w w.heap.size A (l.map inC)) :
    Calls Try.prog 121 #[.slice A l.length k] w fun e w' => ∃ A1 c1, e = .returned (.slice A1 l.length c1) ∧ OwnR 3 1 w' w.heap.size (.slice A1 l.length c1) (l.map inC) ∧ Below w.heap.size w w' := by
  have hq : ∀ (w : World) (a : Option Addr) (n c n' c' : Nat), (binOp .eql 24 (.slice a n c) (.slice none n' c')).run Try.prog w = .ok (.bool a.isNone) w := fun w a n c n' c' => Lib.run_eql_slice_nil w _ _ a n c n' c' Try.underlying24
  have HB := Lib.hid ((Below.refl _ w).alloc (Nat.le_refl _) (.cells #[] 3))
  have HE := Lib.hid (OwnR.empty (E := 3) (sz := 1) w w.heap.size (Nat.le_refl _))
  cases A with
  | none =>
    have h0 : l = [] := by
      rcases h with h0 | ⟨b, off, hA, _⟩
      · rw [List.length_map] at h0; exact List.eq_nil_of_length_eq_zero h0
      · cases hA
    subst h0
    clear h
    go_enter Try.func121, Try.ntmps121
    go_wp2
    go_ret
    exact ⟨none, 0, rfl, OwnR.nil _ _ _ _, Below.refl _ _⟩
  | some a =>
    have HI := Lib.hid ((h.more HB.out).rows (in_len l))
    obtain ⟨i, hi, hz0, hz1, hz2⟩ := info_parts info_int
    have Hi := Lib.hid hi
    have Hz0 := Lib.hid hz0
    have Hz1 := Lib.hid hz1
    have Hz2 := Lib.hid hz2
    clear h hi hz0 hz1 hz2
    go_enter Try.func121, Try.ntmps121
    go_wp2_with (at_builtin; go_loud (refine app_rows 3 24 1 8 (.int .i64 0) i _ rfl _ _ rfl Try.underlying24 Hi.out Hz0.out Hz1.out Hz2.out rfl (by decide) (by decide) w.heap.size (.slice (some ⟨w.heap.size, 0, none⟩) 0 0) [] rfl HE.out (some a) (l.map inC) k (by rw [List.length_map]; rfl) (in_len l) (in_one l) HI.out (by simpa using hl) (by simp) ?_))
    intro v w2 hown hg _
    replace hown : OwnR 3 1 w2 w.heap.size v (l.map inC) := hown
    obtain ⟨A2, c2, rfl⟩ := hown.form
    rw [List.length_map] at hown ⊢
    have HO := Lib.hid hown
    have HB2 := Lib.hid (HB.out.grown hg (by simp) fun k hk => (World.ownsRow.lt HE.out.1 k hk).1)
    clear hown hg
    go_wp2
    go_ret
    exact ⟨_, _, rfl, HO.out, HB2.out⟩
end Go.Proofs.Ytckofkdeedbbgaa
