/- What this text proves: the parts Ro, LmT of the proof, each under its own words. -/
import Derived.Test.YtckofkdeedbbgaaNN07
import Derived.Test.YtckofkdeedbbgaaNN06
import Derived.Test.YtckofkdeedbbgaaNN10
import Derived.Test.YtckofkdeedbbgaaNN05
import Derived.Test.YtckofkdeedbbgaaNN01
import Derived.Laws.MakeOwn
import Derived.Deep.LoopGhost
/- What this text proves: the contracts of the laws' own functions over recorders: their sizes, copies, comparisons. -/
namespace Go.Proofs.Ytckofkdeedbbgaa
open Go.ChangeShapes Go.WideShapes Go.ChangeAt Go.RowKit
set_option linter.unusedVariables false

/-- Two slices lie in different blocks. -/
def Apart (v u : Value) : Prop := ∀ k, v.ownBlock = some k → u.ownBlock ≠ some k
theorem Apart.of {n m : Nat} {w w' : World} {b b' : Nat} {v u : Value} {l l' : List (List Value)} (h : LsO n w b v l) (h' : LsO m w' b' u l') (hb : w.heap.size ≤ b') : Apart v u := fun k hk hu => by
  have h1 := (h.up k hk).2
  have h2 := (h'.up k hu).1
  omega
theorem Apart.symm {v u : Value} (h : Apart v u) : Apart u v := fun k hk hu => h k hu hk
theorem szI_same (A : Option Addr) (n c L : Nat) (hn : n ≤ maxLen) (hL : L ≤ 1048576) (w : World) :
    Calls Try.prog 95 #[.slice A n c, .int .i64 (L : Int)] w fun e w' => e = .returned (.int .i64 (if n ≤ L then (L : Int) - (n : Int) else -1)) ∧ Below w.heap.size w w' :=
  (szI_any A n c L hn hL w).mono fun e w' h => ⟨h.1, by first | exact h.2 | (rw [← h.2]; exact Below.refl _ _) | (rw [h.2]; exact Below.refl _ _)⟩

set_option maxHeartbeats 1000000 in
theorem sz_ro (r : Int) (A A2 : Option Addr) (l : List Rc) (d : List Int) (c c2 L : Nat) (hl : l.length ≤ maxLen) (hs : ∀ j (hj : j < l.length), l[j].2.2.2.size ≤ maxLen) (hd : d.length ≤ maxLen) (hL : L ≤ 1048576) (w : World) (h1 : LsI 4 w w.heap.size A (l.map rcC)) :
    Calls Try.prog 35 #[roV r (.slice A l.length c) (.slice A2 d.length c2), .int .i64 (L : Int)] w fun e w' => e = .returned (.int .i64 (if l.length + totRc l l.length + d.length ≤ L then ((L - (l.length + totRc l l.length + d.length) : Nat) : Int) else -1)) ∧ Below w.heap.size w w' := by
  have F0 := Fit.made w (roL r (.slice A l.length c) (.slice A2 d.length c2)) 81
  have HC := Lib.hid (sz_rcs A l c L hl hs hL _ (h1.full F0.below))
  have F0 := Lib.hid F0
  clear h1 hs
  by_cases g : l.length + totRc l l.length ≤ L
  · rw [if_pos g, show (L : Int) - ((l.length : Int) + (totRc l l.length : Int)) = ((L - (l.length + totRc l l.length) : Nat) : Int) by omega] at HC
    have HD := Lib.hid (szI_same A2 d.length c2 (L - (l.length + totRc l l.length)) hd (by omega))
    have HX := Lib.hid (show (if d.length ≤ L - (l.length + totRc l l.length) then ((L - (l.length + totRc l l.length) : Nat) : Int) - (d.length : Int) else -1) = (if l.length + totRc l l.length + d.length ≤ L then ((L - (l.length + totRc l l.length + d.length) : Nat) : Int) else -1) by
      by_cases g2 : d.length ≤ L - (l.length + totRc l l.length)
      · rw [if_pos g2, if_pos (by omega)]; omega
      · rw [if_neg g2, if_neg (by omega)])
    rw [HX.out] at HD
    obtain ⟨X, hX⟩ : ∃ X, (if l.length + totRc l l.length + d.length ≤ L then ((L - (l.length + totRc l l.length + d.length) : Nat) : Int) else -1) = X := ⟨_, rfl⟩
    rw [hX] at HD ⊢
    clear HX g
    generalize L - (l.length + totRc l l.length) = L2 at *
    have hd1 : decide ((L2 : Int) < 0) = false := by simp
    rcases Int.lt_or_le X 0 with hx | hx
    · have hx1 : X = -1 := by
        rw [← hX] at hx ⊢
        split at hx <;> rename_i g
        · omega
        · rw [if_neg g]
      subst hx1
      clear hX hx
      go_enter Try.func35, Try.ntmps35
      go_wp2_with fail
      refine HC.out.mono ?_
      rintro e w1 ⟨rfl, hb⟩
      have F1 := Lib.hid (F0.out.more hb)
      obtain ⟨k0, k1, k2⟩ := F1.out.box.threeQ
      clear hb
      go_wp2_with fail
      refine (HD.out _).mono ?_
      rintro e w2 ⟨rfl, hb⟩
      have F2 := Lib.hid (F1.out.more hb)
      clear hb
      go_wp2
      go_ret
      exact ⟨rfl, F2.out.below⟩
    · have hx1 : decide (X < 0) = false := by simp; omega
      clear hX
      go_enter Try.func35, Try.ntmps35
      go_wp2_with fail
      refine HC.out.mono ?_
      rintro e w1 ⟨rfl, hb⟩
      have F1 := Lib.hid (F0.out.more hb)
      obtain ⟨k0, k1, k2⟩ := F1.out.box.threeQ
      clear hb
      go_wp2_with fail
      refine (HD.out _).mono ?_
      rintro e w2 ⟨rfl, hb⟩
      have F2 := Lib.hid (F1.out.more hb)
      clear hb
      go_wp2
      go_ret
      exact ⟨rfl, F2.out.below⟩
  · rw [if_neg g] at HC
    rw [if_neg (by omega)]
    clear g
    go_enter Try.func35, Try.ntmps35
    go_wp2_with fail
    refine HC.out.mono ?_
    rintro e w1 ⟨rfl, hb⟩
    have F1 := Lib.hid (F0.out.more hb)
    clear hb
    go_wp2
    go_ret
    exact ⟨rfl, F1.out.below⟩

/-- A recorder of the call's own: its lists, in different blocks. -/
structure OwnRo (w : World) (base : Nat) (v : Value) (r : Int) (l : List Rc) (d : List Int) : Prop where
  form : ∃ A c A2 c2, v = roV r (.slice A l.length c) (.slice A2 d.length c2) ∧ OwnRc w base (.slice A l.length c) l ∧ OwnIn w base (.slice A2 d.length c2) d ∧ Apart (.slice A l.length c) (.slice A2 d.length c2)
theorem OwnRo.more {w w' : World} {base : Nat} {v : Value} {r : Int} {l : List Rc} {d : List Int} (h : OwnRo w base v r l d) (hb : Below w.heap.size w w') : OwnRo w' base v r l d := by
  obtain ⟨A, c, A2, c2, rfl, h1, h2, h3⟩ := h.form
  exact ⟨A, c, A2, c2, rfl, LsO.more h1 hb, LsO.more h2 hb, h3⟩
theorem OwnRo.lower {w : World} {base base' : Nat} {v : Value} {r : Int} {l : List Rc} {d : List Int} (h : OwnRo w base v r l d) (hb : base' ≤ base) : OwnRo w base' v r l d := by
  obtain ⟨A, c, A2, c2, rfl, h1, h2, h3⟩ := h.form
  exact ⟨A, c, A2, c2, rfl, LsO.lower h1 hb, LsO.lower h2 hb, h3⟩

set_option maxHeartbeats 4000000 in
theorem to_ro (r : Int) (A A2 : Option Addr) (l : List Rc) (d : List Int) (c c2 : Nat) (hl : l.length ≤ 1048576) (hd : d.length ≤ 1048576) (w : World) (h1 : LsI 4 w w.heap.size A (l.map rcC)) (h2 : LsI 1 w w.heap.size A2 (d.map inC)) :
    Calls Try.prog 38 #[roV r (.slice A l.length c) (.slice A2 d.length c2)] w fun e w' => ∃ v, e = .returned v ∧ OwnRo w' w.heap.size v r l d ∧ Below w.heap.size w w' := by
  have HT1 := Lib.hid (fun W (hb : Below w.heap.size w W) => to_rcs A l c hl W (h1.full hb))
  have HT2 := Lib.hid (fun W (hb : Below w.heap.size w W) => to_ins A2 d c2 hd W (h2.full hb))
  have BI := Lib.hid (((Box.made w (roL r (.slice A l.length c) (.slice A2 d.length c2)) 81 w.heap.size rfl).alloc (.cells (roL 0 (.slice none 0 0) (.slice none 0 0)).toArray 30)).alloc (.cells (roL r (.slice none 0 0) (.slice none 0 0)).toArray 30))
  have BR := Lib.hid ((Box.made (w.alloc (.cells (roL r (.slice A l.length c) (.slice A2 d.length c2)).toArray 81)) (roL 0 (.slice none 0 0) (.slice none 0 0)) 30 (w.heap.size + 1) (by simp)).alloc (.cells (roL r (.slice none 0 0) (.slice none 0 0)).toArray 30))
  have BO := Lib.hid (Box.made ((w.alloc (.cells (roL r (.slice A l.length c) (.slice A2 d.length c2)).toArray 81)).alloc (.cells (roL 0 (.slice none 0 0) (.slice none 0 0)).toArray 30)) (roL r (.slice none 0 0) (.slice none 0 0)) 30 (w.heap.size + 1 + 1) (by simp))
  have BB : Below w.heap.size w (((w.alloc (.cells (roL r (.slice A l.length c) (.slice A2 d.length c2)).toArray 81)).alloc (.cells (roL 0 (.slice none 0 0) (.slice none 0 0)).toArray 30)).alloc (.cells (roL r (.slice none 0 0) (.slice none 0 0)).toArray 30)) := (((Below.refl _ w).alloc (Nat.le_refl _) _).alloc (by simp) _).alloc (by simp; omega) _
  have hz : (((w.alloc (.cells (roL r (.slice A l.length c) (.slice A2 d.length c2)).toArray 81)).alloc (.cells (roL 0 (.slice none 0 0) (.slice none 0 0)).toArray 30)).alloc (.cells (roL r (.slice none 0 0) (.slice none 0 0)).toArray 30)).heap.size = w.heap.size + 3 := by simp
  have HZ := Lib.hid hz
  have BB := Lib.hid BB
  clear h1 h2 hz
  go_enter Try.func38, Try.ntmps38
  go_wp2_with fail
  refine (HT1.out _ BB.out).mono ?_
  rintro e w2 ⟨v, rfl, hown, hb⟩
  have BI2 := BI.out.more hb
  have BR2 := BR.out.more hb
  have BO2 := BO.out.more hb
  have BB2 := BB.out.trans (hb.mono (by rw [HZ.out]; omega))
  rw [HZ.out] at hown
  obtain ⟨A1, c1, rfl⟩ := OwnRc.nform hown
  have BI3 := BI2.other (ga := w.heap.size + 1 + 1) (by omega) 1 (.slice A1 l.length c1)
  have BO3 := BO2.set 1 (by simp) (.slice A1 l.length c1)
  have BR3 := Lib.hid (BR2.other (ga := w.heap.size + 1 + 1) (by omega) 1 (.slice A1 l.length c1))
  have HO3 := Lib.hid (LsO.past hown (g := w.heap.size + 1 + 1) (j := 1) (by omega) (.slice A1 l.length c1))
  have HB3 := Lib.hid (BB2.setCell (p := ⟨w.heap.size + 1 + 1, 1, none⟩) (by simp; omega) (.slice A1 l.length c1))
  have HZ2 := Lib.hid (show w.heap.size + 3 ≤ (w2.setCell ⟨w.heap.size + 1 + 1, 1, none⟩ (.slice A1 l.length c1)).heap.size by have := hb.size; rw [HZ.out] at this; simpa using this)
  obtain ⟨i0, i1, i2⟩ := BI2.threeQ
  obtain ⟨j0, j1, j2⟩ := BI3.threeQ
  obtain ⟨m0, m1, m2⟩ := BO2.threeQ
  have mi := BO2.ice
  have BI4 := Lib.hid BI3
  have BO4 := Lib.hid (show Box _ _ (roL r (.slice A1 l.length c1) (.slice none 0 0)) from BO3)
  clear BI BR BO BB BI2 BR2 BO2 BB2 BI3 BO3 hown hb
  go_wp2_with fail
  refine (HT2.out _ HB3.out).mono ?_
  rintro e w4 ⟨v, rfl, hown2, hb⟩
  obtain ⟨A3, c3, rfl⟩ := OwnIn.nform hown2
  have hsz := hb.size
  have BO5 := BO4.out.more hb
  have BR5 := BR3.out.more hb
  have HO5 := LsO.more HO3.out hb
  have HB5 := HB3.out.trans (hb.mono (by have := HZ2.out; omega))
  have HAP := Lib.hid (Apart.of HO3.out hown2 (Nat.le_refl _))
  have HOI := LsO.lower hown2 (base' := w.heap.size + 3) HZ2.out
  have BO6 := BO5.set 2 (by simp) (.slice A3 d.length c3)
  have BR6 := BR5.other (ga := w.heap.size + 1 + 1) (by omega) 2 (.slice A3 d.length c3)
  have HO6 := LsO.past HO5 (g := w.heap.size + 1 + 1) (j := 2) (by omega) (.slice A3 d.length c3)
  have HI6 := LsO.past HOI (g := w.heap.size + 1 + 1) (j := 2) (by omega) (.slice A3 d.length c3)
  have HB6 := HB5.setCell (p := ⟨w.heap.size + 1 + 1, 2, none⟩) (by simp; omega) (.slice A3 d.length c3)
  obtain ⟨m0, m1, m2⟩ := BO5.threeQ
  have mi := BO5.ice
  obtain ⟨k0, k1, k2⟩ := (show Box _ _ (roL r (.slice A1 l.length c1) (.slice A3 d.length c3)) from BO6).threeQ
  obtain ⟨r0, r1, r2⟩ := BR6.threeQ
  have ri := BR6.ice
  have BF := Lib.hid (BR6.all (us := roL r (.slice A1 l.length c1) (.slice A3 d.length c3)) rfl)
  have HBF := Lib.hid (below_setCells (B := w.heap.size) (ga := w.heap.size + 1) (by omega) (roL r (.slice A1 l.length c1) (.slice A3 d.length c3)) 0 _ HB6)
  have HOF := Lib.hid (LsO.cellsPast (g := w.heap.size + 1) (by omega) (roL r (.slice A1 l.length c1) (.slice A3 d.length c3)) 0 _ HO6)
  have HIF := Lib.hid (LsO.cellsPast (g := w.heap.size + 1) (by omega) (roL r (.slice A1 l.length c1) (.slice A3 d.length c3)) 0 _ HI6)
  clear BO5 BR5 HO5 HB5 HOI BO6 BR6 HO6 HI6 HB6 hown2 hb hsz i0 i1 i2 j0 j1 j2
  go_wp2
  show bodyPost Try.prog Try.f38 _ Exit.ret _ ((w4.setCell ⟨w.heap.size + 1 + 1, 2, none⟩ (.slice A3 d.length c3)).setCells (w.heap.size + 1) 0 (roL r (.slice A1 l.length c1) (.slice A3 d.length c3)))
  generalize (w4.setCell ⟨w.heap.size + 1 + 1, 2, none⟩ (.slice A3 d.length c3)).setCells (w.heap.size + 1) 0 (roL r (.slice A1 l.length c1) (.slice A3 d.length c3)) = WE at *
  obtain ⟨c0, c1', c2'⟩ := BF.out.threeQ
  refine bodyPost_ret_by (v := roV r (.slice A1 l.length c1) (.slice A3 d.length c3)) ?_ rfl ⟨_, rfl, ⟨_, _, _, _, rfl, LsO.lower HOF.out (by omega), LsO.lower HIF.out (by omega), HAP.out⟩, HBF.out⟩
  simp [results, Try.f38, go_sem, c0, c1', c2']

set_option maxHeartbeats 1000000 in
theorem eq_ro (r : Int) (l : List Rc) (d : List Int) (hl : l.length ≤ 2000000) (hd : d.length ≤ 2000000) (v1 v2 : Value) (b1 b2 : Nat) (w : World) (h1 : OwnRo w b1 v1 r l d) (h2 : OwnRo w b2 v2 r l d) :
    Calls Try.prog 40 #[v1, v2] w fun e w' => e = .returned (.bool true) ∧ Below w.heap.size w w' := by
  obtain ⟨A1, c1, B1, e1, rfl, o1, p1, _⟩ := h1.form
  obtain ⟨A2, c2, B2, e2, rfl, o2, p2, _⟩ := h2.form
  have B0 := (((Below.refl _ w).alloc (Nat.le_refl _) (.cells (roL r (.slice A1 l.length c1) (.slice B1 d.length e1)).toArray 30)).alloc (by simp) (.cells (roL r (.slice A2 l.length c2) (.slice B2 d.length e2)).toArray 30))
  have X0 := (Box.made w (roL r (.slice A1 l.length c1) (.slice B1 d.length e1)) 30 w.heap.size rfl).alloc (.cells (roL r (.slice A2 l.length c2) (.slice B2 d.length e2)).toArray 30)
  have Y0 := Box.made (w.alloc (.cells (roL r (.slice A1 l.length c1) (.slice B1 d.length e1)).toArray 30)) (roL r (.slice A2 l.length c2) (.slice B2 d.length e2)) 30 (w.heap.size + 1) (by simp)
  have HE := Lib.hid (fun W (hb : Below w.heap.size w W) => eqRc_any W b1 b2 (.slice A1 l.length c1) (.slice A2 l.length c2) l hl (LsO.more o1 hb) (LsO.more o2 hb))
  have HF := Lib.hid (fun W (hb : Below w.heap.size w W) => eqIn_any W b1 b2 (.slice B1 d.length e1) (.slice B2 d.length e2) d hd (LsO.more p1 hb) (LsO.more p2 hb))
  clear o1 o2 p1 p2 h1 h2
  go_enter Try.func40, Try.ntmps40
  go_wp2_with fail
  refine (HE.out _ B0).mono ?_
  rintro e w2 ⟨rfl, hb⟩
  obtain ⟨x0, x1, x2⟩ := (X0.more hb).threeQ
  obtain ⟨y0, y1, y2⟩ := (Y0.more hb).threeQ
  have B2 := B0.trans (hb.mono B0.size)
  have HB := Lib.hid B2
  clear hb X0 Y0 B0
  go_wp2_with fail
  refine (HF.out _ B2).mono ?_
  rintro e w3 ⟨rfl, hb⟩
  have HB2 := Lib.hid (B2.trans (hb.mono B2.size))
  clear hb B2
  go_wp2
  go_ret
  exact ⟨rfl, HB2.out⟩
end Go.Proofs.Ytckofkdeedbbgaa
/- What this text proves: the contracts of the laws' own functions over a list of limits that was handed to them: its size, its copy. -/
namespace Go.Proofs.Ytckofkdeedbbgaa
open Go.ChangeShapes Go.WideShapes Go.ChangeAt Go.RowKit
set_option linter.unusedVariables false


theorem sz_lms (A : Option Addr) (m c L : Nat) (hm : m ≤ maxLen) (hL : L ≤ 1048576) (w : World) :
    Calls Try.prog 43 #[.slice A m c, .int .i64 (L : Int)] w fun e w' => e = .returned (.int .i64 (if m ≤ L then (L : Int) - (m : Int) else -1)) ∧ w = w' := by
  have hl' : m ≤ 9223372036854775807 := by unfold maxLen at hm; omega
  by_cases h : m ≤ L
  · rw [if_pos h]
    have hd0 : decide ((L : Int) - (m : Int) < 0) = false := by simp; omega
    go_enter Try.func43, Try.ntmps43
    go_wp2
    go_ret
    exact ⟨rfl, rfl⟩
  · rw [if_neg h]
    have hd0 : decide ((L : Int) - (m : Int) < 0) = true := by simp; omega
    go_enter Try.func43, Try.ntmps43
    go_wp2
    go_ret
    exact ⟨rfl, rfl⟩
theorem take_lm (xs : List Value) (j : Nat) (a0 a1 a2 : Value) (h : j + 3 ≤ xs.length) : ((((xs.set (j) a0).set (j + 1) a1).set (j + 2) a2)).take (j + 3) = xs.take j ++ [a0, a1, a2] := by
  apply List.ext_getElem?
  intro i
  rw [List.getElem?_append, List.length_take, Nat.min_eq_left (by omega)]
  by_cases h1 : i < j
  · rw [if_pos h1, List.getElem?_take_of_lt (by omega), List.getElem?_set_ne (by omega), List.getElem?_set_ne (by omega), List.getElem?_set_ne (by omega), List.getElem?_take_of_lt h1]
  · rw [if_neg h1]
    by_cases h2 : i < j + 3
    · rw [List.getElem?_take_of_lt h2]
      rcases (show i = j ∨ i = j + 1 ∨ i = j + 2 by omega) with rfl | rfl | rfl
      · rw [List.getElem?_set_ne (by omega), List.getElem?_set_ne (by omega), List.getElem?_set_self (by first | omega | (simp only [List.length_set]; omega))]; simp
      · rw [List.getElem?_set_ne (by omega), List.getElem?_set_self (by first | omega | (simp only [List.length_set]; omega))]; simp
      · rw [List.getElem?_set_self (by first | omega | (simp only [List.length_set]; omega))]; simp
    · rw [List.getElem?_eq_none (by simp; omega), List.getElem?_eq_none (by simp; omega)]
/-- A slice of n in the making: its cells. -/
def RowLm (w : World) (base g n : Nat) (xs : List Value) : Prop := w.ownsRow base 57 3 (.slice (some ⟨g, 0, none⟩) n n) n xs ∧ xs.length = n * 3
theorem RowLm.more {w w' : World} {base g n : Nat} {xs : List Value} (h : RowLm w base g n xs) (hb : Below w.heap.size w w') : RowLm w' base g n xs :=
  ⟨World.ownsRow.kept (row := none) h.1 ⟨hb.os, hb.tape, hb.output, hb.size, fun k hk _ => hb.block k hk⟩ (.inr (by simp [Value.ownBlock])), h.2⟩
theorem RowLm.store {w : World} {base g n : Nat} {xs : List Value} (h : RowLm w base g n xs) (j : Nat) (u : Value) : RowLm (w.setCell ⟨g, j, none⟩ u) base g n (xs.set j u) := ⟨(World.ownsRow.stored h.1 j u).1, by rw [List.length_set]; exact h.2⟩
theorem RowLm.cell {w : World} {base g n : Nat} {xs : List Value} (h : RowLm w base g n xs) (j : Nat) (hj : j < n * 3) : ∃ u, w.cell? ⟨g, j, none⟩ = some u :=
  ⟨xs[j]'(by rw [h.2]; exact hj), by rw [World.ownsRow.cellAt h.1 j hj]; exact List.getElem?_eq_getElem _⟩
theorem make_lms (W : World) (n : Nat) (hn : n ≤ 1048576) : ∃ cs, (Instr.makeSlice 25 (.int .i64 (n : Int)) (.int .i64 (n : Int))).run Try.prog W = .ok (.slice (some ⟨W.heap.size, 0, none⟩) n n) (W.alloc (.cells cs 57)) ∧ RowLm (W.alloc (.cells cs 57)) W.heap.size W.heap.size n cs.toList := by
  obtain ⟨i, hi, hz0, hz1, hz2⟩ := info_parts info_lm
  have h := run_make (P := Try.prog) W 25 57 i (.agg #[.int .i64 0, .int .i64 0, .int .i64 0]) Try.underlying25 hi hz0 .i64 .i64 n n (by omega) (by omega) (by rw [hz2]; omega) (by omega)
  rw [hz1] at h
  refine ⟨_, by simpa using h, World.ownsRow_lit (base := W.heap.size) (e := 57) (size := 3) W _ n (Nat.le_refl _) (by unfold maxLen; omega) (by rw [size_madeCells]), by rw [Array.length_toList, size_madeCells]⟩

set_option maxHeartbeats 2000000 in
theorem to_lms (A : Option Addr) (l : List Lm) (c : Nat) (hl : l.length ≤ 1048576) (w : World) (h : LsI 3 w w.heap.size A (l.map lmC)) :
    Calls Try.prog 45 #[.slice A l.length c] w fun e w' => ∃ v, e = .returned v ∧ OwnLm w' w.heap.size v l ∧ Below w.heap.size w w' := by
  obtain ⟨cs, hmk, hrow0⟩ := make_lms w l.length hl
  have HR0 := Lib.hid hrow0
  have HB0 := Lib.hid ((Below.refl _ w).alloc (Nat.le_refl _) (.cells cs 57))
  have HI := Lib.hid (fun W (hb : Below w.heap.size w W) => h.more hb)
  have HT := Lib.hid (fun x0 x1 x2 W => to_lm x0 x1 x2 W)
  clear h hrow0
  go_enter Try.func45, Try.ntmps45
  go_wp2
  clear hmk
  go_loopg [4] l.length (fun gh v4 wx => ∃ (k : Nat) (xs : List Value), k ≤ l.length ∧ gh = l.length - k ∧ v4 = .int .i64 (k : Int) ∧ xs.take (k * 3) = ((l.take k).map lmC).flatten ∧ RowLm wx w.heap.size w.heap.size l.length xs ∧ Below w.heap.size w wx)
  case atStart => exact ⟨0, cs.toList, by omega, rfl, rfl, by simp, HR0.out, HB0.out⟩
  case round =>
    obtain ⟨k, xs, hk, rfl, rfl, htk, hrow, hbel⟩ := hrel
    have HTK := Lib.hid htk
    have HB := Lib.hid hbel
    have HR := Lib.hid hrow
    clear htk hrow
    by_cases hlt : k < l.length
    · have hd : decide (k < l.length) = true := by simp; omega
      have hd' : decide ((k : Int) < (l.length : Int)) = true := by simp; omega
      obtain ⟨b, off, rfl, hb, hc⟩ := lmCellsI (b := 0) (off := 0) (HI.out _ hbel) (by omega)
      obtain ⟨c0, c1, c2⟩ := hc k hlt
      have HLK := Lib.hid (show ((((xs.set (k * 3) (.int .i64 l[k].1)).set (k * 3 + 1) (.int .i64 l[k].2.1)).set (k * 3 + 2) (.int .i64 l[k].2.2))).take ((k + 1) * 3) = ((l.take (k + 1)).map lmC).flatten from by
        rw [show (k + 1) * 3 = k * 3 + 3 by omega, take_lm _ _ _ _ _ (by have := HR.out.2; omega), HTK.out, List.take_succ_eq_append_getElem hlt, List.map_append, List.flatten_append]
        simp)
      clear hc hbel
      generalize l[k].1 = x0 at *
      generalize l[k].2.1 = x1 at *
      generalize l[k].2.2 = x2 at *
      go_wp2_with fail
      refine (HT.out _ _ _ _).mono ?_
      rintro e w2 ⟨rfl, hb2⟩
      have R2 := HR.out.more hb2
      have HB2 := Lib.hid (HB.out.trans (hb2.mono HB.out.size))
      clear hb2 c0 c1 c2
      obtain ⟨u0, d0⟩ := R2.cell (k * 3) (by omega)
      obtain ⟨u1, d1⟩ := (R2.store (k * 3) (.int .i64 x0)).cell (k * 3 + 1) (by omega)
      obtain ⟨u2, d2⟩ := ((R2.store (k * 3) (.int .i64 x0)).store (k * 3 + 1) (.int .i64 x1)).cell (k * 3 + 2) (by omega)
      have hf := World.ownsRow.frozenAt R2.1
      have HST := Lib.hid (((R2.store (k * 3) (.int .i64 x0)).store (k * 3 + 1) (.int .i64 x1)).store (k * 3 + 2) (.int .i64 x2))
      clear R2
      go_wp2
      go_roundg (l.length - (k + 1))
      case measure => omega
      case rel => exact ⟨k + 1, _, by omega, rfl, by go_num, HLK.out, HST.out, (((HB2.out.setCell (p := ⟨w.heap.size, k * 3, none⟩) (Nat.le_refl _) _).setCell (p := ⟨w.heap.size, k * 3 + 1, none⟩) (Nat.le_refl _) _).setCell (p := ⟨w.heap.size, k * 3 + 2, none⟩) (Nat.le_refl _) _)⟩
    · have hd : decide (k < l.length) = false := by simp; omega
      have hd' : decide ((k : Int) < (l.length : Int)) = false := by simp; omega
      obtain rfl : k = l.length := by omega
      have HO := Lib.hid (show OwnLm wr w.heap.size (.slice (some ⟨w.heap.size, 0, none⟩) l.length l.length) l from by
        have h := HTK.out
        rw [List.take_of_length_le (Nat.le_of_eq HR.out.2), List.take_of_length_le (Nat.le_refl _)] at h
        have h1 := HR.out.1
        rw [h] at h1
        exact OwnR.toO (E := 57) ⟨by rw [List.length_map]; exact h1, lm_len l⟩)
      go_wp2
      go_ret
      exact ⟨_, rfl, HO.out, HB.out⟩
end Go.Proofs.Ytckofkdeedbbgaa
