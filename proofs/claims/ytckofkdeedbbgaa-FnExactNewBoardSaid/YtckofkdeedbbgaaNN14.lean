/- What this text proves: the parts RoK, LmM of the proof, each under its own words. -/
import Derived.Test.YtckofkdeedbbgaaNN11
import Derived.Test.YtckofkdeedbbgaaNN13
import Derived.Test.YtckofkdeedbbgaaNN05
import Derived.Test.YtckofkdeedbbgaaNN12
import Derived.Test.YtckofkdeedbbgaaNN01
/- What this text proves: the contracts of the laws' marks over recorders: marks that were written are found again, and change nothing else. -/
namespace Go.Proofs.Ytckofkdeedbbgaa
open Go.ChangeShapes Go.WideShapes Go.ChangeAt Go.RowKit
set_option linter.unusedVariables false

/-- The blocks of a recorder's lists. -/
def blkRo (v : Value) (k : Nat) : Prop := ∃ r v1 v2, v = roV r v1 v2 ∧ (v1.ownBlock = some k ∨ v2.ownBlock = some k)
theorem blkRo_iff {r : Int} {v1 v2 : Value} {k : Nat} : blkRo (roV r v1 v2) k ↔ (v1.ownBlock = some k ∨ v2.ownBlock = some k) := by
  constructor
  · rintro ⟨r', u1, u2, e, h⟩
    simp only [roV, Value.agg.injEq, Array.mk.injEq, List.cons.injEq, and_true] at e
    obtain ⟨_, e1, e2⟩ := e
    subst e1 e2
    exact h
  · intro h
    exact ⟨r, v1, v2, rfl, h⟩
theorem OwnRo.blk {w : World} {base : Nat} {v : Value} {r : Int} {l : List Rc} {d : List Int} (h : OwnRo w base v r l d) {k : Nat} (hk : blkRo v k) : base ≤ k ∧ k < w.heap.size := by
  obtain ⟨A, c, A2, c2, rfl, h1, h2, _⟩ := h.form
  rcases blkRo_iff.1 hk with e | e
  · exact LsO.up h1 k e
  · exact LsO.up h2 k e
theorem OwnRo.touch {w w' : World} {base : Nat} {v : Value} {r : Int} {l : List Rc} {d : List Int} {S : Nat → Prop} (h : OwnRo w base v r l d) (ht : Touch w w' S) (hne : ∀ k, blkRo v k → ¬ S k) : OwnRo w' base v r l d := by
  obtain ⟨A, c, A2, c2, rfl, h1, h2, h3⟩ := h.form
  exact ⟨A, c, A2, c2, rfl, LsO.touch h1 ht (fun k hk => hne k (blkRo_iff.2 (.inl hk))), LsO.touch h2 ht (fun k hk => hne k (blkRo_iff.2 (.inr hk))), h3⟩
/-- A recorder that bears the marks from M on: n of records, m of numbers. -/
structure MkRo (w : World) (base : Nat) (v : Value) (M n m : Nat) : Prop where
  form : ∃ r A c A2 c2, v = roV r (.slice A n c) (.slice A2 m c2) ∧ LsO 4 w base (.slice A n c) ((List.range n).map (mkRc M)) ∧ LsO 1 w base (.slice A2 m c2) ((List.range m).map (mkIn (M + 4 * n)))
theorem MkRo.touch {w w' : World} {base : Nat} {v : Value} {M n m : Nat} {S : Nat → Prop} (h : MkRo w base v M n m) (ht : Touch w w' S) (hne : ∀ k, blkRo v k → ¬ S k) : MkRo w' base v M n m := by
  obtain ⟨r, A, c, A2, c2, rfl, h1, h2⟩ := h.form
  exact ⟨r, A, c, A2, c2, rfl, LsO.touch h1 ht (fun k hk => hne k (blkRo_iff.2 (.inl hk))), LsO.touch h2 ht (fun k hk => hne k (blkRo_iff.2 (.inr hk)))⟩
theorem MkRo.more {w w' : World} {base : Nat} {v : Value} {M n m : Nat} (h : MkRo w base v M n m) (hb : Below w.heap.size w w') : MkRo w' base v M n m := by
  obtain ⟨r, A, c, A2, c2, rfl, h1, h2⟩ := h.form
  exact ⟨r, A, c, A2, c2, rfl, LsO.more h1 hb, LsO.more h2 hb⟩

set_option maxHeartbeats 1000000 in
theorem mark_ro (r : Int) (l : List Rc) (d : List Int) (hl : l.length ≤ 1100000) (hd : d.length ≤ 1100000) (v : Value) (base M : Nat) (hM1 : 1 ≤ M) (hM : M ≤ 5500000) (w : World) (h : OwnRo w base v r l d) :
    Calls Try.prog 41 #[v, .int .i64 (M : Int)] w fun e w' => e = .returned (.int .i64 ((M + 4 * l.length + d.length : Nat) : Int)) ∧ Touch w w' (blkRo v) ∧ MkRo w' base v M l.length d.length := by
  obtain ⟨A1, c1, B1, e1, rfl, o1, p1, ap⟩ := h.form
  have HF := Lib.hid (Fit.made w (roL r (.slice A1 l.length c1) (.slice B1 d.length e1)) 30)
  have HE := Lib.hid ((markRc_any _ base (.slice A1 l.length c1) (l.map rcC) (by rw [List.length_map]; exact hl) M hM1 (by omega) (LsO.more o1 HF.out.below)).mono fun e w' hh => (show e = .returned (.int .i64 ((M + 4 * l.length : Nat) : Int)) ∧ Touch (w.alloc (.cells (roL r (.slice A1 l.length c1) (.slice B1 d.length e1)).toArray 30)) w' (fun k => (Value.slice A1 l.length c1).ownBlock = some k) ∧ LsO 4 w' base (.slice A1 l.length c1) ((List.range l.length).map (mkRc M)) from by
    rw [List.length_map] at hh
    exact ⟨by rw [hh.1]; congr 2, Touch.of_grown hh.2.1, hh.2.2⟩))
  have HG := Lib.hid (fun W (hW : LsO 1 W base (.slice B1 d.length e1) (d.map inC)) => (markIn_any W base (.slice B1 d.length e1) (d.map inC) (by rw [List.length_map]; exact hd) (M + 4 * l.length) (by omega) (by omega) hW).mono fun e w' hh => (show e = .returned (.int .i64 ((M + 4 * l.length + d.length : Nat) : Int)) ∧ Touch W w' (fun k => (Value.slice B1 d.length e1).ownBlock = some k) ∧ LsO 1 w' base (.slice B1 d.length e1) ((List.range d.length).map (mkIn (M + 4 * l.length))) from by
    rw [List.length_map] at hh
    exact ⟨by rw [hh.1]; congr 2, Touch.of_grown hh.2.1, hh.2.2⟩))
  have HP := Lib.hid (LsO.more p1 HF.out.below)
  have hne : (Value.slice A1 l.length c1).ownBlock ≠ some w.heap.size := fun e => by have := (LsO.up o1 _ e).2; omega
  have HNE := Lib.hid hne
  have HAP := Lib.hid ap
  generalize hV : ((M + 4 * l.length : Nat) : Int) = V at *
  clear h o1 p1 ap hne
  go_enter Try.func41, Try.ntmps41
  go_wp2_with fail
  refine HE.out.mono ?_
  rintro e w1 ⟨rfl, ht1, hm1⟩
  have B1x := HF.out.box.touch ht1 HNE.out
  obtain ⟨k0, k1, k2⟩ := B1x.threeQ
  have HP1 := Lib.hid (LsO.touch HP.out ht1 (fun k hk e => HAP.out k e hk))
  have HT1 := Lib.hid ((Touch.of_below (HF.out.below) (blkRo (roV r (.slice A1 l.length c1) (.slice B1 d.length e1)))).trans (ht1.mono (fun k hk => blkRo_iff.2 (.inl hk))))
  have HM1 := Lib.hid hm1
  clear ht1 hm1 B1x
  subst hV
  go_wp2_with fail
  refine (HG.out _ HP1.out).mono ?_
  rintro e w2 ⟨rfl, ht2, hm2⟩
  have HT2 := Lib.hid (HT1.out.trans (ht2.mono (fun k hk => blkRo_iff.2 (.inr hk))))
  have HM2 := Lib.hid (LsO.touch HM1.out ht2 (fun k hk e => HAP.out k hk e))
  have HN2 := Lib.hid hm2
  clear ht2 hm2
  go_wp2
  go_ret
  exact ⟨rfl, HT2.out, ⟨r, A1, c1, B1, e1, rfl, HM2.out, HN2.out⟩⟩

set_option maxHeartbeats 1000000 in
theorem held_ro (n m : Nat) (hn : n ≤ 1100000) (hm : m ≤ 1100000) (v : Value) (base M : Nat) (hM1 : 1 ≤ M) (hM : M ≤ 5500000) (w : World) (h : MkRo w base v M n m) :
    Calls Try.prog 42 #[v, .int .i64 (M : Int)] w fun e w' => e = .returned (.int .i64 ((M + 4 * n + m : Nat) : Int)) ∧ Below w.heap.size w w' := by
  obtain ⟨r, A1, c1, B1, e1, rfl, h1, h2⟩ := h.form
  have HF := Lib.hid (Fit.made w (roL r (.slice A1 n c1) (.slice B1 m e1)) 30)
  have HE := Lib.hid ((heldRc_any _ base M (.slice A1 n c1) n hn (LsO.more h1 HF.out.below) hM1 (by omega)).mono fun e w' hh => (show e = .returned (.int .i64 ((M + 4 * n : Nat) : Int)) ∧ Fit w w' w.heap.size (roL r (.slice A1 n c1) (.slice B1 m e1)) from ⟨by rw [hh.1]; congr 2, HF.out.more hh.2⟩))
  have HG := Lib.hid (fun W (hb : Below w.heap.size w W) => (heldIn_any W base (M + 4 * n) (.slice B1 m e1) m hm (LsO.more h2 hb) (by omega) (by omega)).mono fun e w' hh => (show e = .returned (.int .i64 ((M + 4 * n + m : Nat) : Int)) ∧ Below W.heap.size W w' from ⟨by rw [hh.1]; congr 2, hh.2⟩))
  have hd1 : decide (((M + 4 * n : Nat) : Int) < 0) = false := decide_eq_false (by omega)
  have hd2 : decide (((M + 4 * n + m : Nat) : Int) < 0) = false := decide_eq_false (by omega)
  generalize ((M + 4 * n : Nat) : Int) = V at *
  generalize ((M + 4 * n + m : Nat) : Int) = V2 at *
  clear h h1 h2
  go_enter Try.func42, Try.ntmps42
  go_wp2_with fail
  refine HE.out.mono ?_
  rintro e w1 ⟨rfl, hf1⟩
  have F1 := Lib.hid hf1
  obtain ⟨k0, k1, k2⟩ := hf1.box.threeQ
  clear hf1
  go_wp2_with fail
  refine (HG.out _ F1.out.below).mono ?_
  rintro e w2 ⟨rfl, hb⟩
  have F2 := Lib.hid (F1.out.more hb)
  clear hb
  go_wp2
  go_ret
  exact ⟨rfl, F2.out.below⟩
end Go.Proofs.Ytckofkdeedbbgaa
/- What this text proves: the contracts of the laws' marks over lists of limits: marks that were written are found again, and change nothing else. -/
namespace Go.Proofs.Ytckofkdeedbbgaa
open Go.ChangeShapes Go.WideShapes Go.ChangeAt Go.RowKit
set_option linter.unusedVariables false


/-- The marks of the i-th row. -/
def mkLm (M i : Nat) : List Value := [.int .i64 ((M : Int) + 3 * (i : Int)), .int .i64 ((M : Int) + 3 * (i : Int) + 1), .int .i64 ((M : Int) + 3 * (i : Int) + 1 + 1)]
theorem row_lm (x : List Value) (hx : x.length = 3) (a0 a1 a2 : Value) : (((x.set 0 a0).set 1 a1).set 2 a2) = [a0, a1, a2] := by
  match x, hx with
  | [_, _, _], _ => rfl

set_option maxHeartbeats 4000000 in
theorem markLm_any (w : World) (base : Nat) (v : Value) (l : List (List Value)) (hl : l.length ≤ 1100000) (M : Nat) (hM1 : 1 ≤ M) (hM : M ≤ 10000000) (hown : LsO 3 w base v l) :
    Calls Try.prog 48 #[v, .int .i64 (M : Int)] w fun e w' => e = .returned (.int .i64 ((M : Int) + 3 * (l.length : Int))) ∧ w.grownBy w' v.ownBlock ∧ LsO 3 w' base v ((List.range l.length).map (mkLm M)) := by
  obtain ⟨A1, cp, rfl⟩ := hown.form
  rcases Nat.eq_zero_or_pos l.length with h0 | h0
  · have hl0 : l = [] := List.eq_nil_of_length_eq_zero h0
    subst hl0
    go_enter Try.func48, Try.ntmps48
    go_wp2
    refine wp_loop_rounds 1 ?_
    rw [rounds_succ]
    go_wp2
    go_ret
    exact ⟨by simp, grown_of (Below.refl _ _) _, hown⟩
  · obtain ⟨g, off, ⟨d1, e1⟩, _, _⟩ := hown.rows h0
    injection e1 with e1 e1b e1c
    clear e1b e1c
    subst e1
    have P0 := Lib.hid hown
    have HWD := Lib.hid hown.wide
    clear hown
    go_enter Try.func48, Try.ntmps48
    go_wp2
    go_loopg [1, 5] l.length (fun gh v1 v5 wx => ∃ k : Nat, k ≤ l.length ∧ gh = l.length - k ∧ v5 = .int .i64 (k : Int) ∧ v1 = .int .i64 ((M : Int) + 3 * (k : Int)) ∧ LsO 3 wx base (.slice (some ⟨g, off, none⟩) l.length cp) (frontOf (mkLm M) l k) ∧ w.grownBy wx (some g))
    case atStart => exact ⟨0, by omega, rfl, rfl, by simp, by rw [frontOf_zero]; exact P0.out, grown_of (Below.refl _ _) _⟩
    case round =>
      obtain ⟨k, hk, rfl, rfl, rfl, hls, hbel⟩ := hrel
      have HB := Lib.hid hbel
      by_cases hlt : k < l.length
      · have hd : decide (k < l.length) = true := by simp; omega
        have hkf : k < (frontOf (mkLm M) l k).length := by rw [frontOf_len _ _ hk]; exact hlt
        have i0 := hls.ice (by omega)
        have HR := Lib.hid (HWD.out _ (List.getElem_mem hlt))
        have HAT := Lib.hid (frontOf_at (mkLm M) l hlt)
        have HFS := Lib.hid (frontOf_set (mkLm M) l hlt)
        obtain ⟨u0, c0'⟩ := hls.has k hkf 0 (by decide)
        have c0 : (wr).cell? ⟨g, off + k * 3, none⟩ = some u0 := c0'
        clear c0'
        have s0 := hls.set k hkf 0 (by decide) (.int .i64 ((M : Int) + 3 * (k : Int)))
        obtain ⟨u1, c1'⟩ := s0.has k (by simp only [setAt_len]; exact hkf) 1 (by decide)
        have c1 : ((wr).setCell ⟨g, off + k * 3, none⟩ (.int .i64 ((M : Int) + 3 * (k : Int)))).cell? ⟨g, off + k * 3 + 1, none⟩ = some u1 := c1'
        clear c1'
        have s1 := s0.set k (by simp only [setAt_len]; exact hkf) 1 (by decide) (.int .i64 ((M : Int) + 3 * (k : Int) + 1))
        obtain ⟨u2, c2'⟩ := s1.has k (by simp only [setAt_len]; exact hkf) 2 (by decide)
        have c2 : (((wr).setCell ⟨g, off + k * 3, none⟩ (.int .i64 ((M : Int) + 3 * (k : Int)))).setCell ⟨g, off + k * 3 + 1, none⟩ (.int .i64 ((M : Int) + 3 * (k : Int) + 1))).cell? ⟨g, off + k * 3 + 2, none⟩ = some u2 := c2'
        clear c2'
        have s2 := s1.set k (by simp only [setAt_len]; exact hkf) 2 (by decide) (.int .i64 ((M : Int) + 3 * (k : Int) + 1 + 1))
        have HF := Lib.hid (show LsO 3 ((((wr).setCell ⟨g, off + k * 3, none⟩ (.int .i64 ((M : Int) + 3 * (k : Int)))).setCell ⟨g, off + k * 3 + 1, none⟩ (.int .i64 ((M : Int) + 3 * (k : Int) + 1))).setCell ⟨g, off + k * 3 + 2, none⟩ (.int .i64 ((M : Int) + 3 * (k : Int) + 1 + 1))) base (.slice (some ⟨g, off, none⟩) l.length cp) (frontOf (mkLm M) l (k + 1)) from by
          have h := s2
          rw [show setAt (frontOf (mkLm M) l k) k 0 (.int .i64 ((M : Int) + 3 * (k : Int))) = (frontOf (mkLm M) l k).set k (l[k].set 0 (.int .i64 ((M : Int) + 3 * (k : Int)))) from by unfold setAt; rw [HAT.out], setAt_row _ _ hkf, setAt_row _ _ hkf, row_lm _ HR.out, show [.int .i64 ((M : Int) + 3 * (k : Int)), .int .i64 ((M : Int) + 3 * (k : Int) + 1), .int .i64 ((M : Int) + 3 * (k : Int) + 1 + 1)] = mkLm M k from rfl, HFS.out] at h
          exact h)
        have HG := Lib.hid (grown_store (grown_store (grown_store HB.out (j := off + k * 3) (.int .i64 ((M : Int) + 3 * (k : Int)))) (j := off + k * 3 + 1) (.int .i64 ((M : Int) + 3 * (k : Int) + 1))) (j := off + k * 3 + 2) (.int .i64 ((M : Int) + 3 * (k : Int) + 1 + 1)))
        clear hls hbel s0 s1 s2
        go_wp2
        go_roundg (l.length - (k + 1))
        case measure => omega
        case rel => exact ⟨k + 1, by omega, rfl, by go_num, by go_num, HF.out, HG.out⟩
      · have hd : decide (k < l.length) = false := by simp; omega
        obtain rfl : k = l.length := by omega
        rw [frontOf_all] at hls
        clear hlt
        go_wp2
        go_ret
        exact ⟨rfl, HB.out, hls⟩

set_option maxHeartbeats 4000000 in
theorem heldLm_any (w : World) (base M : Nat) (v : Value) (n : Nat) (hn : n ≤ 1100000) (hA : LsO 3 w base v ((List.range n).map (mkLm M))) (hM1 : 1 ≤ M) (hM : M ≤ 10000000) :
    Calls Try.prog 116 #[v, .int .i64 (M : Int)] w fun e w' => e = .returned (.int .i64 ((M : Int) + 3 * (n : Int))) ∧ Below w.heap.size w w' := by
  obtain ⟨A, c, rfl⟩ := hA.form
  rw [mark_len] at hA ⊢
  rcases Nat.eq_zero_or_pos n with h0 | h0
  · subst h0
    clear hA
    go_enter Try.func116, Try.ntmps116
    go_wp2
    refine wp_loop_rounds 1 ?_
    rw [rounds_succ]
    go_wp2
    go_ret
    exact ⟨by simp, Below.refl _ _⟩
  · obtain ⟨g, off, ⟨d1, e1⟩, _, _⟩ := hA.rows (by rw [mark_len]; exact h0)
    injection e1 with e1 e1b e1c
    clear e1b e1c
    subst e1
    have hg := (hA.block rfl).2
    have HM := Lib.hid (show ∀ k, k < n → w.cell? ⟨g, off + k * 3, none⟩ = some (.int .i64 ((M : Int) + 3 * (k : Int))) ∧ w.cell? ⟨g, off + k * 3 + 1, none⟩ = some (.int .i64 ((M : Int) + 3 * (k : Int) + 1)) ∧ w.cell? ⟨g, off + k * 3 + 2, none⟩ = some (.int .i64 ((M : Int) + 3 * (k : Int) + 1 + 1)) from fun k hk => by
      have hc := (hA.at rfl (by rw [mark_len]; exact h0)).1
      have h0 := hc k (by rw [mark_len]; exact hk) 0 (by decide)
      have h1 := hc k (by rw [mark_len]; exact hk) 1 (by decide)
      have h2 := hc k (by rw [mark_len]; exact hk) 2 (by decide)
      simp only [mark_at] at h0 h1 h2
      exact ⟨h0, h1, h2⟩)
    clear hA
    go_enter Try.func116, Try.ntmps116
    go_wp2
    go_loopg [1, 5] n (fun gh v1 v5 wx => ∃ k : Nat, k ≤ n ∧ gh = n - k ∧ v5 = .int .i64 (k : Int) ∧ v1 = .int .i64 ((M : Int) + 3 * (k : Int)) ∧ Below w.heap.size w wx)
    case atStart => exact ⟨0, by omega, rfl, rfl, by simp, Below.refl _ _⟩
    case round =>
      obtain ⟨k, hk, rfl, rfl, rfl, hbel⟩ := hrel
      have HB := Lib.hid hbel
      by_cases hlt : k < n
      · have hd : decide (k < n) = true := by simp; omega
        obtain ⟨x0, x1, x2⟩ := HM.out k hlt
        have cx0 := (hbel.cell (p := ⟨g, off + k * 3, none⟩) hg).trans x0
        have cx1 := (hbel.cell (p := ⟨g, off + k * 3 + 1, none⟩) hg).trans x1
        have cx2 := (hbel.cell (p := ⟨g, off + k * 3 + 2, none⟩) hg).trans x2
        clear x0 x1 x2 hbel
        go_wp2
        go_roundg (n - (k + 1))
        case measure => omega
        case rel => exact ⟨k + 1, by omega, rfl, by go_num, by go_num, HB.out⟩
      · have hd : decide (k < n) = false := by simp; omega
        obtain rfl : k = n := by omega
        clear hlt
        go_wp2
        go_ret
        exact ⟨rfl, HB.out⟩
end Go.Proofs.Ytckofkdeedbbgaa
