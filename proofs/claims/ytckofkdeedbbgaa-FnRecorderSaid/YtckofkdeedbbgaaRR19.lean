/- What this text proves: the parts InM, RoK, RoT of the proof, each under its own words. -/
import Derived.Test.YtckofkdeedbbgaaRR07
import Derived.Test.YtckofkdeedbbgaaRR00
import Derived.Test.YtckofkdeedbbgaaRR16
import Derived.Test.YtckofkdeedbbgaaRR18
import Derived.Test.YtckofkdeedbbgaaRR09
import Derived.Test.YtckofkdeedbbgaaRR17
import Derived.Test.YtckofkdeedbbgaaRR10
/- What this text proves: the contracts of the laws' marks over lists of numbers: marks that were written are found again, and change nothing else. -/
namespace Go.Proofs.Ytckofkdeedbbgaa
open Go.ChangeShapes Go.WideShapes Go.ChangeAt Go.RowKit
set_option linter.unusedVariables false


/-- The mark of the i-th. -/
def mkIn (M i : Nat) : List Value := [.int .i64 ((M : Int) + (i : Int))]

set_option maxHeartbeats 2000000 in
theorem markIn_any (w : World) (base : Nat) (v : Value) (l : List (List Value)) (hl : l.length ≤ 1100000) (M : Nat) (hM1 : 1 ≤ M) (hM : M ≤ 10000000) (hown : LsO 1 w base v l) :
    Calls Try.prog 106 #[v, .int .i64 (M : Int)] w fun e w' => e = .returned (.int .i64 ((M : Int) + (l.length : Int))) ∧ w.grownBy w' v.ownBlock ∧ LsO 1 w' base v ((List.range l.length).map (mkIn M)) := by
  obtain ⟨A1, cp, rfl⟩ := hown.form
  rcases Nat.eq_zero_or_pos l.length with h0 | h0
  · have hl0 : l = [] := List.eq_nil_of_length_eq_zero h0
    subst hl0
    go_enter Try.func106, Try.ntmps106
    go_wp2
    refine wp_loop_rounds 1 ?_
    rw [rounds_succ]
    go_wp2
    go_ret
    exact ⟨by simp, grown_of (Below.refl _ _) _, hown⟩
  · obtain ⟨g, off, ⟨d1, e1⟩, _, _⟩ := hown.rows h0
    injection e1 with e1 e1b e1c
    clear e1b e1c
    subst e1
    have P0 := Lib.hid hown
    have HWD := Lib.hid hown.wide
    clear hown
    go_enter Try.func106, Try.ntmps106
    go_wp2
    go_loopg [1, 5] l.length (fun gh v1 v5 wx => ∃ k : Nat, k ≤ l.length ∧ gh = l.length - k ∧ v5 = .int .i64 (k : Int) ∧ v1 = .int .i64 ((M : Int) + (k : Int)) ∧ LsO 1 wx base (.slice (some ⟨g, off, none⟩) l.length cp) (frontOf (mkIn M) l k) ∧ w.grownBy wx (some g))
    case atStart => exact ⟨0, by omega, rfl, rfl, by simp, by rw [frontOf_zero]; exact P0.out, grown_of (Below.refl _ _) _⟩
    case round =>
      obtain ⟨k, hk, rfl, rfl, rfl, hls, hbel⟩ := hrel
      have HB := Lib.hid hbel
      by_cases hlt : k < l.length
      · have hd : decide (k < l.length) = true := by simp; omega
        have hkf : k < (frontOf (mkIn M) l k).length := by rw [frontOf_len _ _ hk]; exact hlt
        have i0 := hls.ice (by omega)
        have HR := Lib.hid (HWD.out _ (List.getElem_mem hlt))
        have HAT := Lib.hid (frontOf_at (mkIn M) l hlt)
        have HFS := Lib.hid (frontOf_set (mkIn M) l hlt)
        obtain ⟨u0, c0'⟩ := hls.has k hkf 0 (by decide)
        have c0 : wr.cell? ⟨g, off + k, none⟩ = some u0 := by rw [Nat.mul_one] at c0'; exact c0'
        have s0 := hls.set k hkf 0 (by decide) (.int .i64 ((M : Int) + (k : Int)))
        have HF := Lib.hid (show LsO 1 (wr.setCell ⟨g, off + k, none⟩ (.int .i64 ((M : Int) + (k : Int)))) base (.slice (some ⟨g, off, none⟩) l.length cp) (frontOf (mkIn M) l (k + 1)) from by
          have h := s0
          rw [Nat.mul_one] at h
          have e : setAt (frontOf (mkIn M) l k) k 0 (.int .i64 ((M : Int) + (k : Int))) = frontOf (mkIn M) l (k + 1) := by
            unfold setAt
            rw [HAT.out, ← HFS.out]
            congr 1
            have hr := HR.out
            match l[k], hr with
            | [_], _ => rfl
          rw [e] at h
          exact h)
        have HG := Lib.hid (grown_store HB.out (j := off + k) (.int .i64 ((M : Int) + (k : Int))))
        clear hls hbel s0 c0'
        go_wp2
        go_roundg (l.length - (k + 1))
        case measure => omega
        case rel => exact ⟨k + 1, by omega, rfl, by go_num, by go_num, HF.out, HG.out⟩
      · have hd : decide (k < l.length) = false := by simp; omega
        obtain rfl : k = l.length := by omega
        rw [frontOf_all] at hls
        clear hlt
        go_wp2
        go_ret
        exact ⟨rfl, HB.out, hls⟩

set_option maxHeartbeats 2000000 in
theorem heldIn_any (w : World) (base M : Nat) (v : Value) (n : Nat) (hn : n ≤ 1100000) (hA : LsO 1 w base v ((List.range n).map (mkIn M))) (hM1 : 1 ≤ M) (hM : M ≤ 10000000) :
    Calls Try.prog 108 #[v, .int .i64 (M : Int)] w fun e w' => e = .returned (.int .i64 ((M : Int) + (n : Int))) ∧ Below w.heap.size w w' := by
  obtain ⟨A, c, rfl⟩ := hA.form
  rw [mark_len] at hA ⊢
  rcases Nat.eq_zero_or_pos n with h0 | h0
  · subst h0
    clear hA
    go_enter Try.func108, Try.ntmps108
    go_wp2
    refine wp_loop_rounds 1 ?_
    rw [rounds_succ]
    go_wp2
    go_ret
    exact ⟨by simp, Below.refl _ _⟩
  · obtain ⟨g, off, ⟨d1, e1⟩, _, _⟩ := hA.rows (by rw [mark_len]; exact h0)
    injection e1 with e1 e1b e1c
    clear e1b e1c
    subst e1
    have HM := Lib.hid (show ∀ k, k < n → w.cell? ⟨g, off + k, none⟩ = some (.int .i64 ((M : Int) + (k : Int))) from fun k hk => by
      have hc := (hA.at rfl (by rw [mark_len]; exact h0)).1
      have h0 := hc k (by rw [mark_len]; exact hk) 0 (by decide)
      simp only [mark_at, Nat.mul_one] at h0
      exact h0)
    clear hA
    go_enter Try.func108, Try.ntmps108
    go_wp2
    go_loopg [1, 5] n (fun gh v1 v5 wx => ∃ k : Nat, k ≤ n ∧ gh = n - k ∧ v5 = .int .i64 (k : Int) ∧ v1 = .int .i64 ((M : Int) + (k : Int)) ∧ w = wx)
    case atStart => exact ⟨0, by omega, rfl, rfl, by simp, rfl⟩
    case round =>
      obtain ⟨k, hk, rfl, rfl, rfl, rfl⟩ := hrel
      by_cases hlt : k < n
      · have hd : decide (k < n) = true := by simp; omega
        have x0 := HM.out k hlt
        go_wp2
        go_roundg (n - (k + 1))
        case measure => omega
        case rel => exact ⟨k + 1, by omega, rfl, by go_num, by go_num, rfl⟩
      · have hd : decide (k < n) = false := by simp; omega
        obtain rfl : k = n := by omega
        clear hlt
        go_wp2
        go_ret
        exact ⟨rfl, Below.refl _ _⟩
end Go.Proofs.Ytckofkdeedbbgaa
/- What this text proves: the contracts of the laws' marks over recorders: marks that were written are found again, and change nothing else. -/
namespace Go.Proofs.Ytckofkdeedbbgaa
open Go.ChangeShapes Go.WideShapes Go.ChangeAt Go.RowKit
set_option linter.unusedVariables false

/-- The blocks of a recorder's lists. -/
def blkRo (v : Value) (k : Nat) : Prop := ∃ r v1 v2, v = roV r v1 v2 ∧ (v1.ownBlock = some k ∨ v2.ownBlock = some k)
theorem blkRo_iff {r : Int} {v1 v2 : Value} {k : Nat} : blkRo (roV r v1 v2) k ↔ (v1.ownBlock = some k ∨ v2.ownBlock = some k) := by
  constructor
  · rintro ⟨r', u1, u2, e, h⟩
    simp only [roV, Value.agg.injEq, Array.mk.injEq, List.cons.injEq, and_true] at e
    obtain ⟨_, e1, e2⟩ := e
    subst e1 e2
    exact h
  · intro h
    exact ⟨r, v1, v2, rfl, h⟩
theorem OwnRo.blk {w : World} {base : Nat} {v : Value} {r : Int} {l : List Rc} {d : List Int} (h : OwnRo w base v r l d) {k : Nat} (hk : blkRo v k) : base ≤ k ∧ k < w.heap.size := by
  obtain ⟨A, c, A2, c2, rfl, h1, h2, _⟩ := h.form
  rcases blkRo_iff.1 hk with e | e
  · exact LsO.up h1 k e
  · exact LsO.up h2 k e
theorem OwnRo.touch {w w' : World} {base : Nat} {v : Value} {r : Int} {l : List Rc} {d : List Int} {S : Nat → Prop} (h : OwnRo w base v r l d) (ht : Touch w w' S) (hne : ∀ k, blkRo v k → ¬ S k) : OwnRo w' base v r l d := by
  obtain ⟨A, c, A2, c2, rfl, h1, h2, h3⟩ := h.form
  exact ⟨A, c, A2, c2, rfl, LsO.touch h1 ht (fun k hk => hne k (blkRo_iff.2 (.inl hk))), LsO.touch h2 ht (fun k hk => hne k (blkRo_iff.2 (.inr hk))), h3⟩
/-- A recorder that bears the marks from M on: n of records, m of numbers. -/
structure MkRo (w : World) (base : Nat) (v : Value) (M n m : Nat) : Prop where
  form : ∃ r A c A2 c2, v = roV r (.slice A n c) (.slice A2 m c2) ∧ LsO 4 w base (.slice A n c) ((List.range n).map (mkRc M)) ∧ LsO 1 w base (.slice A2 m c2) ((List.range m).map (mkIn (M + 4 * n)))
theorem MkRo.touch {w w' : World} {base : Nat} {v : Value} {M n m : Nat} {S : Nat → Prop} (h : MkRo w base v M n m) (ht : Touch w w' S) (hne : ∀ k, blkRo v k → ¬ S k) : MkRo w' base v M n m := by
  obtain ⟨r, A, c, A2, c2, rfl, h1, h2⟩ := h.form
  exact ⟨r, A, c, A2, c2, rfl, LsO.touch h1 ht (fun k hk => hne k (blkRo_iff.2 (.inl hk))), LsO.touch h2 ht (fun k hk => hne k (blkRo_iff.2 (.inr hk)))⟩
theorem MkRo.more {w w' : World} {base : Nat} {v : Value} {M n m : Nat} (h : MkRo w base v M n m) (hb : Below w.heap.size w w') : MkRo w' base v M n m := by
  obtain ⟨r, A, c, A2, c2, rfl, h1, h2⟩ := h.form
  exact ⟨r, A, c, A2, c2, rfl, LsO.more h1 hb, LsO.more h2 hb⟩

set_option maxHeartbeats 1000000 in
theorem mark_ro (r : Int) (l : List Rc) (d : List Int) (hl : l.length ≤ 1100000) (hd : d.length ≤ 1100000) (v : Value) (base M : Nat) (hM1 : 1 ≤ M) (hM : M ≤ 5500000) (w : World) (h : OwnRo w base v r l d) :
    Calls Try.prog 41 #[v, .int .i64 (M : Int)] w fun e w' => e = .returned (.int .i64 ((M + 4 * l.length + d.length : Nat) : Int)) ∧ Touch w w' (blkRo v) ∧ MkRo w' base v M l.length d.length := by
  obtain ⟨A1, c1, B1, e1, rfl, o1, p1, ap⟩ := h.form
  have HF := Lib.hid (Fit.made w (roL r (.slice A1 l.length c1) (.slice B1 d.length e1)) 30)
  have HE := Lib.hid ((markRc_any _ base (.slice A1 l.length c1) (l.map rcC) (by rw [List.length_map]; exact hl) M hM1 (by omega) (LsO.more o1 HF.out.below)).mono fun e w' hh => (show e = .returned (.int .i64 ((M + 4 * l.length : Nat) : Int)) ∧ Touch (w.alloc (.cells (roL r (.slice A1 l.length c1) (.slice B1 d.length e1)).toArray 30)) w' (fun k => (Value.slice A1 l.length c1).ownBlock = some k) ∧ LsO 4 w' base (.slice A1 l.length c1) ((List.range l.length).map (mkRc M)) from by
    rw [List.length_map] at hh
    exact ⟨by rw [hh.1]; congr 2, Touch.of_grown hh.2.1, hh.2.2⟩))
  have HG := Lib.hid (fun W (hW : LsO 1 W base (.slice B1 d.length e1) (d.map inC)) => (markIn_any W base (.slice B1 d.length e1) (d.map inC) (by rw [List.length_map]; exact hd) (M + 4 * l.length) (by omega) (by omega) hW).mono fun e w' hh => (show e = .returned (.int .i64 ((M + 4 * l.length + d.length : Nat) : Int)) ∧ Touch W w' (fun k => (Value.slice B1 d.length e1).ownBlock = some k) ∧ LsO 1 w' base (.slice B1 d.length e1) ((List.range d.length).map (mkIn (M + 4 * l.length))) from by
    rw [List.length_map] at hh
    exact ⟨by rw [hh.1]; congr 2, Touch.of_grown hh.2.1, hh.2.2⟩))
  have HP := Lib.hid (LsO.more p1 HF.out.below)
  have hne : (Value.slice A1 l.length c1).ownBlock ≠ some w.heap.size := fun e => by have := (LsO.up o1 _ e).2; omega
  have HNE := Lib.hid hne
  have HAP := Lib.hid ap
  generalize hV : ((M + 4 * l.length : Nat) : Int) = V at *
  clear h o1 p1 ap hne
  go_enter Try.func41, Try.ntmps41
  go_wp2_with fail
  refine HE.out.mono ?_
  rintro e w1 ⟨rfl, ht1, hm1⟩
  have B1x := HF.out.box.touch ht1 HNE.out
  obtain ⟨k0, k1, k2⟩ := B1x.threeQ
  have HP1 := Lib.hid (LsO.touch HP.out ht1 (fun k hk e => HAP.out k e hk))
  have HT1 := Lib.hid ((Touch.of_below (HF.out.below) (blkRo (roV r (.slice A1 l.length c1) (.slice B1 d.length e1)))).trans (ht1.mono (fun k hk => blkRo_iff.2 (.inl hk))))
  have HM1 := Lib.hid hm1
  clear ht1 hm1 B1x
  subst hV
  go_wp2_with fail
  refine (HG.out _ HP1.out).mono ?_
  rintro e w2 ⟨rfl, ht2, hm2⟩
  have HT2 := Lib.hid (HT1.out.trans (ht2.mono (fun k hk => blkRo_iff.2 (.inr hk))))
  have HM2 := Lib.hid (LsO.touch HM1.out ht2 (fun k hk e => HAP.out k hk e))
  have HN2 := Lib.hid hm2
  clear ht2 hm2
  go_wp2
  go_ret
  exact ⟨rfl, HT2.out, ⟨r, A1, c1, B1, e1, rfl, HM2.out, HN2.out⟩⟩

set_option maxHeartbeats 1000000 in
theorem held_ro (n m : Nat) (hn : n ≤ 1100000) (hm : m ≤ 1100000) (v : Value) (base M : Nat) (hM1 : 1 ≤ M) (hM : M ≤ 5500000) (w : World) (h : MkRo w base v M n m) :
    Calls Try.prog 42 #[v, .int .i64 (M : Int)] w fun e w' => e = .returned (.int .i64 ((M + 4 * n + m : Nat) : Int)) ∧ Below w.heap.size w w' := by
  obtain ⟨r, A1, c1, B1, e1, rfl, h1, h2⟩ := h.form
  have HF := Lib.hid (Fit.made w (roL r (.slice A1 n c1) (.slice B1 m e1)) 30)
  have HE := Lib.hid ((heldRc_any _ base M (.slice A1 n c1) n hn (LsO.more h1 HF.out.below) hM1 (by omega)).mono fun e w' hh => (show e = .returned (.int .i64 ((M + 4 * n : Nat) : Int)) ∧ Fit w w' w.heap.size (roL r (.slice A1 n c1) (.slice B1 m e1)) from ⟨by rw [hh.1]; congr 2, HF.out.more hh.2⟩))
  have HG := Lib.hid (fun W (hb : Below w.heap.size w W) => (heldIn_any W base (M + 4 * n) (.slice B1 m e1) m hm (LsO.more h2 hb) (by omega) (by omega)).mono fun e w' hh => (show e = .returned (.int .i64 ((M + 4 * n + m : Nat) : Int)) ∧ Below W.heap.size W w' from ⟨by rw [hh.1]; congr 2, hh.2⟩))
  have hd1 : decide (((M + 4 * n : Nat) : Int) < 0) = false := decide_eq_false (by omega)
  have hd2 : decide (((M + 4 * n + m : Nat) : Int) < 0) = false := decide_eq_false (by omega)
  generalize ((M + 4 * n : Nat) : Int) = V at *
  generalize ((M + 4 * n + m : Nat) : Int) = V2 at *
  clear h h1 h2
  go_enter Try.func42, Try.ntmps42
  go_wp2_with fail
  refine HE.out.mono ?_
  rintro e w1 ⟨rfl, hf1⟩
  have F1 := Lib.hid hf1
  obtain ⟨k0, k1, k2⟩ := hf1.box.threeQ
  clear hf1
  go_wp2_with fail
  refine (HG.out _ F1.out.below).mono ?_
  rintro e w2 ⟨rfl, hb⟩
  have F2 := Lib.hid (F1.out.more hb)
  clear hb
  go_wp2
  go_ret
  exact ⟨rfl, F2.out.below⟩
end Go.Proofs.Ytckofkdeedbbgaa
/- What this text proves: recorders as things that lie apart: to be read, to be appended to, marked; their lists as things of their own. -/
namespace Go.Proofs.Ytckofkdeedbbgaa
open Go.ChangeShapes Go.WideShapes Go.ChangeAt Go.RowKit
set_option linter.unusedVariables false

/-- A recorder of the call's own, to be read. -/
def roT (v : Value) (r : Int) (l : List Rc) (d : List Int) : Thing := ⟨blkRo v, fun W => OwnRo W 0 v r l d, fun W h k hk => (h.blk hk).2, fun W W' S h ht hne => h.touch ht hne⟩
theorem OwnRr.touch {w w' : World} {base : Nat} {v : Value} {r : Int} {l : List Rc} {d : List Int} {S : Nat → Prop} (h : OwnRr w base v r l d) (ht : Touch w w' S) (hne : ∀ k, blkRo v k → ¬ S k) : OwnRr w' base v r l d := by
  obtain ⟨A, c, A2, c2, rfl, h1, h2, h3⟩ := h.form
  exact ⟨A, c, A2, c2, rfl, OwnR.touch h1 ht (fun k hk => hne k (blkRo_iff.2 (.inl hk))), OwnR.touch h2 ht (fun k hk => hne k (blkRo_iff.2 (.inr hk))), h3⟩
/-- A recorder of the call's own, to be appended to. -/
def rrT (v : Value) (r : Int) (l : List Rc) (d : List Int) : Thing := ⟨blkRo v, fun W => OwnRr W 0 v r l d, fun W h k hk => (h.toO.blk hk).2, fun W W' S h ht hne => h.touch ht hne⟩
theorem MkRo.blk {w : World} {base : Nat} {v : Value} {M n m : Nat} (h : MkRo w base v M n m) {k : Nat} (hk : blkRo v k) : k < w.heap.size := by
  obtain ⟨r, A, c, A2, c2, rfl, h1, h2⟩ := h.form
  rcases blkRo_iff.1 hk with e | e
  · exact (LsO.up h1 k e).2
  · exact (LsO.up h2 k e).2
/-- A recorder that bears marks. -/
def rmT (v : Value) (M n m : Nat) : Thing := ⟨blkRo v, fun W => MkRo W 0 v M n m, fun W h k hk => h.blk hk, fun W W' S h ht hne => h.touch ht hne⟩
/-- The two lists of a recorder, each by itself. -/
abbrev roRows (A : Option Addr) (c : Nat) (A2 : Option Addr) (c2 : Nat) (l : List Rc) (d : List Int) : List Thing := [rowT 50 4 (.slice A l.length c) (l.map rcC), rowT 3 1 (.slice A2 d.length c2) (d.map inC)]
theorem OwnRr.rows {W : World} {base : Nat} {r : Int} {A A2 : Option Addr} {c c2 : Nat} {l : List Rc} {d : List Int} (h : OwnRr W base (roV r (.slice A l.length c) (.slice A2 d.length c2)) r l d) : OwnR 50 4 W base (.slice A l.length c) (l.map rcC) ∧ OwnR 3 1 W base (.slice A2 d.length c2) (d.map inC) ∧ Apart (.slice A l.length c) (.slice A2 d.length c2) := by
  obtain ⟨A', c', A2', c2', e, h1, h2, h3⟩ := h.form
  simp only [roV, Value.agg.injEq, Array.mk.injEq, List.cons.injEq, Value.slice.injEq, true_and, and_true] at e
  obtain ⟨⟨e1, e2⟩, e3, e4⟩ := e
  subst e1 e2 e3 e4
  exact ⟨h1, h2, h3⟩
theorem St.splitR {w W : World} {L : List Thing} {r : Int} {A A2 : Option Addr} {c c2 : Nat} {l : List Rc} {d : List Int} (h : St w W (rrT (roV r (.slice A l.length c) (.slice A2 d.length c2)) r l d :: L)) : St w W (roRows A c A2 c2 l d ++ L) := by
  have hr : OwnRr W 0 (roV r (.slice A l.length c) (.slice A2 d.length c2)) r l d := h.nth 0 _ rfl
  obtain ⟨h1, h2, h3⟩ := hr.rows
  refine (h.as 0 _ rfl (allT (roRows A c A2 c2 l d)) ⟨fun t ht => ?_, List.pairwise_cons.2 ⟨fun t ht k hk hu => ?_, List.pairwise_singleton _ _⟩⟩ (fun k hk => ?_)).split
  · simp only [roRows, List.mem_cons, List.not_mem_nil, or_false] at ht
    rcases ht with rfl | rfl
    · exact h1
    · exact h2
  · rw [List.mem_singleton.1 ht] at hu
    exact h3 k hk hu
  · obtain ⟨t, ht, hk⟩ := hk
    simp only [roRows, List.mem_cons, List.not_mem_nil, or_false] at ht
    rcases ht with rfl | rfl
    · exact blkRo_iff.2 (.inl hk)
    · exact blkRo_iff.2 (.inr hk)
/-- Two lists that lie apart make a recorder. -/
theorem St.ownRr {w W : World} {L : List Thing} (h : St w W L) (r : Int) {A A2 : Option Addr} {c c2 : Nat} {l : List Rc} {d : List Int} (i j : Nat) (ei : L[i]? = some (rowT 50 4 (.slice A l.length c) (l.map rcC))) (ej : L[j]? = some (rowT 3 1 (.slice A2 d.length c2) (d.map inC))) (hne : i ≠ j) :
    (rrT (roV r (.slice A l.length c) (.slice A2 d.length c2)) r l d).P W ∧ ∀ k, (rrT (roV r (.slice A l.length c) (.slice A2 d.length c2)) r l d).F k → w.heap.size ≤ k := by
  refine ⟨⟨A, c, A2, c2, rfl, h.row i _ _ _ _ ei, h.row j _ _ _ _ ej, fun k hk hu => h.two i j _ _ ei ej hne k hk hu⟩, fun k hk => ?_⟩
  rcases blkRo_iff.1 hk with e | e
  · exact h.nthPast i _ ei k e
  · exact h.nthPast j _ ej k e
/-- A call that hands back a recorder of its own. -/
abbrev RrEnd (w : World) (r : Int) (l : List Rc) (d : List Int) : Ending → World → Prop := Gives w fun v => rrT v r l d
theorem rrT.ro {W : World} {v : Value} {r : Int} {l : List Rc} {d : List Int} (h : (rrT v r l d).P W) : (roT v r l d).P W := OwnRr.toO h
theorem rr_gives {w : World} {f : Nat} {args : Array Value} {r : Int} {l : List Rc} {d : List Int} (h : Calls Try.prog f args w fun e w' => ∃ v, e = .returned v ∧ OwnRr w' w.heap.size v r l d ∧ Below w.heap.size w w') : Calls Try.prog f args w (RrEnd w r l d) :=
  h.mono fun e w' ⟨v, h1, h2, h3⟩ => ⟨v, h1, h2.lower (Nat.zero_le _), fun k hk => (h2.toO.blk hk).1, h3⟩
theorem ro_gives {w : World} {f : Nat} {args : Array Value} {r : Int} {l : List Rc} {d : List Int} (h : Calls Try.prog f args w fun e w' => ∃ v, e = .returned v ∧ OwnRo w' w.heap.size v r l d ∧ Below w.heap.size w w') : Calls Try.prog f args w (Gives w fun v => roT v r l d) :=
  h.mono fun e w' ⟨v, h1, h2, h3⟩ => ⟨v, h1, h2.lower (Nat.zero_le _), fun k hk => (h2.blk hk).1, h3⟩
theorem rrT.form {W : World} {v : Value} {r : Int} {l : List Rc} {d : List Int} (h : (rrT v r l d).P W) : ∃ A c A2 c2, v = roV r (.slice A l.length c) (.slice A2 d.length c2) := by
  obtain ⟨A, c, A2, c2, rfl, _⟩ := OwnRr.form h
  exact ⟨A, c, A2, c2, rfl⟩
end Go.Proofs.Ytckofkdeedbbgaa
