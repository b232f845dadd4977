/- What this text proves: the parts RcM, InM, Tch of the proof, each under its own words. -/
import Derived.Test.YtckofkdeedbbgaaNN06
import Derived.Test.YtckofkdeedbbgaaNN12
import Derived.Test.YtckofkdeedbbgaaNN01
import Derived.Test.YtckofkdeedbbgaaNN07
import Derived.Test.YtckofkdeedbbgaaNN02
/- What this text proves: the contracts of the laws' marks over lists of records: marks that were written are found again, and change nothing else. -/
namespace Go.Proofs.Ytckofkdeedbbgaa
open Go.ChangeShapes Go.WideShapes Go.ChangeAt Go.RowKit
set_option linter.unusedVariables false


/-- The marks of the i-th row. -/
def mkRc (M i : Nat) : List Value := [.int .i64 ((M : Int) + 4 * (i : Int)), .int .i64 ((M : Int) + 4 * (i : Int) + 1), .int .i64 ((M : Int) + 4 * (i : Int) + 1 + 1), .string (markV (M + 4 * i + 3))]
theorem row_rc (x : List Value) (hx : x.length = 4) (a0 a1 a2 a3 : Value) : ((((x.set 0 a0).set 1 a1).set 2 a2).set 3 a3) = [a0, a1, a2, a3] := by
  match x, hx with
  | [_, _, _, _], _ => rfl

set_option maxHeartbeats 4000000 in
theorem markRc_any (w : World) (base : Nat) (v : Value) (l : List (List Value)) (hl : l.length ≤ 1100000) (M : Nat) (hM1 : 1 ≤ M) (hM : M ≤ 10000000) (hown : LsO 4 w base v l) :
    Calls Try.prog 105 #[v, .int .i64 (M : Int)] w fun e w' => e = .returned (.int .i64 ((M : Int) + 4 * (l.length : Int))) ∧ w.grownBy w' v.ownBlock ∧ LsO 4 w' base v ((List.range l.length).map (mkRc M)) := by
  obtain ⟨A1, cp, rfl⟩ := hown.form
  rcases Nat.eq_zero_or_pos l.length with h0 | h0
  · have hl0 : l = [] := List.eq_nil_of_length_eq_zero h0
    subst hl0
    go_enter Try.func105, Try.ntmps105
    go_wp2
    refine wp_loop_rounds 1 ?_
    rw [rounds_succ]
    go_wp2
    go_ret
    exact ⟨by simp, grown_of (Below.refl _ _) _, hown⟩
  · obtain ⟨g, off, ⟨d1, e1⟩, _, _⟩ := hown.rows h0
    injection e1 with e1 e1b e1c
    clear e1b e1c
    subst e1
    have P0 := Lib.hid hown
    have HMT := Lib.hid (fun (n : Nat) (h1 : 0 < n) (h2 : n < 1000000000) W => mark_text n h1 h2 W)
    have HWD := Lib.hid hown.wide
    clear hown
    go_enter Try.func105, Try.ntmps105
    go_wp2
    go_loopg [1, 5] l.length (fun gh v1 v5 wx => ∃ k : Nat, k ≤ l.length ∧ gh = l.length - k ∧ v5 = .int .i64 (k : Int) ∧ v1 = .int .i64 ((M : Int) + 4 * (k : Int)) ∧ LsO 4 wx base (.slice (some ⟨g, off, none⟩) l.length cp) (frontOf (mkRc M) l k) ∧ w.grownBy wx (some g))
    case atStart => exact ⟨0, by omega, rfl, rfl, by simp, by rw [frontOf_zero]; exact P0.out, grown_of (Below.refl _ _) _⟩
    case round =>
      obtain ⟨k, hk, rfl, rfl, rfl, hls, hbel⟩ := hrel
      have HB := Lib.hid hbel
      by_cases hlt : k < l.length
      · have hd : decide (k < l.length) = true := by simp; omega
        have hkf : k < (frontOf (mkRc M) l k).length := by rw [frontOf_len _ _ hk]; exact hlt
        have i0 := hls.ice (by omega)
        have HR := Lib.hid (HWD.out _ (List.getElem_mem hlt))
        have HAT := Lib.hid (frontOf_at (mkRc M) l hlt)
        have HFS := Lib.hid (frontOf_set (mkRc M) l hlt)
        obtain ⟨u0, c0'⟩ := hls.has k hkf 0 (by decide)
        have c0 : (wr).cell? ⟨g, off + k * 4, none⟩ = some u0 := c0'
        clear c0'
        have s0 := hls.set k hkf 0 (by decide) (.int .i64 ((M : Int) + 4 * (k : Int)))
        obtain ⟨u1, c1'⟩ := s0.has k (by simp only [setAt_len]; exact hkf) 1 (by decide)
        have c1 : ((wr).setCell ⟨g, off + k * 4, none⟩ (.int .i64 ((M : Int) + 4 * (k : Int)))).cell? ⟨g, off + k * 4 + 1, none⟩ = some u1 := c1'
        clear c1'
        have s1 := s0.set k (by simp only [setAt_len]; exact hkf) 1 (by decide) (.int .i64 ((M : Int) + 4 * (k : Int) + 1))
        obtain ⟨u2, c2'⟩ := s1.has k (by simp only [setAt_len]; exact hkf) 2 (by decide)
        have c2 : (((wr).setCell ⟨g, off + k * 4, none⟩ (.int .i64 ((M : Int) + 4 * (k : Int)))).setCell ⟨g, off + k * 4 + 1, none⟩ (.int .i64 ((M : Int) + 4 * (k : Int) + 1))).cell? ⟨g, off + k * 4 + 2, none⟩ = some u2 := c2'
        clear c2'
        have s2 := s1.set k (by simp only [setAt_len]; exact hkf) 2 (by decide) (.int .i64 ((M : Int) + 4 * (k : Int) + 1 + 1))
        have HS := Lib.hid s2
        have HG := Lib.hid (grown_store (grown_store (grown_store HB.out (j := off + k * 4) (.int .i64 ((M : Int) + 4 * (k : Int)))) (j := off + k * 4 + 1) (.int .i64 ((M : Int) + 4 * (k : Int) + 1))) (j := off + k * 4 + 2) (.int .i64 ((M : Int) + 4 * (k : Int) + 1 + 1)))
        have hmt := HMT.out (M + 4 * k + 3) (by omega) (by omega)
        rw [show ((M + 4 * k + 3 : Nat) : Int) = (M : Int) + 4 * (k : Int) + 1 + 1 + 1 by omega] at hmt
        have HMK := Lib.hid hmt
        obtain ⟨TT, hT⟩ : ∃ TT, markV (M + 4 * k + 3) = TT := ⟨_, rfl⟩
        rw [hT] at HMK
        have HT := Lib.hid hT
        clear hT hls hbel hmt s0 s1 s2
        go_wp2_with fail
        refine (HMK.out _).mono ?_
        rintro e w2 ⟨rfl, hb2⟩
        have S2 := HS.out.more hb2
        have G2 := grown_trans HG.out (grown_of hb2 (some g))
        obtain ⟨u3, c3'⟩ := S2.has k (by simp only [setAt_len]; exact hkf) 3 (by decide)
        have c3 : w2.cell? ⟨g, off + k * 4 + 3, none⟩ = some u3 := c3'
        have i2 := S2.ice (by simp only [setAt_len]; omega)
        have HF := Lib.hid (show LsO 4 (w2.setCell ⟨g, off + k * 4 + 3, none⟩ (.string TT)) base (.slice (some ⟨g, off, none⟩) l.length cp) (frontOf (mkRc M) l (k + 1)) from by
          have h := S2.set k (by simp only [setAt_len]; exact hkf) 3 (by decide) (.string TT)
          rw [← HT.out] at h
          rw [show setAt (frontOf (mkRc M) l k) k 0 (.int .i64 ((M : Int) + 4 * (k : Int))) = (frontOf (mkRc M) l k).set k (l[k].set 0 (.int .i64 ((M : Int) + 4 * (k : Int)))) from by unfold setAt; rw [HAT.out], setAt_row _ _ hkf, setAt_row _ _ hkf, setAt_row _ _ hkf, row_rc _ HR.out, show [.int .i64 ((M : Int) + 4 * (k : Int)), .int .i64 ((M : Int) + 4 * (k : Int) + 1), .int .i64 ((M : Int) + 4 * (k : Int) + 1 + 1), .string (markV (M + 4 * k + 3))] = mkRc M k from rfl, HFS.out] at h
          rw [HT.out] at h
          exact h)
        have HG2 := Lib.hid (grown_store G2 (j := off + k * 4 + 3) (.string TT))
        clear S2 G2 hb2 i0 c3' c0 c1 c2
        go_wp2
        go_roundg (l.length - (k + 1))
        case measure => omega
        case rel => exact ⟨k + 1, by omega, rfl, by go_num, by go_num, HF.out, HG2.out⟩
      · have hd : decide (k < l.length) = false := by simp; omega
        obtain rfl : k = l.length := by omega
        rw [frontOf_all] at hls
        clear hlt
        go_wp2
        go_ret
        exact ⟨rfl, HB.out, hls⟩

set_option maxHeartbeats 4000000 in
theorem heldRc_any (w : World) (base M : Nat) (v : Value) (n : Nat) (hn : n ≤ 1100000) (hA : LsO 4 w base v ((List.range n).map (mkRc M))) (hM1 : 1 ≤ M) (hM : M ≤ 10000000) :
    Calls Try.prog 107 #[v, .int .i64 (M : Int)] w fun e w' => e = .returned (.int .i64 ((M : Int) + 4 * (n : Int))) ∧ Below w.heap.size w w' := by
  obtain ⟨A, c, rfl⟩ := hA.form
  rw [mark_len] at hA ⊢
  rcases Nat.eq_zero_or_pos n with h0 | h0
  · subst h0
    clear hA
    go_enter Try.func107, Try.ntmps107
    go_wp2
    refine wp_loop_rounds 1 ?_
    rw [rounds_succ]
    go_wp2
    go_ret
    exact ⟨by simp, Below.refl _ _⟩
  · obtain ⟨g, off, ⟨d1, e1⟩, _, _⟩ := hA.rows (by rw [mark_len]; exact h0)
    injection e1 with e1 e1b e1c
    clear e1b e1c
    subst e1
    have hg := (hA.block rfl).2
    have HM := Lib.hid (show ∀ k, k < n → w.cell? ⟨g, off + k * 4, none⟩ = some (.int .i64 ((M : Int) + 4 * (k : Int))) ∧ w.cell? ⟨g, off + k * 4 + 1, none⟩ = some (.int .i64 ((M : Int) + 4 * (k : Int) + 1)) ∧ w.cell? ⟨g, off + k * 4 + 2, none⟩ = some (.int .i64 ((M : Int) + 4 * (k : Int) + 1 + 1)) ∧ w.cell? ⟨g, off + k * 4 + 3, none⟩ = some (.string (markV (M + 4 * k + 3))) from fun k hk => by
      have hc := (hA.at rfl (by rw [mark_len]; exact h0)).1
      have h0 := hc k (by rw [mark_len]; exact hk) 0 (by decide)
      have h1 := hc k (by rw [mark_len]; exact hk) 1 (by decide)
      have h2 := hc k (by rw [mark_len]; exact hk) 2 (by decide)
      have h3 := hc k (by rw [mark_len]; exact hk) 3 (by decide)
      simp only [mark_at] at h0 h1 h2 h3
      exact ⟨h0, h1, h2, h3⟩)
    have HMT := Lib.hid (fun (n : Nat) (h1 : 0 < n) (h2 : n < 1000000000) W => mark_text n h1 h2 W)
    clear hA
    go_enter Try.func107, Try.ntmps107
    go_wp2
    go_loopg [1, 5] n (fun gh v1 v5 wx => ∃ k : Nat, k ≤ n ∧ gh = n - k ∧ v5 = .int .i64 (k : Int) ∧ v1 = .int .i64 ((M : Int) + 4 * (k : Int)) ∧ Below w.heap.size w wx)
    case atStart => exact ⟨0, by omega, rfl, rfl, by simp, Below.refl _ _⟩
    case round =>
      obtain ⟨k, hk, rfl, rfl, rfl, hbel⟩ := hrel
      have HB := Lib.hid hbel
      by_cases hlt : k < n
      · have hd : decide (k < n) = true := by simp; omega
        obtain ⟨x0, x1, x2, x3⟩ := HM.out k hlt
        have cx0 := (hbel.cell (p := ⟨g, off + k * 4, none⟩) hg).trans x0
        have cx1 := (hbel.cell (p := ⟨g, off + k * 4 + 1, none⟩) hg).trans x1
        have cx2 := (hbel.cell (p := ⟨g, off + k * 4 + 2, none⟩) hg).trans x2
        have cx3 := (hbel.cell (p := ⟨g, off + k * 4 + 3, none⟩) hg).trans x3
        have hmt := HMT.out (M + 4 * k + 3) (by omega) (by omega)
        rw [show ((M + 4 * k + 3 : Nat) : Int) = (M : Int) + 4 * (k : Int) + 1 + 1 + 1 by omega] at hmt
        have HMK := Lib.hid hmt
        have hself : ((markV (M + 4 * k + 3)).toList == (markV (M + 4 * k + 3)).toList) = true := beq_self_eq_true _
        generalize markV (M + 4 * k + 3) = TT at *
        have HK2 := Lib.hid (fun W (hW : Below w.heap.size w W) => (HMK.out W).mono fun e w' h => (⟨h.1, hW.trans (h.2.mono hW.size), ((hW.trans (h.2.mono hW.size)).cell (p := ⟨g, off + k * 4 + 3, none⟩) hg).trans x3⟩ : e = .returned (.string TT) ∧ Below w.heap.size w w' ∧ w'.cell? ⟨g, off + k * 4 + 3, none⟩ = some (.string TT)))
        clear x0 x1 x2 x3 hmt hbel
        go_wp2
        go_region_law ((go_simp; go_at_call 150; (with_reducible refine (HK2.out _ HB.out.drew).mono ?_); rintro e w2 ⟨rfl, hb2, d2⟩))
        all_goals go_wp2
        all_goals
          go_roundg (n - (k + 1))
          case measure => omega
          case rel => exact ⟨k + 1, by omega, rfl, by go_num, by go_num, hb2⟩
      · have hd : decide (k < n) = false := by simp; omega
        obtain rfl : k = n := by omega
        clear hlt
        go_wp2
        go_ret
        exact ⟨rfl, HB.out⟩
end Go.Proofs.Ytckofkdeedbbgaa
/- What this text proves: the contracts of the laws' marks over lists of numbers: marks that were written are found again, and change nothing else. -/
namespace Go.Proofs.Ytckofkdeedbbgaa
open Go.ChangeShapes Go.WideShapes Go.ChangeAt Go.RowKit
set_option linter.unusedVariables false


/-- The mark of the i-th. -/
def mkIn (M i : Nat) : List Value := [.int .i64 ((M : Int) + (i : Int))]

set_option maxHeartbeats 2000000 in
theorem markIn_any (w : World) (base : Nat) (v : Value) (l : List (List Value)) (hl : l.length ≤ 1100000) (M : Nat) (hM1 : 1 ≤ M) (hM : M ≤ 10000000) (hown : LsO 1 w base v l) :
    Calls Try.prog 106 #[v, .int .i64 (M : Int)] w fun e w' => e = .returned (.int .i64 ((M : Int) + (l.length : Int))) ∧ w.grownBy w' v.ownBlock ∧ LsO 1 w' base v ((List.range l.length).map (mkIn M)) := by
  obtain ⟨A1, cp, rfl⟩ := hown.form
  rcases Nat.eq_zero_or_pos l.length with h0 | h0
  · have hl0 : l = [] := List.eq_nil_of_length_eq_zero h0
    subst hl0
    go_enter Try.func106, Try.ntmps106
    go_wp2
    refine wp_loop_rounds 1 ?_
    rw [rounds_succ]
    go_wp2
    go_ret
    exact ⟨by simp, grown_of (Below.refl _ _) _, hown⟩
  · obtain ⟨g, off, ⟨d1, e1⟩, _, _⟩ := hown.rows h0
    injection e1 with e1 e1b e1c
    clear e1b e1c
    subst e1
    have P0 := Lib.hid hown
    have HWD := Lib.hid hown.wide
    clear hown
    go_enter Try.func106, Try.ntmps106
    go_wp2
    go_loopg [1, 5] l.length (fun gh v1 v5 wx => ∃ k : Nat, k ≤ l.length ∧ gh = l.length - k ∧ v5 = .int .i64 (k : Int) ∧ v1 = .int .i64 ((M : Int) + (k : Int)) ∧ LsO 1 wx base (.slice (some ⟨g, off, none⟩) l.length cp) (frontOf (mkIn M) l k) ∧ w.grownBy wx (some g))
    case atStart => exact ⟨0, by omega, rfl, rfl, by simp, by rw [frontOf_zero]; exact P0.out, grown_of (Below.refl _ _) _⟩
    case round =>
      obtain ⟨k, hk, rfl, rfl, rfl, hls, hbel⟩ := hrel
      have HB := Lib.hid hbel
      by_cases hlt : k < l.length
      · have hd : decide (k < l.length) = true := by simp; omega
        have hkf : k < (frontOf (mkIn M) l k).length := by rw [frontOf_len _ _ hk]; exact hlt
        have i0 := hls.ice (by omega)
        have HR := Lib.hid (HWD.out _ (List.getElem_mem hlt))
        have HAT := Lib.hid (frontOf_at (mkIn M) l hlt)
        have HFS := Lib.hid (frontOf_set (mkIn M) l hlt)
        obtain ⟨u0, c0'⟩ := hls.has k hkf 0 (by decide)
        have c0 : wr.cell? ⟨g, off + k, none⟩ = some u0 := by rw [Nat.mul_one] at c0'; exact c0'
        have s0 := hls.set k hkf 0 (by decide) (.int .i64 ((M : Int) + (k : Int)))
        have HF := Lib.hid (show LsO 1 (wr.setCell ⟨g, off + k, none⟩ (.int .i64 ((M : Int) + (k : Int)))) base (.slice (some ⟨g, off, none⟩) l.length cp) (frontOf (mkIn M) l (k + 1)) from by
          have h := s0
          rw [Nat.mul_one] at h
          have e : setAt (frontOf (mkIn M) l k) k 0 (.int .i64 ((M : Int) + (k : Int))) = frontOf (mkIn M) l (k + 1) := by
            unfold setAt
            rw [HAT.out, ← HFS.out]
            congr 1
            have hr := HR.out
            match l[k], hr with
            | [_], _ => rfl
          rw [e] at h
          exact h)
        have HG := Lib.hid (grown_store HB.out (j := off + k) (.int .i64 ((M : Int) + (k : Int))))
        clear hls hbel s0 c0'
        go_wp2
        go_roundg (l.length - (k + 1))
        case measure => omega
        case rel => exact ⟨k + 1, by omega, rfl, by go_num, by go_num, HF.out, HG.out⟩
      · have hd : decide (k < l.length) = false := by simp; omega
        obtain rfl : k = l.length := by omega
        rw [frontOf_all] at hls
        clear hlt
        go_wp2
        go_ret
        exact ⟨rfl, HB.out, hls⟩

set_option maxHeartbeats 2000000 in
theorem heldIn_any (w : World) (base M : Nat) (v : Value) (n : Nat) (hn : n ≤ 1100000) (hA : LsO 1 w base v ((List.range n).map (mkIn M))) (hM1 : 1 ≤ M) (hM : M ≤ 10000000) :
    Calls Try.prog 108 #[v, .int .i64 (M : Int)] w fun e w' => e = .returned (.int .i64 ((M : Int) + (n : Int))) ∧ Below w.heap.size w w' := by
  obtain ⟨A, c, rfl⟩ := hA.form
  rw [mark_len] at hA ⊢
  rcases Nat.eq_zero_or_pos n with h0 | h0
  · subst h0
    clear hA
    go_enter Try.func108, Try.ntmps108
    go_wp2
    refine wp_loop_rounds 1 ?_
    rw [rounds_succ]
    go_wp2
    go_ret
    exact ⟨by simp, Below.refl _ _⟩
  · obtain ⟨g, off, ⟨d1, e1⟩, _, _⟩ := hA.rows (by rw [mark_len]; exact h0)
    injection e1 with e1 e1b e1c
    clear e1b e1c
    subst e1
    have HM := Lib.hid (show ∀ k, k < n → w.cell? ⟨g, off + k, none⟩ = some (.int .i64 ((M : Int) + (k : Int))) from fun k hk => by
      have hc := (hA.at rfl (by rw [mark_len]; exact h0)).1
      have h0 := hc k (by rw [mark_len]; exact hk) 0 (by decide)
      simp only [mark_at, Nat.mul_one] at h0
      exact h0)
    clear hA
    go_enter Try.func108, Try.ntmps108
    go_wp2
    go_loopg [1, 5] n (fun gh v1 v5 wx => ∃ k : Nat, k ≤ n ∧ gh = n - k ∧ v5 = .int .i64 (k : Int) ∧ v1 = .int .i64 ((M : Int) + (k : Int)) ∧ w = wx)
    case atStart => exact ⟨0, by omega, rfl, rfl, by simp, rfl⟩
    case round =>
      obtain ⟨k, hk, rfl, rfl, rfl, rfl⟩ := hrel
      by_cases hlt : k < n
      · have hd : decide (k < n) = true := by simp; omega
        have x0 := HM.out k hlt
        go_wp2
        go_roundg (n - (k + 1))
        case measure => omega
        case rel => exact ⟨k + 1, by omega, rfl, by go_num, by go_num, rfl⟩
      · have hd : decide (k < n) = false := by simp; omega
        obtain rfl : k = n := by omega
        clear hlt
        go_wp2
        go_ret
        exact ⟨rfl, Below.refl _ _⟩
end Go.Proofs.Ytckofkdeedbbgaa
/- What this text proves: a call that changes only some blocks: what stays. -/
namespace Go.Proofs.Ytckofkdeedbbgaa
open Go.ChangeShapes Go.WideShapes Go.ChangeAt Go.RowKit
set_option linter.unusedVariables false

/-- Only blocks of S, and new ones, have changed. -/
structure Touch (w w' : World) (S : Nat → Prop) : Prop where
  os : w'.os = w.os
  tape : w'.tape = w.tape
  output : w'.output = w.output
  size : w.heap.size ≤ w'.heap.size
  block : ∀ k, k < w.heap.size → ¬ S k → w'.heap[k]? = w.heap[k]?
theorem Touch.refl (w : World) (S : Nat → Prop) : Touch w w S := ⟨rfl, rfl, rfl, Nat.le_refl _, fun _ _ _ => rfl⟩
theorem Touch.of_grown {w w' : World} {row : Option Nat} (h : w.grownBy w' row) : Touch w w' (fun k => row = some k) := ⟨h.os, h.tape, h.output, h.size, fun k hk hn => h.block k hk (fun e => hn e.symm)⟩
theorem Touch.of_below {w w' : World} (h : Below w.heap.size w w') (S : Nat → Prop) : Touch w w' S := ⟨h.os, h.tape, h.output, h.size, fun k hk _ => h.block k hk⟩
theorem Touch.mono {w w' : World} {S T : Nat → Prop} (h : Touch w w' S) (hs : ∀ k, S k → T k) : Touch w w' T := ⟨h.os, h.tape, h.output, h.size, fun k hk hn => h.block k hk (fun e => hn (hs k e))⟩
theorem Touch.trans {w w' w'' : World} {S : Nat → Prop} (h : Touch w w' S) (h2 : Touch w' w'' S) : Touch w w'' S :=
  ⟨h2.os.trans h.os, h2.tape.trans h.tape, h2.output.trans h.output, Nat.le_trans h.size h2.size, fun k hk hn => (h2.block k (Nat.lt_of_lt_of_le hk h.size) hn).trans (h.block k hk hn)⟩
theorem Touch.below {w w' : World} {S : Nat → Prop} {B : Nat} (h : Touch w w' S) (hB : ∀ k, S k → B ≤ k) (hz : B ≤ w.heap.size) : Below B w w' :=
  ⟨h.os, h.tape, h.output, h.size, fun k hk => h.block k (Nat.lt_of_lt_of_le hk hz) (fun e => by have := hB k e; omega)⟩
theorem LsO.touch {n : Nat} {w w' : World} {base : Nat} {v : Value} {l : List (List Value)} {S : Nat → Prop} (h : LsO n w base v l) (ht : Touch w w' S) (hne : ∀ k, v.ownBlock = some k → ¬ S k) : LsO n w' base v l :=
  h.keep ht.size fun g hv j => by
    have hb : w'.heap[g]? = w.heap[g]? := ht.block g (h.up g hv).2 (hne g hv)
    exact ⟨by simp [World.cell?, hb], by simp [World.frozen?, hb]⟩
theorem Box.touch {w w' : World} {g : Nat} {vs : List Value} {S : Nat → Prop} (h : Box w g vs) (ht : Touch w w' S) (hne : ¬ S g) : Box w' g vs := by
  have hb : w'.heap[g]? = w.heap[g]? := ht.block g h.lt hne
  exact ⟨Nat.lt_of_lt_of_le h.lt ht.size, fun j hj => by rw [← h.cell j hj]; simp [World.cell?, hb], fun j => by rw [← h.ice j]; simp [World.frozen?, hb]⟩
end Go.Proofs.Ytckofkdeedbbgaa
