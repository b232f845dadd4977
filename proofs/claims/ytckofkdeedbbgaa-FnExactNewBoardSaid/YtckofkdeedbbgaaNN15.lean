/- What this text proves: the parts WtM, DnM of the proof, each under its own words. -/
import Derived.Test.YtckofkdeedbbgaaNN07
import Derived.Test.YtckofkdeedbbgaaNN12
import Derived.Test.YtckofkdeedbbgaaNN01
/- What this text proves: the contracts of the laws' marks over lists of orders that wait: marks that were written are found again, and change nothing else. -/
namespace Go.Proofs.Ytckofkdeedbbgaa
open Go.ChangeShapes Go.WideShapes Go.ChangeAt Go.RowKit
set_option linter.unusedVariables false


/-- The marks of the i-th row. -/
def mkWt (M i : Nat) : List Value := [.int .i64 ((M : Int) + 5 * (i : Int)), .int .i64 ((M : Int) + 5 * (i : Int) + 1), .int .i64 ((M : Int) + 5 * (i : Int) + 1 + 1), .int .i64 ((M : Int) + 5 * (i : Int) + 1 + 1 + 1), .int .i64 ((M : Int) + 5 * (i : Int) + 1 + 1 + 1 + 1)]
theorem row_wt (x : List Value) (hx : x.length = 5) (a0 a1 a2 a3 a4 : Value) : (((((x.set 0 a0).set 1 a1).set 2 a2).set 3 a3).set 4 a4) = [a0, a1, a2, a3, a4] := by
  match x, hx with
  | [_, _, _, _, _], _ => rfl

set_option maxHeartbeats 4000000 in
theorem markWt_any (w : World) (base : Nat) (v : Value) (l : List (List Value)) (hl : l.length ≤ 1100000) (M : Nat) (hM1 : 1 ≤ M) (hM : M ≤ 10000000) (hown : LsO 5 w base v l) :
    Calls Try.prog 114 #[v, .int .i64 (M : Int)] w fun e w' => e = .returned (.int .i64 ((M : Int) + 5 * (l.length : Int))) ∧ w.grownBy w' v.ownBlock ∧ LsO 5 w' base v ((List.range l.length).map (mkWt M)) := by
  obtain ⟨A1, cp, rfl⟩ := hown.form
  rcases Nat.eq_zero_or_pos l.length with h0 | h0
  · have hl0 : l = [] := List.eq_nil_of_length_eq_zero h0
    subst hl0
    go_enter Try.func114, Try.ntmps114
    go_wp2
    refine wp_loop_rounds 1 ?_
    rw [rounds_succ]
    go_wp2
    go_ret
    exact ⟨by simp, grown_of (Below.refl _ _) _, hown⟩
  · obtain ⟨g, off, ⟨d1, e1⟩, _, _⟩ := hown.rows h0
    injection e1 with e1 e1b e1c
    clear e1b e1c
    subst e1
    have P0 := Lib.hid hown
    have HWD := Lib.hid hown.wide
    clear hown
    go_enter Try.func114, Try.ntmps114
    go_wp2
    go_loopg [1, 5] l.length (fun gh v1 v5 wx => ∃ k : Nat, k ≤ l.length ∧ gh = l.length - k ∧ v5 = .int .i64 (k : Int) ∧ v1 = .int .i64 ((M : Int) + 5 * (k : Int)) ∧ LsO 5 wx base (.slice (some ⟨g, off, none⟩) l.length cp) (frontOf (mkWt M) l k) ∧ w.grownBy wx (some g))
    case atStart => exact ⟨0, by omega, rfl, rfl, by simp, by rw [frontOf_zero]; exact P0.out, grown_of (Below.refl _ _) _⟩
    case round =>
      obtain ⟨k, hk, rfl, rfl, rfl, hls, hbel⟩ := hrel
      have HB := Lib.hid hbel
      by_cases hlt : k < l.length
      · have hd : decide (k < l.length) = true := by simp; omega
        have hkf : k < (frontOf (mkWt M) l k).length := by rw [frontOf_len _ _ hk]; exact hlt
        have i0 := hls.ice (by omega)
        have HR := Lib.hid (HWD.out _ (List.getElem_mem hlt))
        have HAT := Lib.hid (frontOf_at (mkWt M) l hlt)
        have HFS := Lib.hid (frontOf_set (mkWt M) l hlt)
        obtain ⟨u0, c0'⟩ := hls.has k hkf 0 (by decide)
        have c0 : (wr).cell? ⟨g, off + k * 5, none⟩ = some u0 := c0'
        clear c0'
        have s0 := hls.set k hkf 0 (by decide) (.int .i64 ((M : Int) + 5 * (k : Int)))
        obtain ⟨u1, c1'⟩ := s0.has k (by simp only [setAt_len]; exact hkf) 1 (by decide)
        have c1 : ((wr).setCell ⟨g, off + k * 5, none⟩ (.int .i64 ((M : Int) + 5 * (k : Int)))).cell? ⟨g, off + k * 5 + 1, none⟩ = some u1 := c1'
        clear c1'
        have s1 := s0.set k (by simp only [setAt_len]; exact hkf) 1 (by decide) (.int .i64 ((M : Int) + 5 * (k : Int) + 1))
        obtain ⟨u2, c2'⟩ := s1.has k (by simp only [setAt_len]; exact hkf) 2 (by decide)
        have c2 : (((wr).setCell ⟨g, off + k * 5, none⟩ (.int .i64 ((M : Int) + 5 * (k : Int)))).setCell ⟨g, off + k * 5 + 1, none⟩ (.int .i64 ((M : Int) + 5 * (k : Int) + 1))).cell? ⟨g, off + k * 5 + 2, none⟩ = some u2 := c2'
        clear c2'
        have s2 := s1.set k (by simp only [setAt_len]; exact hkf) 2 (by decide) (.int .i64 ((M : Int) + 5 * (k : Int) + 1 + 1))
        obtain ⟨u3, c3'⟩ := s2.has k (by simp only [setAt_len]; exact hkf) 3 (by decide)
        have c3 : ((((wr).setCell ⟨g, off + k * 5, none⟩ (.int .i64 ((M : Int) + 5 * (k : Int)))).setCell ⟨g, off + k * 5 + 1, none⟩ (.int .i64 ((M : Int) + 5 * (k : Int) + 1))).setCell ⟨g, off + k * 5 + 2, none⟩ (.int .i64 ((M : Int) + 5 * (k : Int) + 1 + 1))).cell? ⟨g, off + k * 5 + 3, none⟩ = some u3 := c3'
        clear c3'
        have s3 := s2.set k (by simp only [setAt_len]; exact hkf) 3 (by decide) (.int .i64 ((M : Int) + 5 * (k : Int) + 1 + 1 + 1))
        obtain ⟨u4, c4'⟩ := s3.has k (by simp only [setAt_len]; exact hkf) 4 (by decide)
        have c4 : (((((wr).setCell ⟨g, off + k * 5, none⟩ (.int .i64 ((M : Int) + 5 * (k : Int)))).setCell ⟨g, off + k * 5 + 1, none⟩ (.int .i64 ((M : Int) + 5 * (k : Int) + 1))).setCell ⟨g, off + k * 5 + 2, none⟩ (.int .i64 ((M : Int) + 5 * (k : Int) + 1 + 1))).setCell ⟨g, off + k * 5 + 3, none⟩ (.int .i64 ((M : Int) + 5 * (k : Int) + 1 + 1 + 1))).cell? ⟨g, off + k * 5 + 4, none⟩ = some u4 := c4'
        clear c4'
        have s4 := s3.set k (by simp only [setAt_len]; exact hkf) 4 (by decide) (.int .i64 ((M : Int) + 5 * (k : Int) + 1 + 1 + 1 + 1))
        have HF := Lib.hid (show LsO 5 ((((((wr).setCell ⟨g, off + k * 5, none⟩ (.int .i64 ((M : Int) + 5 * (k : Int)))).setCell ⟨g, off + k * 5 + 1, none⟩ (.int .i64 ((M : Int) + 5 * (k : Int) + 1))).setCell ⟨g, off + k * 5 + 2, none⟩ (.int .i64 ((M : Int) + 5 * (k : Int) + 1 + 1))).setCell ⟨g, off + k * 5 + 3, none⟩ (.int .i64 ((M : Int) + 5 * (k : Int) + 1 + 1 + 1))).setCell ⟨g, off + k * 5 + 4, none⟩ (.int .i64 ((M : Int) + 5 * (k : Int) + 1 + 1 + 1 + 1))) base (.slice (some ⟨g, off, none⟩) l.length cp) (frontOf (mkWt M) l (k + 1)) from by
          have h := s4
          rw [show setAt (frontOf (mkWt M) l k) k 0 (.int .i64 ((M : Int) + 5 * (k : Int))) = (frontOf (mkWt M) l k).set k (l[k].set 0 (.int .i64 ((M : Int) + 5 * (k : Int)))) from by unfold setAt; rw [HAT.out], setAt_row _ _ hkf, setAt_row _ _ hkf, setAt_row _ _ hkf, setAt_row _ _ hkf, row_wt _ HR.out, show [.int .i64 ((M : Int) + 5 * (k : Int)), .int .i64 ((M : Int) + 5 * (k : Int) + 1), .int .i64 ((M : Int) + 5 * (k : Int) + 1 + 1), .int .i64 ((M : Int) + 5 * (k : Int) + 1 + 1 + 1), .int .i64 ((M : Int) + 5 * (k : Int) + 1 + 1 + 1 + 1)] = mkWt M k from rfl, HFS.out] at h
          exact h)
        have HG := Lib.hid (grown_store (grown_store (grown_store (grown_store (grown_store HB.out (j := off + k * 5) (.int .i64 ((M : Int) + 5 * (k : Int)))) (j := off + k * 5 + 1) (.int .i64 ((M : Int) + 5 * (k : Int) + 1))) (j := off + k * 5 + 2) (.int .i64 ((M : Int) + 5 * (k : Int) + 1 + 1))) (j := off + k * 5 + 3) (.int .i64 ((M : Int) + 5 * (k : Int) + 1 + 1 + 1))) (j := off + k * 5 + 4) (.int .i64 ((M : Int) + 5 * (k : Int) + 1 + 1 + 1 + 1)))
        clear hls hbel s0 s1 s2 s3 s4
        go_wp2
        go_roundg (l.length - (k + 1))
        case measure => omega
        case rel => exact ⟨k + 1, by omega, rfl, by go_num, by go_num, HF.out, HG.out⟩
      · have hd : decide (k < l.length) = false := by simp; omega
        obtain rfl : k = l.length := by omega
        rw [frontOf_all] at hls
        clear hlt
        go_wp2
        go_ret
        exact ⟨rfl, HB.out, hls⟩

set_option maxHeartbeats 4000000 in
theorem heldWt_any (w : World) (base M : Nat) (v : Value) (n : Nat) (hn : n ≤ 1100000) (hA : LsO 5 w base v ((List.range n).map (mkWt M))) (hM1 : 1 ≤ M) (hM : M ≤ 10000000) :
    Calls Try.prog 117 #[v, .int .i64 (M : Int)] w fun e w' => e = .returned (.int .i64 ((M : Int) + 5 * (n : Int))) ∧ Below w.heap.size w w' := by
  obtain ⟨A, c, rfl⟩ := hA.form
  rw [mark_len] at hA ⊢
  rcases Nat.eq_zero_or_pos n with h0 | h0
  · subst h0
    clear hA
    go_enter Try.func117, Try.ntmps117
    go_wp2
    refine wp_loop_rounds 1 ?_
    rw [rounds_succ]
    go_wp2
    go_ret
    exact ⟨by simp, Below.refl _ _⟩
  · obtain ⟨g, off, ⟨d1, e1⟩, _, _⟩ := hA.rows (by rw [mark_len]; exact h0)
    injection e1 with e1 e1b e1c
    clear e1b e1c
    subst e1
    have hg := (hA.block rfl).2
    have HM := Lib.hid (show ∀ k, k < n → w.cell? ⟨g, off + k * 5, none⟩ = some (.int .i64 ((M : Int) + 5 * (k : Int))) ∧ w.cell? ⟨g, off + k * 5 + 1, none⟩ = some (.int .i64 ((M : Int) + 5 * (k : Int) + 1)) ∧ w.cell? ⟨g, off + k * 5 + 2, none⟩ = some (.int .i64 ((M : Int) + 5 * (k : Int) + 1 + 1)) ∧ w.cell? ⟨g, off + k * 5 + 3, none⟩ = some (.int .i64 ((M : Int) + 5 * (k : Int) + 1 + 1 + 1)) ∧ w.cell? ⟨g, off + k * 5 + 4, none⟩ = some (.int .i64 ((M : Int) + 5 * (k : Int) + 1 + 1 + 1 + 1)) from fun k hk => by
      have hc := (hA.at rfl (by rw [mark_len]; exact h0)).1
      have h0 := hc k (by rw [mark_len]; exact hk) 0 (by decide)
      have h1 := hc k (by rw [mark_len]; exact hk) 1 (by decide)
      have h2 := hc k (by rw [mark_len]; exact hk) 2 (by decide)
      have h3 := hc k (by rw [mark_len]; exact hk) 3 (by decide)
      have h4 := hc k (by rw [mark_len]; exact hk) 4 (by decide)
      simp only [mark_at] at h0 h1 h2 h3 h4
      exact ⟨h0, h1, h2, h3, h4⟩)
    clear hA
    go_enter Try.func117, Try.ntmps117
    go_wp2
    go_loopg [1, 5] n (fun gh v1 v5 wx => ∃ k : Nat, k ≤ n ∧ gh = n - k ∧ v5 = .int .i64 (k : Int) ∧ v1 = .int .i64 ((M : Int) + 5 * (k : Int)) ∧ Below w.heap.size w wx)
    case atStart => exact ⟨0, by omega, rfl, rfl, by simp, Below.refl _ _⟩
    case round =>
      obtain ⟨k, hk, rfl, rfl, rfl, hbel⟩ := hrel
      have HB := Lib.hid hbel
      by_cases hlt : k < n
      · have hd : decide (k < n) = true := by simp; omega
        obtain ⟨x0, x1, x2, x3, x4⟩ := HM.out k hlt
        have cx0 := (hbel.cell (p := ⟨g, off + k * 5, none⟩) hg).trans x0
        have cx1 := (hbel.cell (p := ⟨g, off + k * 5 + 1, none⟩) hg).trans x1
        have cx2 := (hbel.cell (p := ⟨g, off + k * 5 + 2, none⟩) hg).trans x2
        have cx3 := (hbel.cell (p := ⟨g, off + k * 5 + 3, none⟩) hg).trans x3
        have cx4 := (hbel.cell (p := ⟨g, off + k * 5 + 4, none⟩) hg).trans x4
        clear x0 x1 x2 x3 x4 hbel
        go_wp2
        go_roundg (n - (k + 1))
        case measure => omega
        case rel => exact ⟨k + 1, by omega, rfl, by go_num, by go_num, HB.out⟩
      · have hd : decide (k < n) = false := by simp; omega
        obtain rfl : k = n := by omega
        clear hlt
        go_wp2
        go_ret
        exact ⟨rfl, HB.out⟩
end Go.Proofs.Ytckofkdeedbbgaa
/- What this text proves: the contracts of the laws' marks over lists of orders that are done: marks that were written are found again, and change nothing else. -/
namespace Go.Proofs.Ytckofkdeedbbgaa
open Go.ChangeShapes Go.WideShapes Go.ChangeAt Go.RowKit
set_option linter.unusedVariables false


/-- The marks of the i-th row. -/
def mkDn (M i : Nat) : List Value := [.int .i64 ((M : Int) + 3 * (i : Int)), .int .i64 ((M : Int) + 3 * (i : Int) + 1), .int .i64 ((M : Int) + 3 * (i : Int) + 1 + 1)]
theorem row_dn (x : List Value) (hx : x.length = 3) (a0 a1 a2 : Value) : (((x.set 0 a0).set 1 a1).set 2 a2) = [a0, a1, a2] := by
  match x, hx with
  | [_, _, _], _ => rfl

set_option maxHeartbeats 4000000 in
theorem markDn_any (w : World) (base : Nat) (v : Value) (l : List (List Value)) (hl : l.length ≤ 1100000) (M : Nat) (hM1 : 1 ≤ M) (hM : M ≤ 10000000) (hown : LsO 3 w base v l) :
    Calls Try.prog 115 #[v, .int .i64 (M : Int)] w fun e w' => e = .returned (.int .i64 ((M : Int) + 3 * (l.length : Int))) ∧ w.grownBy w' v.ownBlock ∧ LsO 3 w' base v ((List.range l.length).map (mkDn M)) := by
  obtain ⟨A1, cp, rfl⟩ := hown.form
  rcases Nat.eq_zero_or_pos l.length with h0 | h0
  · have hl0 : l = [] := List.eq_nil_of_length_eq_zero h0
    subst hl0
    go_enter Try.func115, Try.ntmps115
    go_wp2
    refine wp_loop_rounds 1 ?_
    rw [rounds_succ]
    go_wp2
    go_ret
    exact ⟨by simp, grown_of (Below.refl _ _) _, hown⟩
  · obtain ⟨g, off, ⟨d1, e1⟩, _, _⟩ := hown.rows h0
    injection e1 with e1 e1b e1c
    clear e1b e1c
    subst e1
    have P0 := Lib.hid hown
    have HWD := Lib.hid hown.wide
    clear hown
    go_enter Try.func115, Try.ntmps115
    go_wp2
    go_loopg [1, 5] l.length (fun gh v1 v5 wx => ∃ k : Nat, k ≤ l.length ∧ gh = l.length - k ∧ v5 = .int .i64 (k : Int) ∧ v1 = .int .i64 ((M : Int) + 3 * (k : Int)) ∧ LsO 3 wx base (.slice (some ⟨g, off, none⟩) l.length cp) (frontOf (mkDn M) l k) ∧ w.grownBy wx (some g))
    case atStart => exact ⟨0, by omega, rfl, rfl, by simp, by rw [frontOf_zero]; exact P0.out, grown_of (Below.refl _ _) _⟩
    case round =>
      obtain ⟨k, hk, rfl, rfl, rfl, hls, hbel⟩ := hrel
      have HB := Lib.hid hbel
      by_cases hlt : k < l.length
      · have hd : decide (k < l.length) = true := by simp; omega
        have hkf : k < (frontOf (mkDn M) l k).length := by rw [frontOf_len _ _ hk]; exact hlt
        have i0 := hls.ice (by omega)
        have HR := Lib.hid (HWD.out _ (List.getElem_mem hlt))
        have HAT := Lib.hid (frontOf_at (mkDn M) l hlt)
        have HFS := Lib.hid (frontOf_set (mkDn M) l hlt)
        obtain ⟨u0, c0'⟩ := hls.has k hkf 0 (by decide)
        have c0 : (wr).cell? ⟨g, off + k * 3, none⟩ = some u0 := c0'
        clear c0'
        have s0 := hls.set k hkf 0 (by decide) (.int .i64 ((M : Int) + 3 * (k : Int)))
        obtain ⟨u1, c1'⟩ := s0.has k (by simp only [setAt_len]; exact hkf) 1 (by decide)
        have c1 : ((wr).setCell ⟨g, off + k * 3, none⟩ (.int .i64 ((M : Int) + 3 * (k : Int)))).cell? ⟨g, off + k * 3 + 1, none⟩ = some u1 := c1'
        clear c1'
        have s1 := s0.set k (by simp only [setAt_len]; exact hkf) 1 (by decide) (.int .i64 ((M : Int) + 3 * (k : Int) + 1))
        obtain ⟨u2, c2'⟩ := s1.has k (by simp only [setAt_len]; exact hkf) 2 (by decide)
        have c2 : (((wr).setCell ⟨g, off + k * 3, none⟩ (.int .i64 ((M : Int) + 3 * (k : Int)))).setCell ⟨g, off + k * 3 + 1, none⟩ (.int .i64 ((M : Int) + 3 * (k : Int) + 1))).cell? ⟨g, off + k * 3 + 2, none⟩ = some u2 := c2'
        clear c2'
        have s2 := s1.set k (by simp only [setAt_len]; exact hkf) 2 (by decide) (.int .i64 ((M : Int) + 3 * (k : Int) + 1 + 1))
        have HF := Lib.hid (show LsO 3 ((((wr).setCell ⟨g, off + k * 3, none⟩ (.int .i64 ((M : Int) + 3 * (k : Int)))).setCell ⟨g, off + k * 3 + 1, none⟩ (.int .i64 ((M : Int) + 3 * (k : Int) + 1))).setCell ⟨g, off + k * 3 + 2, none⟩ (.int .i64 ((M : Int) + 3 * (k : Int) + 1 + 1))) base (.slice (some ⟨g, off, none⟩) l.length cp) (frontOf (mkDn M) l (k + 1)) from by
          have h := s2
          rw [show setAt (frontOf (mkDn M) l k) k 0 (.int .i64 ((M : Int) + 3 * (k : Int))) = (frontOf (mkDn M) l k).set k (l[k].set 0 (.int .i64 ((M : Int) + 3 * (k : Int)))) from by unfold setAt; rw [HAT.out], setAt_row _ _ hkf, setAt_row _ _ hkf, row_dn _ HR.out, show [.int .i64 ((M : Int) + 3 * (k : Int)), .int .i64 ((M : Int) + 3 * (k : Int) + 1), .int .i64 ((M : Int) + 3 * (k : Int) + 1 + 1)] = mkDn M k from rfl, HFS.out] at h
          exact h)
        have HG := Lib.hid (grown_store (grown_store (grown_store HB.out (j := off + k * 3) (.int .i64 ((M : Int) + 3 * (k : Int)))) (j := off + k * 3 + 1) (.int .i64 ((M : Int) + 3 * (k : Int) + 1))) (j := off + k * 3 + 2) (.int .i64 ((M : Int) + 3 * (k : Int) + 1 + 1)))
        clear hls hbel s0 s1 s2
        go_wp2
        go_roundg (l.length - (k + 1))
        case measure => omega
        case rel => exact ⟨k + 1, by omega, rfl, by go_num, by go_num, HF.out, HG.out⟩
      · have hd : decide (k < l.length) = false := by simp; omega
        obtain rfl : k = l.length := by omega
        rw [frontOf_all] at hls
        clear hlt
        go_wp2
        go_ret
        exact ⟨rfl, HB.out, hls⟩

set_option maxHeartbeats 4000000 in
theorem heldDn_any (w : World) (base M : Nat) (v : Value) (n : Nat) (hn : n ≤ 1100000) (hA : LsO 3 w base v ((List.range n).map (mkDn M))) (hM1 : 1 ≤ M) (hM : M ≤ 10000000) :
    Calls Try.prog 118 #[v, .int .i64 (M : Int)] w fun e w' => e = .returned (.int .i64 ((M : Int) + 3 * (n : Int))) ∧ Below w.heap.size w w' := by
  obtain ⟨A, c, rfl⟩ := hA.form
  rw [mark_len] at hA ⊢
  rcases Nat.eq_zero_or_pos n with h0 | h0
  · subst h0
    clear hA
    go_enter Try.func118, Try.ntmps118
    go_wp2
    refine wp_loop_rounds 1 ?_
    rw [rounds_succ]
    go_wp2
    go_ret
    exact ⟨by simp, Below.refl _ _⟩
  · obtain ⟨g, off, ⟨d1, e1⟩, _, _⟩ := hA.rows (by rw [mark_len]; exact h0)
    injection e1 with e1 e1b e1c
    clear e1b e1c
    subst e1
    have hg := (hA.block rfl).2
    have HM := Lib.hid (show ∀ k, k < n → w.cell? ⟨g, off + k * 3, none⟩ = some (.int .i64 ((M : Int) + 3 * (k : Int))) ∧ w.cell? ⟨g, off + k * 3 + 1, none⟩ = some (.int .i64 ((M : Int) + 3 * (k : Int) + 1)) ∧ w.cell? ⟨g, off + k * 3 + 2, none⟩ = some (.int .i64 ((M : Int) + 3 * (k : Int) + 1 + 1)) from fun k hk => by
      have hc := (hA.at rfl (by rw [mark_len]; exact h0)).1
      have h0 := hc k (by rw [mark_len]; exact hk) 0 (by decide)
      have h1 := hc k (by rw [mark_len]; exact hk) 1 (by decide)
      have h2 := hc k (by rw [mark_len]; exact hk) 2 (by decide)
      simp only [mark_at] at h0 h1 h2
      exact ⟨h0, h1, h2⟩)
    clear hA
    go_enter Try.func118, Try.ntmps118
    go_wp2
    go_loopg [1, 5] n (fun gh v1 v5 wx => ∃ k : Nat, k ≤ n ∧ gh = n - k ∧ v5 = .int .i64 (k : Int) ∧ v1 = .int .i64 ((M : Int) + 3 * (k : Int)) ∧ Below w.heap.size w wx)
    case atStart => exact ⟨0, by omega, rfl, rfl, by simp, Below.refl _ _⟩
    case round =>
      obtain ⟨k, hk, rfl, rfl, rfl, hbel⟩ := hrel
      have HB := Lib.hid hbel
      by_cases hlt : k < n
      · have hd : decide (k < n) = true := by simp; omega
        obtain ⟨x0, x1, x2⟩ := HM.out k hlt
        have cx0 := (hbel.cell (p := ⟨g, off + k * 3, none⟩) hg).trans x0
        have cx1 := (hbel.cell (p := ⟨g, off + k * 3 + 1, none⟩) hg).trans x1
        have cx2 := (hbel.cell (p := ⟨g, off + k * 3 + 2, none⟩) hg).trans x2
        clear x0 x1 x2 hbel
        go_wp2
        go_roundg (n - (k + 1))
        case measure => omega
        case rel => exact ⟨k + 1, by omega, rfl, by go_num, by go_num, HB.out⟩
      · have hd : decide (k < n) = false := by simp; omega
        obtain rfl : k = n := by omega
        clear hlt
        go_wp2
        go_ret
        exact ⟨rfl, HB.out⟩
end Go.Proofs.Ytckofkdeedbbgaa
