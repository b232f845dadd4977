/- What this text proves: the contracts of the laws' marks over lists of requests: marks that were written are found again, and change nothing else. -/
import Derived.Test.YtdfcamlnebcbpacRqS
import Derived.Test.YtdfcamlnebcbpacMarkT
import Derived.Test.YtdfcamlnebcbpacGro
namespace Go.Proofs.Ytdfcamlnebcbpac
open Go.ChangeShapes Go.WideShapes Go.ChangeAt Go.RowKit
set_option linter.unusedVariables false


/-- The marks of the i-th row. -/
def mkRq (M i : Nat) : List Value := [.int .i64 ((M : Int) + 4 * (i : Int)), .int .i64 ((M : Int) + 4 * (i : Int) + 1), .int .i64 ((M : Int) + 4 * (i : Int) + 1 + 1), .int .i64 ((M : Int) + 4 * (i : Int) + 1 + 1 + 1)]
theorem row_rq (x : List Value) (hx : x.length = 4) (a0 a1 a2 a3 : Value) : ((((x.set 0 a0).set 1 a1).set 2 a2).set 3 a3) = [a0, a1, a2, a3] := by
  match x, hx with
  | [_, _, _, _], _ => rfl

set_option maxHeartbeats 4000000 in
theorem markRq_any (w : World) (base : Nat) (v : Value) (l : List (List Value)) (hl : l.length ≤ 1100000) (M : Nat) (hM1 : 1 ≤ M) (hM : M ≤ 10000000) (hown : LsO 4 w base v l) :
    Calls Try.prog 20 #[v, .int .i64 (M : Int)] w fun e w' => e = .returned (.int .i64 ((M : Int) + 4 * (l.length : Int))) ∧ w.grownBy w' v.ownBlock ∧ LsO 4 w' base v ((List.range l.length).map (mkRq M)) := by
  obtain ⟨A1, cp, rfl⟩ := hown.form
  rcases Nat.eq_zero_or_pos l.length with h0 | h0
  · have hl0 : l = [] := List.eq_nil_of_length_eq_zero h0
    subst hl0
    go_enter Try.func20, Try.ntmps20
    go_wp2
    refine wp_loop_rounds 1 ?_
    rw [rounds_succ]
    go_wp2
    go_ret
    exact ⟨by simp, grown_of (Below.refl _ _) _, hown⟩
  · obtain ⟨g, off, ⟨d1, e1⟩, _, _⟩ := hown.rows h0
    injection e1 with e1 e1b e1c
    clear e1b e1c
    subst e1
    have P0 := Lib.hid hown
    have HWD := Lib.hid hown.wide
    clear hown
    go_enter Try.func20, Try.ntmps20
    go_wp2
    go_loopg [1, 5] l.length (fun gh v1 v5 wx => ∃ k : Nat, k ≤ l.length ∧ gh = l.length - k ∧ v5 = .int .i64 (k : Int) ∧ v1 = .int .i64 ((M : Int) + 4 * (k : Int)) ∧ LsO 4 wx base (.slice (some ⟨g, off, none⟩) l.length cp) (frontOf (mkRq M) l k) ∧ w.grownBy wx (some g))
    case atStart => exact ⟨0, by omega, rfl, rfl, by simp, by rw [frontOf_zero]; exact P0.out, grown_of (Below.refl _ _) _⟩
    case round =>
      obtain ⟨k, hk, rfl, rfl, rfl, hls, hbel⟩ := hrel
      have HB := Lib.hid hbel
      by_cases hlt : k < l.length
      · have hd : decide (k < l.length) = true := by simp; omega
        have hkf : k < (frontOf (mkRq M) l k).length := by rw [frontOf_len _ _ hk]; exact hlt
        have i0 := hls.ice (by omega)
        have HR := Lib.hid (HWD.out _ (List.getElem_mem hlt))
        have HAT := Lib.hid (frontOf_at (mkRq M) l hlt)
        have HFS := Lib.hid (frontOf_set (mkRq M) l hlt)
        obtain ⟨u0, c0'⟩ := hls.has k hkf 0 (by decide)
        have c0 : (wr).cell? ⟨g, off + k * 4, none⟩ = some u0 := c0'
        clear c0'
        have s0 := hls.set k hkf 0 (by decide) (.int .i64 ((M : Int) + 4 * (k : Int)))
        obtain ⟨u1, c1'⟩ := s0.has k (by simp only [setAt_len]; exact hkf) 1 (by decide)
        have c1 : ((wr).setCell ⟨g, off + k * 4, none⟩ (.int .i64 ((M : Int) + 4 * (k : Int)))).cell? ⟨g, off + k * 4 + 1, none⟩ = some u1 := c1'
        clear c1'
        have s1 := s0.set k (by simp only [setAt_len]; exact hkf) 1 (by decide) (.int .i64 ((M : Int) + 4 * (k : Int) + 1))
        obtain ⟨u2, c2'⟩ := s1.has k (by simp only [setAt_len]; exact hkf) 2 (by decide)
        have c2 : (((wr).setCell ⟨g, off + k * 4, none⟩ (.int .i64 ((M : Int) + 4 * (k : Int)))).setCell ⟨g, off + k * 4 + 1, none⟩ (.int .i64 ((M : Int) + 4 * (k : Int) + 1))).cell? ⟨g, off + k * 4 + 2, none⟩ = some u2 := c2'
        clear c2'
        have s2 := s1.set k (by simp only [setAt_len]; exact hkf) 2 (by decide) (.int .i64 ((M : Int) + 4 * (k : Int) + 1 + 1))
        obtain ⟨u3, c3'⟩ := s2.has k (by simp only [setAt_len]; exact hkf) 3 (by decide)
        have c3 : ((((wr).setCell ⟨g, off + k * 4, none⟩ (.int .i64 ((M : Int) + 4 * (k : Int)))).setCell ⟨g, off + k * 4 + 1, none⟩ (.int .i64 ((M : Int) + 4 * (k : Int) + 1))).setCell ⟨g, off + k * 4 + 2, none⟩ (.int .i64 ((M : Int) + 4 * (k : Int) + 1 + 1))).cell? ⟨g, off + k * 4 + 3, none⟩ = some u3 := c3'
        clear c3'
        have s3 := s2.set k (by simp only [setAt_len]; exact hkf) 3 (by decide) (.int .i64 ((M : Int) + 4 * (k : Int) + 1 + 1 + 1))
        have HF := Lib.hid (show LsO 4 (((((wr).setCell ⟨g, off + k * 4, none⟩ (.int .i64 ((M : Int) + 4 * (k : Int)))).setCell ⟨g, off + k * 4 + 1, none⟩ (.int .i64 ((M : Int) + 4 * (k : Int) + 1))).setCell ⟨g, off + k * 4 + 2, none⟩ (.int .i64 ((M : Int) + 4 * (k : Int) + 1 + 1))).setCell ⟨g, off + k * 4 + 3, none⟩ (.int .i64 ((M : Int) + 4 * (k : Int) + 1 + 1 + 1))) base (.slice (some ⟨g, off, none⟩) l.length cp) (frontOf (mkRq M) l (k + 1)) from by
          have h := s3
          rw [show setAt (frontOf (mkRq M) l k) k 0 (.int .i64 ((M : Int) + 4 * (k : Int))) = (frontOf (mkRq M) l k).set k (l[k].set 0 (.int .i64 ((M : Int) + 4 * (k : Int)))) from by unfold setAt; rw [HAT.out], setAt_row _ _ hkf, setAt_row _ _ hkf, setAt_row _ _ hkf, row_rq _ HR.out, show [.int .i64 ((M : Int) + 4 * (k : Int)), .int .i64 ((M : Int) + 4 * (k : Int) + 1), .int .i64 ((M : Int) + 4 * (k : Int) + 1 + 1), .int .i64 ((M : Int) + 4 * (k : Int) + 1 + 1 + 1)] = mkRq M k from rfl, HFS.out] at h
          exact h)
        have HG := Lib.hid (grown_store (grown_store (grown_store (grown_store HB.out (j := off + k * 4) (.int .i64 ((M : Int) + 4 * (k : Int)))) (j := off + k * 4 + 1) (.int .i64 ((M : Int) + 4 * (k : Int) + 1))) (j := off + k * 4 + 2) (.int .i64 ((M : Int) + 4 * (k : Int) + 1 + 1))) (j := off + k * 4 + 3) (.int .i64 ((M : Int) + 4 * (k : Int) + 1 + 1 + 1)))
        clear hls hbel s0 s1 s2 s3
        go_wp2
        go_roundg (l.length - (k + 1))
        case measure => omega
        case rel => exact ⟨k + 1, by omega, rfl, by go_num, by go_num, HF.out, HG.out⟩
      · have hd : decide (k < l.length) = false := by simp; omega
        obtain rfl : k = l.length := by omega
        rw [frontOf_all] at hls
        clear hlt
        go_wp2
        go_ret
        exact ⟨rfl, HB.out, hls⟩

end Go.Proofs.Ytdfcamlnebcbpac
