/- What this text proves: the contracts of the laws' marks over lists of texts: marks that were written are found again, and change nothing else. -/
import Derived.Test.YtjcdekonidekcafTxS
import Derived.Test.YtjcdekonidekcafGro
import Derived.Test.YtjcdekonidekcafMarkT
import Derived.Deep.RegionLaw
namespace Go.Proofs.Ytjcdekonidekcaf
open Go.ChangeShapes Go.WideShapes Go.ChangeAt Go.RowKit
set_option linter.unusedVariables false


/-- The mark of the i-th. -/
def mkTx (M i : Nat) : List Value := [.string (markV (M + i))]

set_option maxHeartbeats 2000000 in
theorem markTx_any (w : World) (base : Nat) (v : Value) (l : List (List Value)) (hl : l.length ≤ 1100000) (M : Nat) (hM1 : 1 ≤ M) (hM : M ≤ 10000000) (hown : LsO 1 w base v l) :
    Calls Try.prog 38 #[v, .int .i64 (M : Int)] w fun e w' => e = .returned (.int .i64 ((M : Int) + (l.length : Int))) ∧ w.grownBy w' v.ownBlock ∧ LsO 1 w' base v ((List.range l.length).map (mkTx M)) := by
  obtain ⟨A1, cp, rfl⟩ := hown.form
  rcases Nat.eq_zero_or_pos l.length with h0 | h0
  · have hl0 : l = [] := List.eq_nil_of_length_eq_zero h0
    subst hl0
    go_enter Try.func38, Try.ntmps38
    go_wp2
    refine wp_loop_rounds 1 ?_
    rw [rounds_succ]
    go_wp2
    go_ret
    exact ⟨by simp, grown_of (Below.refl _ _) _, hown⟩
  · obtain ⟨g, off, ⟨d1, e1⟩, _, _⟩ := hown.rows h0
    injection e1 with e1 e1b e1c
    clear e1b e1c
    subst e1
    have P0 := Lib.hid hown
    have HWD := Lib.hid hown.wide
    clear hown
    go_enter Try.func38, Try.ntmps38
    go_wp2
    go_loopg [1, 5] l.length (fun gh v1 v5 wx => ∃ k : Nat, k ≤ l.length ∧ gh = l.length - k ∧ v5 = .int .i64 (k : Int) ∧ v1 = .int .i64 ((M : Int) + (k : Int)) ∧ LsO 1 wx base (.slice (some ⟨g, off, none⟩) l.length cp) (frontOf (mkTx M) l k) ∧ w.grownBy wx (some g))
    case atStart => exact ⟨0, by omega, rfl, rfl, by simp, by rw [frontOf_zero]; exact P0.out, grown_of (Below.refl _ _) _⟩
    case round =>
      obtain ⟨k, hk, rfl, rfl, rfl, hls, hbel⟩ := hrel
      have HB := Lib.hid hbel
      by_cases hlt : k < l.length
      · have hd : decide (k < l.length) = true := by simp; omega
        have hkf : k < (frontOf (mkTx M) l k).length := by rw [frontOf_len _ _ hk]; exact hlt
        have HR := Lib.hid (HWD.out _ (List.getElem_mem hlt))
        have HAT := Lib.hid (frontOf_at (mkTx M) l hlt)
        have HFS := Lib.hid (frontOf_set (mkTx M) l hlt)
        have HMT := Lib.hid (show ∀ W, Calls Try.prog 58 #[.int .i64 ((M : Int) + (k : Int))] W fun e w' => e = .returned (.string (markV (M + k))) ∧ Below W.heap.size W w' from fun W => by
          have h := mark_text (M + k) (by omega) (by omega) W
          rwa [show ((M + k : Nat) : Int) = (M : Int) + (k : Int) by omega] at h)
        obtain ⟨TT, hT⟩ : ∃ TT, markV (M + k) = TT := ⟨_, rfl⟩
        have HT := Lib.hid (show mkTx M k = [.string TT] by rw [← hT]; rfl)
        rw [hT] at HMT
        have HLS := Lib.hid hls
        clear hls hbel hT
        go_wp2_with fail
        refine (HMT.out _).mono ?_
        rintro e w2 ⟨rfl, hb2⟩
        have hls2 := HLS.out.more hb2
        have HB2 := Lib.hid (grown_trans HB.out (grown_of hb2 (some g)))
        have i0 := hls2.ice (by omega)
        obtain ⟨u0, c0'⟩ := hls2.has k hkf 0 (by decide)
        have c0 : w2.cell? ⟨g, off + k, none⟩ = some u0 := by rw [Nat.mul_one] at c0'; exact c0'
        have s0 := hls2.set k hkf 0 (by decide) (.string TT)
        have HF := Lib.hid (show LsO 1 (w2.setCell ⟨g, off + k, none⟩ (.string TT)) base (.slice (some ⟨g, off, none⟩) l.length cp) (frontOf (mkTx M) l (k + 1)) from by
          have h := s0
          rw [Nat.mul_one] at h
          have e : setAt (frontOf (mkTx M) l k) k 0 (.string TT) = frontOf (mkTx M) l (k + 1) := by
            unfold setAt
            rw [HAT.out, ← HFS.out, HT.out]
            congr 1
            have hr := HR.out
            match l[k], hr with
            | [_], _ => rfl
          rw [e] at h
          exact h)
        have HG := Lib.hid (grown_store HB2.out (j := off + k) (.string TT))
        clear hls2 hb2 s0 c0' HMT
        go_wp2
        go_roundg (l.length - (k + 1))
        case measure => omega
        case rel => exact ⟨k + 1, by omega, rfl, by go_num, by go_num, HF.out, HG.out⟩
      · have hd : decide (k < l.length) = false := by simp; omega
        obtain rfl : k = l.length := by omega
        rw [frontOf_all] at hls
        clear hlt
        go_wp2
        go_ret
        exact ⟨rfl, HB.out, hls⟩

set_option maxHeartbeats 2000000 in
theorem heldTx_any (w : World) (base M : Nat) (v : Value) (n : Nat) (hn : n ≤ 1100000) (hA : LsO 1 w base v ((List.range n).map (mkTx M))) (hM1 : 1 ≤ M) (hM : M ≤ 10000000) :
    Calls Try.prog 39 #[v, .int .i64 (M : Int)] w fun e w' => e = .returned (.int .i64 ((M : Int) + (n : Int))) ∧ Below w.heap.size w w' := by
  obtain ⟨A, c, rfl⟩ := hA.form
  rw [mark_len] at hA ⊢
  rcases Nat.eq_zero_or_pos n with h0 | h0
  · subst h0
    clear hA
    go_enter Try.func39, Try.ntmps39
    go_wp2
    refine wp_loop_rounds 1 ?_
    rw [rounds_succ]
    go_wp2
    go_ret
    exact ⟨by simp, Below.refl _ _⟩
  · obtain ⟨g, off, ⟨d1, e1⟩, _, _⟩ := hA.rows (by rw [mark_len]; exact h0)
    injection e1 with e1 e1b e1c
    clear e1b e1c
    subst e1
    have HM := Lib.hid (show ∀ W, Below w.heap.size w W → ∀ k, k < n → W.cell? ⟨g, off + k, none⟩ = some (.string (markV (M + k))) from fun W hb k hk => by
      have hA2 := hA.more hb
      have hc := (hA2.at rfl (by rw [mark_len]; exact h0)).1
      have h0 := hc k (by rw [mark_len]; exact hk) 0 (by decide)
      simp only [mark_at, Nat.mul_one] at h0
      exact h0)
    clear hA
    go_enter Try.func39, Try.ntmps39
    go_wp2
    go_loopg [1, 5] n (fun gh v1 v5 wx => ∃ k : Nat, k ≤ n ∧ gh = n - k ∧ v5 = .int .i64 (k : Int) ∧ v1 = .int .i64 ((M : Int) + (k : Int)) ∧ Below w.heap.size w wx)
    case atStart => exact ⟨0, by omega, rfl, rfl, by simp, Below.refl _ _⟩
    case round =>
      obtain ⟨k, hk, rfl, rfl, rfl, hbel⟩ := hrel
      have HB := Lib.hid hbel
      clear hbel
      by_cases hlt : k < n
      · have hd : decide (k < n) = true := by simp; omega
        have x0 := HM.out wr HB.out k hlt
        have HMT := Lib.hid (show ∀ W, Below w.heap.size w W → Calls Try.prog 58 #[.int .i64 ((M : Int) + (k : Int))] W fun e w' => e = .returned (.string (markV (M + k))) ∧ Below w.heap.size w w' ∧ w'.cell? ⟨g, off + k, none⟩ = some (.string (markV (M + k))) from fun W hW => by
          have h := mark_text (M + k) (by omega) (by omega) W
          rw [show ((M + k : Nat) : Int) = (M : Int) + (k : Int) by omega] at h
          exact h.mono fun e w' ⟨h1, h2⟩ => ⟨h1, hW.trans (h2.mono hW.size), HM.out w' (hW.trans (h2.mono hW.size)) k hlt⟩)
        generalize markV (M + k) = T at *
        have hself : (T.toList == T.toList) = true := beq_self_eq_true _
        have wk : IntKind.i64.wrap ((M : Int) + (k : Int)) = (M : Int) + (k : Int) := IntWalk.i64_in _ (by omega)
        clear HM
        go_wp2
        go_region_law ((go_simp; go_at_call 58; (with_reducible refine (HMT.out _ HB.out.drew).mono ?_); rintro e w2 ⟨rfl, hb2, d2⟩))
        all_goals go_wp2
        all_goals go_roundg (n - (k + 1))
        all_goals first
          | (case measure => omega)
          | (case rel => first | exact ⟨k + 1, by omega, rfl, by go_num, by go_num, hb2⟩ | exact ⟨k + 1, by omega, rfl, by go_num, by go_num, hb2.drew⟩)
      · have hd : decide (k < n) = false := by simp; omega
        obtain rfl : k = n := by omega
        clear hlt
        go_wp2
        go_ret
        exact ⟨rfl, HB.out⟩
end Go.Proofs.Ytjcdekonidekcaf
