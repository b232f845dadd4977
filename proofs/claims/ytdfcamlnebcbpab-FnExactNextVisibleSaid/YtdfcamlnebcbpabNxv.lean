/- What this text proves: the contracts of the model's and the program's NextVisible. -/
import Derived.Test.YtdfcamlnebcbpabVis
import Derived.Deep.LoopGhost
namespace Go.Proofs.Ytdfcamlnebcbpab
open Go.ChangeShapes Go.WideShapes Go.ChangeAt Go.RowKit
set_option linter.unusedVariables false

set_option maxRecDepth 20000 in
set_option maxHeartbeats 2000000 in
theorem nxv_impl (p s l t : Int) (w : World) :
    Calls Try.prog 11 #[obV p s l, .int .i64 t] w fun e w' => e = .returned (.int .i64 (nxR p s l t)) ∧ Below w.heap.size w w' := by
  have F0 := Lib.hid (Fit.made w (obL p s l) 25)
  have b0 := F0.out.box.cell 0 (by simp)
  have b1 := F0.out.box.cell 1 (by simp)
  have b2 := F0.out.box.cell 2 (by simp)
  have H1 := ob_impl p s l
  have H2 := im_any t
  by_cases h1 : OrbOk p s l
  · rw [decide_eq_true h1] at H1
    have H1 := Lib.hid H1
    by_cases h2 : 0 ≤ t ∧ t ≤ 1000000
    · rw [decide_eq_true h2] at H2
      have H2 := Lib.hid H2
      obtain ⟨⟨a1, a2⟩, ⟨b1', b2'⟩, c1', c2'⟩ := id h1
      have z0 : ¬ p = 0 := by omega
      have hY := fun h => nxR_yes (t := t) h1 h2 h
      have hN := fun h => nxR_far (p := p) (s := s) (l := l) (t := t) h
      by_cases hts : t < s
      · have e1 : nxI p s l t = s := by
          unfold nxI
          rw [show max t s = s by omega, show s - s = 0 by omega, Int.zero_emod, if_neg (by omega)]
        rw [e1] at hY
        have HV := Lib.hid (hY (by omega))
        have z1 : wrap64 0 = 0 := by unfold wrap64; omega
        have z2 : IntKind.i64.wrap 0 = 0 := IntWalk.i64_in _ (by omega)
        have d3 : decide (l ≤ 0) = false := decide_eq_false (by omega)
        have d3' : ¬ l ≤ 0 := by omega
        have d4 : decide (1000000 < s) = false := decide_eq_false (by omega)
        have d4' : ¬ 1000000 < s := by omega
        clear hY hN h1 h2 a1 a2 b1' b2' c1' c2' e1
        go_enter Try.func11, Try.ntmps11
        go_wp2_with fail
        refine (H1.out _).mono ?_
        rintro e w2 ⟨rfl, hb⟩
        have F2 := Lib.hid (F0.out.more hb)
        have d0 := F2.out.box.cell 0 (by simp)
        have d1 := F2.out.box.cell 1 (by simp)
        have d2 := F2.out.box.cell 2 (by simp)
        clear hb
        go_wp2_with fail
        refine (H2.out _).mono ?_
        rintro e w3 ⟨rfl, rfl⟩
        go_wp2
        go_ret
        exact ⟨by rw [HV.out]; first | done | rfl, F2.out.below⟩
      obtain ⟨m, hm⟩ : ∃ m, t - s = m := ⟨_, rfl⟩
      have hm2 : 0 ≤ m ∧ m ≤ 1000000 := by omega
      have w1 : IntKind.i64.wrap (t - s) = m := by rw [hm]; exact IntWalk.i64_in _ (by omega)
      have w1' : wrap64 (t - s) = m := by rw [hm]; unfold wrap64; omega
      obtain ⟨q, hq⟩ : ∃ q, m.tmod p = q := ⟨_, rfl⟩
      have hq2 : 0 ≤ q ∧ q < p ∧ nxI p s l t = (if l ≤ q then t + (p - q) else t) := by
        rw [← hq, tmod_of (by omega), ← hm]
        exact ⟨Int.emod_nonneg _ (by omega), Int.emod_lt_of_pos _ (by omega), by unfold nxI; rw [show max t s = t by omega]⟩
      have w2 : IntKind.i64.wrap (p - q) = p - q := IntWalk.i64_in _ (by omega)
      have w2' : wrap64 (p - q) = p - q := by unfold wrap64; omega
      have w3 : IntKind.i64.wrap (t + (p - q)) = t + (p - q) := IntWalk.i64_in _ (by omega)
      have w3' : wrap64 (t + (p - q)) = t + (p - q) := by unfold wrap64; omega
      rw [hq2.2.2] at hY hN
      have hq3 := Lib.hid hq2.1
      have hq4 := hq2.2.1
      clear hq2
      by_cases h3 : l ≤ q
      · have d3 : decide (l ≤ q) = true := decide_eq_true h3
        rw [if_pos h3] at hY hN
        by_cases h4 : t + (p - q) ≤ 1000000
        · have d4 : decide (1000000 < t + (p - q)) = false := decide_eq_false (by omega)
          have HV := Lib.hid (hY h4)
          clear hY hN h1 h2 h3 h4 a1 a2 b1' b2' c1' c2' hm2 hq4 hm
          go_enter Try.func11, Try.ntmps11
          go_wp2_with fail
          refine (H1.out _).mono ?_
          rintro e w2 ⟨rfl, hb⟩
          have F2 := Lib.hid (F0.out.more hb)
          have d0 := F2.out.box.cell 0 (by simp)
          have d1 := F2.out.box.cell 1 (by simp)
          have d2 := F2.out.box.cell 2 (by simp)
          clear hb
          go_wp2_with fail
          refine (H2.out _).mono ?_
          rintro e w3 ⟨rfl, rfl⟩
          go_wp2
          go_ret
          exact ⟨by rw [HV.out]; first | done | rfl, F2.out.below⟩
        · have d4 : decide (1000000 < t + (p - q)) = true := decide_eq_true (by omega)
          have HV := Lib.hid (hN h4)
          clear hY hN h1 h2 h3 h4 a1 a2 b1' b2' c1' c2' hm2 hq4 hm
          go_enter Try.func11, Try.ntmps11
          go_wp2_with fail
          refine (H1.out _).mono ?_
          rintro e w2 ⟨rfl, hb⟩
          have F2 := Lib.hid (F0.out.more hb)
          have d0 := F2.out.box.cell 0 (by simp)
          have d1 := F2.out.box.cell 1 (by simp)
          have d2 := F2.out.box.cell 2 (by simp)
          clear hb
          go_wp2_with fail
          refine (H2.out _).mono ?_
          rintro e w3 ⟨rfl, rfl⟩
          go_wp2
          go_ret
          exact ⟨by rw [HV.out]; first | done | rfl, F2.out.below⟩
      · have d3 : decide (l ≤ q) = false := decide_eq_false h3
        rw [if_neg h3] at hY hN
        have d4 : decide (1000000 < t) = false := decide_eq_false (by omega)
        have HV := Lib.hid (hY h2.2)
        clear hY hN h1 h2 h3 a1 a2 b1' b2' c1' c2' hm2 hq4 hm
        go_enter Try.func11, Try.ntmps11
        go_wp2_with fail
        refine (H1.out _).mono ?_
        rintro e w2 ⟨rfl, hb⟩
        have F2 := Lib.hid (F0.out.more hb)
        have d0 := F2.out.box.cell 0 (by simp)
        have d1 := F2.out.box.cell 1 (by simp)
        have d2 := F2.out.box.cell 2 (by simp)
        clear hb
        go_wp2_with fail
        refine (H2.out _).mono ?_
        rintro e w3 ⟨rfl, rfl⟩
        go_wp2
        go_ret
        exact ⟨by rw [HV.out]; first | done | rfl, F2.out.below⟩
    · rw [decide_eq_false h2] at H2
      have H2 := Lib.hid H2
      have HV := Lib.hid (nxR_no (p := p) (s := s) (l := l) (t := t) (fun h => h2 h.2))
      clear h1 h2
      go_enter Try.func11, Try.ntmps11
      go_wp2_with fail
      refine (H1.out _).mono ?_
      rintro e w2 ⟨rfl, hb⟩
      have F2 := Lib.hid (F0.out.more hb)
      have d0 := F2.out.box.cell 0 (by simp)
      have d1 := F2.out.box.cell 1 (by simp)
      have d2 := F2.out.box.cell 2 (by simp)
      clear hb
      go_wp2_with fail
      refine (H2.out _).mono ?_
      rintro e w3 ⟨rfl, rfl⟩
      go_wp2
      go_ret
      exact ⟨by rw [HV.out]; first | done | rfl, F2.out.below⟩
  · rw [decide_eq_false h1] at H1
    have H1 := Lib.hid H1
    have HV := Lib.hid (nxR_no (p := p) (s := s) (l := l) (t := t) (fun h => h1 h.1))
    clear h1 H2
    go_enter Try.func11, Try.ntmps11
    go_wp2_with fail
    refine (H1.out _).mono ?_
    rintro e w2 ⟨rfl, hb⟩
    have F2 := Lib.hid (F0.out.more hb)
    have d0 := F2.out.box.cell 0 (by simp)
    have d1 := F2.out.box.cell 1 (by simp)
    have d2 := F2.out.box.cell 2 (by simp)
    clear hb
    go_wp2
    go_ret
    exact ⟨by rw [HV.out]; first | done | rfl, F2.out.below⟩
set_option maxRecDepth 20000 in
set_option maxHeartbeats 2000000 in
theorem nxv_spec (p s l t : Int) (w : World) :
    Calls Try.prog 9 #[obV p s l, .int .i64 t] w fun e w' => e = .returned (.int .i64 (nxR p s l t)) ∧ Below w.heap.size w w' := by
  have F0 := Lib.hid (Fit.made w (obL p s l) 25)
  have b0 := F0.out.box.cell 0 (by simp)
  have b1 := F0.out.box.cell 1 (by simp)
  have b2 := F0.out.box.cell 2 (by simp)
  have H1 := ob_spec p s l
  by_cases h1 : OrbOk p s l
  · rw [decide_eq_true h1] at H1
    have H1 := Lib.hid H1
    by_cases h2 : 0 ≤ t
    · have d2' : decide (t < 0) = false := decide_eq_false (by omega)
      have hp : 1 ≤ p ∧ p ≤ 1000 := h1.1
      have w1 : IntKind.i64.wrap (2 * p) = 2 * p := IntWalk.i64_in _ (by omega)
      have w1' : wrap64 (2 * p) = 2 * p := by unfold wrap64; omega
      have H3 := Lib.hid (fun k W => vis_spec p s l (t + k) W)
      have HF := Lib.hid (fun (k : Nat) (hk : ∀ j : Nat, j < k → ¬ Vis p s l (t + j)) (hv : Vis p s l (t + k)) (hM : t ≤ 1000000 - k) => nx_found h1 ⟨h2, by omega⟩ k hk hv)
      have HN := Lib.hid (show ∀ (k : Nat) (hk : ∀ j : Nat, j < k → ¬ Vis p s l (t + j)) (he : 2 * p < k ∨ 1000000 - (k : Int) < t), nxR p s l t = -1 from fun k hk he => by
        by_cases hM : t ≤ 1000000
        · exact nx_none h1 ⟨h2, hM⟩ k hk he
        · exact nxR_no (fun h => hM h.2.2))
      have h2' := Lib.hid h2
      clear h1 h2
      go_enter Try.func9, Try.ntmps9
      go_wp2_with fail
      refine (H1.out _).mono ?_
      rintro e w2 ⟨rfl, hb⟩
      have F2 := Lib.hid (F0.out.more hb)
      have d0 := F2.out.box.cell 0 (by simp)
      have d1 := F2.out.box.cell 1 (by simp)
      have d2 := F2.out.box.cell 2 (by simp)
      clear hb
      clear F0 H1 b0 b1 b2 d0 d1 d2
      go_wp2
      go_loopg [5] (2 * p + 1).toNat (fun gh v5 wx => ∃ k : Nat, (k : Int) ≤ 2 * p + 1 ∧ gh = (2 * p + 1).toNat - k ∧ v5 = .int .i64 (k : Int) ∧ (∀ j : Nat, j < k → ¬ Vis p s l (t + j)) ∧ Fit w wx w.heap.size (obL p s l))
      case atStart => exact ⟨0, by omega, rfl, rfl, fun j h => absurd h (Nat.not_lt_zero _), F2.out⟩
      case round =>
        obtain ⟨k, hk, rfl, rfl, hall, hf⟩ := hrel
        have F3 := Lib.hid hf
        have HA := Lib.hid hall
        have d0 := F3.out.box.cell 0 (by simp)
        have d1 := F3.out.box.cell 1 (by simp)
        have d2 := F3.out.box.cell 2 (by simp)
        clear hf hall F2
        have wk : IntKind.i64.wrap (1000000 - (k : Int)) = 1000000 - (k : Int) := IntWalk.i64_in _ (by omega)
        have wk' : wrap64 (1000000 - (k : Int)) = 1000000 - (k : Int) := by unfold wrap64; omega
        by_cases h3 : (k : Int) ≤ 2 * p
        · have d3 : decide ((k : Int) ≤ 2 * p) = true := decide_eq_true h3
          by_cases h4 : t ≤ 1000000 - (k : Int)
          · have d4 : decide (t ≤ 1000000 - (k : Int)) = true := decide_eq_true h4
            have ht := h2'.out
            have wt : IntKind.i64.wrap (t + (k : Int)) = t + (k : Int) := IntWalk.i64_in _ (by omega)
            have wt' : wrap64 (t + (k : Int)) = t + (k : Int) := by unfold wrap64; omega
            have H4 := H3.out (k : Int)
            by_cases hv : Vis p s l (t + (k : Int))
            · rw [decide_eq_true hv] at H4
              have H4 := Lib.hid H4
              have HV := Lib.hid (HF.out k HA.out hv h4)
              clear hv h4 h3 ht hk hp
              go_wp2_with fail
              refine (H4.out _).mono ?_
              rintro e w4 ⟨rfl, hb⟩
              go_wp2
              go_ret
              exact ⟨by rw [HV.out]; first | done | rfl, (F3.out.more hb).below⟩
            · rw [decide_eq_false hv] at H4
              have H4 := Lib.hid H4
              have HA2 := Lib.hid (show ∀ j : Nat, j < k + 1 → ¬ Vis p s l (t + j) from fun j hj => by
                rcases Nat.lt_succ_iff_lt_or_eq.1 hj with h | rfl
                · exact HA.out j h
                · exact hv)
              have HK := Lib.hid (And.intro h3 hp)
              have WK := Lib.hid (show wrap64 ((k : Int) + 1) = (k : Int) + 1 from by unfold wrap64; omega)
              clear hv h4 ht hp h3
              go_wp2_with fail
              refine (H4.out _).mono ?_
              rintro e w4 ⟨rfl, hb⟩
              have F4 := Lib.hid (F3.out.more hb)
              clear hb
              go_wp2
              obtain ⟨h3, hp⟩ := HK.out
              go_roundg ((2 * p + 1).toNat - (k + 1))
              case measure => omega
              case rel => exact ⟨k + 1, by omega, rfl, congrArg (Value.int .i64) (WK.out.trans (by omega)), HA2.out, F4.out⟩
          · have d4 : decide (t ≤ 1000000 - (k : Int)) = false := decide_eq_false h4
            have HV := Lib.hid (HN.out k HA.out (.inr (by omega)))
            clear h4 h3 hk hp
            go_wp2
            go_ret
            exact ⟨by rw [HV.out]; first | done | rfl, F3.out.below⟩
        · have d3 : decide ((k : Int) ≤ 2 * p) = false := decide_eq_false h3
          have HV := Lib.hid (HN.out k HA.out (.inl (by omega)))
          clear h3 hk hp
          go_wp2
          go_ret
          exact ⟨by rw [HV.out]; first | done | rfl, F3.out.below⟩
    · have d2' : decide (t < 0) = true := decide_eq_true (by omega)
      have HV := Lib.hid (nxR_no (p := p) (s := s) (l := l) (t := t) (fun h => h2 h.2.1))
      clear h1 h2
      go_enter Try.func9, Try.ntmps9
      go_wp2_with fail
      refine (H1.out _).mono ?_
      rintro e w2 ⟨rfl, hb⟩
      have F2 := Lib.hid (F0.out.more hb)
      have d0 := F2.out.box.cell 0 (by simp)
      have d1 := F2.out.box.cell 1 (by simp)
      have d2 := F2.out.box.cell 2 (by simp)
      clear hb
      go_wp2
      go_ret
      exact ⟨by rw [HV.out]; first | done | rfl, F2.out.below⟩
  · rw [decide_eq_false h1] at H1
    have H1 := Lib.hid H1
    have HV := Lib.hid (nxR_no (p := p) (s := s) (l := l) (t := t) (fun h => h1 h.1))
    clear h1
    go_enter Try.func9, Try.ntmps9
    go_wp2_with fail
    refine (H1.out _).mono ?_
    rintro e w2 ⟨rfl, hb⟩
    have F2 := Lib.hid (F0.out.more hb)
    have d0 := F2.out.box.cell 0 (by simp)
    have d1 := F2.out.box.cell 1 (by simp)
    have d2 := F2.out.box.cell 2 (by simp)
    clear hb
    go_wp2
    go_ret
    exact ⟨by rw [HV.out]; first | done | rfl, F2.out.below⟩
end Go.Proofs.Ytdfcamlnebcbpab
