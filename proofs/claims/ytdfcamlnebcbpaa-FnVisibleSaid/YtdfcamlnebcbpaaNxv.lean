/- What this text proves: the contracts of the model's and the program's NextVisible. -/
import Derived.Test.YtdfcamlnebcbpaaVis
import Derived.Deep.LoopGhost
namespace Go.Proofs.Ytdfcamlnebcbpaa
open Go.ChangeShapes Go.WideShapes Go.ChangeAt Go.RowKit
set_option linter.unusedVariables false

set_option maxRecDepth 20000 in
set_option maxHeartbeats 2000000 in
theorem nxv_impl (p s l t : Int) (w : World) :
    Calls Try.prog 15 #[obV p s l, .int .i64 t] w fun e w' => e = .returned (.int .i64 (nxR p s l t)) ∧ Below w.heap.size w w' := by
  have F0 := Lib.hid (Fit.made w (obL p s l) 25)
  have b0 := F0.out.box.cell 0 (by simp)
  have b1 := F0.out.box.cell 1 (by simp)
  have b2 := F0.out.box.cell 2 (by simp)
  have H1 := ob_impl p s l
  have H2 := im_any t
  by_cases h1 : OrbOk p s l
  · rw [decide_eq_true h1] at H1
    have H1 := Lib.hid H1
    by_cases h2 : 0 ≤ t ∧ t ≤ 1000000
    · rw [decide_eq_true h2] at H2
      have H2 := Lib.hid H2
      obtain ⟨⟨a1, a2⟩, ⟨b1', b2'⟩, c1', c2'⟩ := id h1
      have z0 : ¬ p = 0 := by omega
      have hY := fun h => nxR_yes (t := t) h1 h2 h
      have hN := fun h => nxR_far (p := p) (s := s) (l := l) (t := t) h
      by_cases hts : t < s
      · have e1 : nxI p s l t = s := by
          unfold nxI
          rw [show max t s = s by omega, show s - s = 0 by omega, Int.zero_emod, if_neg (by omega)]
        rw [e1] at hY
        have HV := Lib.hid (hY (by omega))
        have z1 : wrap64 0 = 0 := by unfold wrap64; omega
        have z2 : IntKind.i64.wrap 0 = 0 := IntWalk.i64_in _ (by omega)
        have d3 : decide (l ≤ 0) = false := decide_eq_false (by omega)
        have d3' : ¬ l ≤ 0 := by omega
        have d4 : decide (1000000 < s) = false := decide_eq_false (by omega)
        have d4' : ¬ 1000000 < s := by omega
        clear hY hN h1 h2 a1 a2 b1' b2' c1' c2' e1
        go_enter Try.func15, Try.ntmps15
        go_wp2_with fail
        refine (H1.out _).mono ?_
        rintro e w2 ⟨rfl, hb⟩
        have F2 := Lib.hid (F0.out.more hb)
        have d0 := F2.out.box.cell 0 (by simp)
        have d1 := F2.out.box.cell 1 (by simp)
        have d2 := F2.out.box.cell 2 (by simp)
        clear hb
        go_wp2_with fail
        refine (H2.out _).mono ?_
        rintro e w3 ⟨rfl, rfl⟩
        go_wp2
        go_ret
        exact ⟨by rw [HV.out]; first | done | rfl, F2.out.below⟩
      obtain ⟨m, hm⟩ : ∃ m, t - s = m := ⟨_, rfl⟩
      have hm2 : 0 ≤ m ∧ m ≤ 1000000 := by omega
      have w1 : IntKind.i64.wrap (t - s) = m := by rw [hm]; exact IntWalk.i64_in _ (by omega)
      have w1' : wrap64 (t - s) = m := by rw [hm]; unfold wrap64; omega
      obtain ⟨q, hq⟩ : ∃ q, m.tmod p = q := ⟨_, rfl⟩
      have hq2 : 0 ≤ q ∧ q < p ∧ nxI p s l t = (if l ≤ q then t + (p - q) else t) := by
        rw [← hq, tmod_of (by omega), ← hm]
        exact ⟨Int.emod_nonneg _ (by omega), Int.emod_lt_of_pos _ (by omega), by unfold nxI; rw [show max t s = t by omega]⟩
      have w2 : IntKind.i64.wrap (p - q) = p - q := IntWalk.i64_in _ (by omega)
      have w2' : wrap64 (p - q) = p - q := by unfold wrap64; omega
      have w3 : IntKind.i64.wrap (t + (p - q)) = t + (p - q) := IntWalk.i64_in _ (by omega)
      have w3' : wrap64 (t + (p - q)) = t + (p - q) := by unfold wrap64; omega
      rw [hq2.2.2] at hY hN
      have hq3 := Lib.hid hq2.1
      have hq4 := hq2.2.1
      clear hq2
      by_cases h3 : l ≤ q
      · have d3 : decide (l ≤ q) = true := decide_eq_true h3
        rw [if_pos h3] at hY hN
        by_cases h4 : t + (p - q) ≤ 1000000
        · have d4 : decide (1000000 < t + (p - q)) = false := decide_eq_false (by omega)
          have HV := Lib.hid (hY h4)
          clear hY hN h1 h2 h3 h4 a1 a2 b1' b2' c1' c2' hm2 hq4 hm
          go_enter Try.func15, Try.ntmps15
          go_wp2_with fail
          refine (H1.out _).mono ?_
          rintro e w2 ⟨rfl, hb⟩
          have F2 := Lib.hid (F0.out.more hb)
          have d0 := F2.out.box.cell 0 (by simp)
          have d1 := F2.out.box.cell 1 (by simp)
          have d2 := F2.out.box.cell 2 (by simp)
          clear hb
          go_wp2_with fail
          refine (H2.out _).mono ?_
          rintro e w3 ⟨rfl, rfl⟩
          go_wp2
          go_ret
          exact ⟨by rw [HV.out]; first | done | rfl, F2.out.below⟩
        · have d4 : decide (1000000 < t + (p - q)) = true := decide_eq_true (by omega)
          have HV := Lib.hid (hN h4)
          clear hY hN h1 h2 h3 h4 a1 a2 b1' b2' c1' c2' hm2 hq4 hm
          go_enter Try.func15, Try.ntmps15
          go_wp2_with fail
          refine (H1.out _).mono ?_
          rintro e w2 ⟨rfl, hb⟩
          have F2 := Lib.hid (F0.out.more hb)
          have d0 := F2.out.box.cell 0 (by simp)
          have d1 := F2.out.box.cell 1 (by simp)
          have d2 := F2.out.box.cell 2 (by simp)
          clear hb
          go_wp2_with fail
          refine (H2.out _).mono ?_
          rintro e w3 ⟨rfl, rfl⟩
          go_wp2
          go_ret
          exact ⟨by rw [HV.out]; first | done | rfl, F2.out.below⟩
      · have d3 : decide (l ≤ q) = false := decide_eq_false h3
        rw [if_neg h3] at hY hN
        have d4 : decide (1000000 < t) = false := decide_eq_false (by omega)
        have HV := Lib.hid (hY h2.2)
        clear hY hN h1 h2 h3 a1 a2 b1' b2' c1' c2' hm2 hq4 hm
        go_enter Try.func15, Try.ntmps15
        go_wp2_with fail
        refine (H1.out _).mono ?_
        rintro e w2 ⟨rfl, hb⟩
        have F2 := Lib.hid (F0.out.more hb)
        have d0 := F2.out.box.cell 0 (by simp)
        have d1 := F2.out.box.cell 1 (by simp)
        have d2 := F2.out.box.cell 2 (by simp)
        clear hb
        go_wp2_with fail
        refine (H2.out _).mono ?_
        rintro e w3 ⟨rfl, rfl⟩
        go_wp2
        go_ret
        exact ⟨by rw [HV.out]; first | done | rfl, F2.out.below⟩
    · rw [decide_eq_false h2] at H2
      have H2 := Lib.hid H2
      have HV := Lib.hid (nxR_no (p := p) (s := s) (l := l) (t := t) (fun h => h2 h.2))
      clear h1 h2
      go_enter Try.func15, Try.ntmps15
      go_wp2_with fail
      refine (H1.out _).mono ?_
      rintro e w2 ⟨rfl, hb⟩
      have F2 := Lib.hid (F0.out.more hb)
      have d0 := F2.out.box.cell 0 (by simp)
      have d1 := F2.out.box.cell 1 (by simp)
      have d2 := F2.out.box.cell 2 (by simp)
      clear hb
      go_wp2_with fail
      refine (H2.out _).mono ?_
      rintro e w3 ⟨rfl, rfl⟩
      go_wp2
      go_ret
      exact ⟨by rw [HV.out]; first | done | rfl, F2.out.below⟩
  · rw [decide_eq_false h1] at H1
    have H1 := Lib.hid H1
    have HV := Lib.hid (nxR_no (p := p) (s := s) (l := l) (t := t) (fun h => h1 h.1))
    clear h1 H2
    go_enter Try.func15, Try.ntmps15
    go_wp2_with fail
    refine (H1.out _).mono ?_
    rintro e w2 ⟨rfl, hb⟩
    have F2 := Lib.hid (F0.out.more hb)
    have d0 := F2.out.box.cell 0 (by simp)
    have d1 := F2.out.box.cell 1 (by simp)
    have d2 := F2.out.box.cell 2 (by simp)
    clear hb
    go_wp2
    go_ret
    exact ⟨by rw [HV.out]; first | done | rfl, F2.out.below⟩
end Go.Proofs.Ytdfcamlnebcbpaa
