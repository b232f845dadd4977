/- What this text proves: the contracts of the model's and the program's VisibleCount. -/
import Derived.Test.YtdfcamlnebcbpaaVis
namespace Go.Proofs.Ytdfcamlnebcbpaa
open Go.ChangeShapes Go.WideShapes Go.ChangeAt Go.RowKit
set_option linter.unusedVariables false

set_option maxRecDepth 20000 in
set_option maxHeartbeats 2000000 in
theorem vb_impl (p s l t : Int) (h1 : OrbOk p s l) (h2 : 0 ≤ t ∧ t ≤ 1000001) (w : World) :
    Calls Try.prog 35 #[obV p s l, .int .i64 t] w fun e w' => e = .returned (.int .i64 (befI p s l t)) ∧ Below w.heap.size w w' := by
  have F0 := Lib.hid (Fit.made w (obL p s l) 25)
  have F1 := Lib.hid (F0.out.more (Below.refl _ _).drew)
  have hall : ∀ q : Prop, (InW (fun W => Fit w W w.heap.size (obL p s l)) → q) ↔ q := fun q => ⟨fun h => h ⟨_, F0.out⟩, fun h _ => h⟩
  have c0 : ∀ u : InW (fun W => Fit w W w.heap.size (obL p s l)), u.W.cell? ⟨w.heap.size, 0, none⟩ = some (.int .i64 p) := fun u => u.ok.box.cell 0 (by simp)
  have c1 : ∀ u : InW (fun W => Fit w W w.heap.size (obL p s l)), u.W.cell? ⟨w.heap.size, 1, none⟩ = some (.int .i64 s) := fun u => u.ok.box.cell 1 (by simp)
  have c2 : ∀ u : InW (fun W => Fit w W w.heap.size (obL p s l)), u.W.cell? ⟨w.heap.size, 2, none⟩ = some (.int .i64 l) := fun u => u.ok.box.cell 2 (by simp)
  have b0 := F0.out.box.cell 0 (by simp)
  have b1 := F0.out.box.cell 1 (by simp)
  have b2 := F0.out.box.cell 2 (by simp)
  obtain ⟨⟨a1, a2⟩, ⟨b1', b2'⟩, c1', c2'⟩ := id h1
  have u1 : IntKind.i64.wrap (t - s) = t - s := IntWalk.i64_in _ (by omega)
  have u1' : wrap64 (t - s) = t - s := by unfold wrap64; omega
  have z0 : ¬ p = 0 := by omega
  obtain ⟨n, hn⟩ : ∃ n, t - s = n := ⟨_, rfl⟩
  have v0 : IntKind.i64.wrap (t - s) = n := by rw [u1, hn]
  have v0' : wrap64 (t - s) = n := by rw [u1', hn]
  clear u1 u1'
  by_cases hpos : 0 < n
  rotate_left
  · have HV := Lib.hid (show befI p s l t = 0 from by unfold befI; rw [hn, show max 0 n = 0 by omega]; simp; omega)
    have z1 : wrap64 0 = 0 := by unfold wrap64; omega
    have z2 : IntKind.i64.wrap 0 = 0 := IntWalk.i64_in _ (by omega)
    have z3 : ¬ l < 0 := by omega
    clear h1 h2 a1 a2 b1' b2' c1' c2' hn
    go_enter Try.func35, Try.ntmps35
    go_wp2
    refine wp_region_inW (fun W => Fit w W w.heap.size (obL p s l)) (by kernel_rfl) (by kernel_rfl) F1.out ?_
    repeat (go_big_quiet_step (fail))
    refine wpQuiet_nil ?_
    rintro _ ⟨⟨W2, F2⟩, rfl⟩
    go_wp2
    go_ret
    exact ⟨by rw [HV.out]; first | done | rfl, F2.below⟩
  have hm2 : 0 ≤ n ∧ n ≤ 1000001 := by omega
  have ha := Int.ediv_nonneg (a := n) (b := p) (by omega) (by omega)
  have ha2 := Int.ediv_le_self (a := n) p (by omega)
  have hq1 := Int.emod_nonneg n (show p ≠ 0 by omega)
  have hq2 := Int.emod_lt_of_pos n (show 0 < p by omega)
  have hq3 := Int.mul_ediv_add_emod n p
  have hv : befI p s l t = n / p * l + min (n % p) l := by unfold befI; rw [hn, show max 0 n = n by omega]
  have hmul : 0 ≤ n / p * l ∧ n / p * l ≤ n := ⟨Int.mul_nonneg ha (by omega), by have := Int.mul_le_mul_of_nonneg_left c2' ha; rw [Int.mul_comm p] at hq3; omega⟩
  obtain ⟨x, hx⟩ : ∃ x, n.tdiv p = x := ⟨_, rfl⟩
  obtain ⟨q, hq⟩ : ∃ q, n.tmod p = q := ⟨_, rfl⟩
  rw [← tdiv_of hm2.1, ← tmod_of hm2.1, hx, hq] at hv
  rw [← tdiv_of hm2.1, hx] at ha ha2 hmul
  rw [← tmod_of hm2.1, hq] at hq1 hq2
  clear hq3
  obtain ⟨y, hy⟩ : ∃ y, x * l = y := ⟨_, rfl⟩
  rw [hy] at hv hmul
  have hnx := Lib.hid hx
  have hnq := Lib.hid hq
  have v2 : IntKind.i64.wrap x = x := IntWalk.i64_in _ (by omega)
  have v2' : wrap64 x = x := by unfold wrap64; omega
  have v3 : IntKind.i64.wrap (x * l) = y := by rw [hy]; exact IntWalk.i64_in _ (by omega)
  have v3' : wrap64 (x * l) = y := by rw [hy]; unfold wrap64; omega
  have v5 : wrap64 q = q := by unfold wrap64; omega
  by_cases hc : l < q
  · have v4 : IntKind.i64.wrap (y + l) = y + l := IntWalk.i64_in _ (by omega)
    have v4' : wrap64 (y + l) = y + l := by unfold wrap64; omega
    have HV := Lib.hid (hv.trans (show y + min q l = y + l from by omega))
    clear hv h1 h2 a1 a2 b1' b2' c1' c2' hm2 ha ha2 hq1 hq2 hmul hy hn
    go_enter Try.func35, Try.ntmps35
    go_wp2
    refine wp_region_inW (fun W => Fit w W w.heap.size (obL p s l)) (by kernel_rfl) (by kernel_rfl) F1.out ?_
    repeat (go_big_quiet_step (fail))
    refine wpQuiet_nil ?_
    rintro _ ⟨⟨W2, F2⟩, rfl⟩
    go_wp2
    go_ret
    exact ⟨by rw [HV.out]; first | done | rfl, F2.below⟩
  · have v4 : IntKind.i64.wrap (y + q) = y + q := IntWalk.i64_in _ (by omega)
    have v4' : wrap64 (y + q) = y + q := by unfold wrap64; omega
    have HV := Lib.hid (hv.trans (show y + min q l = y + q from by omega))
    clear hv h1 h2 a1 a2 b1' b2' c1' c2' hm2 ha ha2 hq1 hq2 hmul hy hn
    go_enter Try.func35, Try.ntmps35
    go_wp2
    refine wp_region_inW (fun W => Fit w W w.heap.size (obL p s l)) (by kernel_rfl) (by kernel_rfl) F1.out ?_
    repeat (go_big_quiet_step (fail))
    refine wpQuiet_nil ?_
    rintro _ ⟨⟨W2, F2⟩, rfl⟩
    go_wp2
    go_ret
    exact ⟨by rw [HV.out]; first | done | rfl, F2.below⟩
set_option maxRecDepth 20000 in
set_option maxHeartbeats 2000000 in
theorem vct_impl (p s l a b : Int) (w : World) :
    Calls Try.prog 16 #[obV p s l, .int .i64 a, .int .i64 b] w fun e w' => e = .returned (.int .i64 (cntR p s l a b)) ∧ Below w.heap.size w w' := by
  have F0 := Lib.hid (Fit.made w (obL p s l) 25)
  have F1 := Lib.hid (F0.out.more (Below.refl _ _).drew)
  have hall : ∀ q : Prop, (InW (fun W => Fit w W w.heap.size (obL p s l)) → q) ↔ q := fun q => ⟨fun h => h ⟨_, F0.out⟩, fun h _ => h⟩
  have c0 : ∀ u : InW (fun W => Fit w W w.heap.size (obL p s l)), u.W.cell? ⟨w.heap.size, 0, none⟩ = some (.int .i64 p) := fun u => u.ok.box.cell 0 (by simp)
  have c1 : ∀ u : InW (fun W => Fit w W w.heap.size (obL p s l)), u.W.cell? ⟨w.heap.size, 1, none⟩ = some (.int .i64 s) := fun u => u.ok.box.cell 1 (by simp)
  have c2 : ∀ u : InW (fun W => Fit w W w.heap.size (obL p s l)), u.W.cell? ⟨w.heap.size, 2, none⟩ = some (.int .i64 l) := fun u => u.ok.box.cell 2 (by simp)
  have b0 := F0.out.box.cell 0 (by simp)
  have b1 := F0.out.box.cell 1 (by simp)
  have b2 := F0.out.box.cell 2 (by simp)
  have H1 := ob_impl p s l
  have H2 := im_any a
  have H3 := im_any b
  by_cases h1 : OrbOk p s l
  · rw [decide_eq_true h1] at H1
    have H1 := Lib.hid H1
    by_cases h2 : 0 ≤ a ∧ a ≤ 1000000
    · rw [decide_eq_true h2] at H2
      have H2 := Lib.hid H2
      by_cases h3 : 0 ≤ b ∧ b ≤ 1000000
      · rw [decide_eq_true h3] at H3
        have H3 := Lib.hid H3
        have hle := bef_bounds (t := b + 1) h1 (by omega)
        have hle2 := bef_bounds (t := a) h1 (by omega)
        have HV := show cntR p s l a b = max 0 (befI p s l (b + 1) - befI p s l a) from by unfold cntR; rw [if_pos ⟨h1, h2, by omega, by omega⟩]
        have HA := Lib.hid (fun W (hW : Fit w W w.heap.size (obL p s l)) => ((vb_impl p s l (b + 1) h1 ⟨by omega, by omega⟩) W).mono fun e w' h => (show e = .returned (.int .i64 (befI p s l (b + 1))) ∧ Fit w w' w.heap.size (obL p s l) from ⟨h.1, hW.more h.2⟩))
        have HB := Lib.hid (fun W (hW : Fit w W w.heap.size (obL p s l)) => ((vb_impl p s l a h1 ⟨by omega, by omega⟩) W).mono fun e w' h => (show e = .returned (.int .i64 (befI p s l a)) ∧ Fit w w' w.heap.size (obL p s l) from ⟨h.1, hW.more h.2⟩))
        generalize befI p s l (b + 1) = x at *
        generalize befI p s l a = y at *
        have v1 : IntKind.i64.wrap (b + 1) = b + 1 := IntWalk.i64_in _ (by omega)
        have v1' : wrap64 (b + 1) = b + 1 := by unfold wrap64; omega
        have v0 : IntKind.i64.wrap (a - 1) = a - 1 := IntWalk.i64_in _ (by omega)
        have v0' : wrap64 (a - 1) = a - 1 := by unfold wrap64; omega
        obtain ⟨z, hz⟩ : ∃ z, x - y = z := ⟨_, rfl⟩
        have v2 : IntKind.i64.wrap (x - y) = z := by rw [hz]; exact IntWalk.i64_in _ (by omega)
        have v2' : wrap64 (x - y) = z := by rw [hz]; unfold wrap64; omega
        rw [hz] at HV
        by_cases hc : 0 < z
        · rw [show max 0 z = z by omega] at HV
          have HV := Lib.hid HV
          clear h1 h2 h3 hle hle2 hz
          go_enter Try.func16, Try.ntmps16
          go_wp2_with fail
          refine (H1.out _).mono ?_
          rintro e w2 ⟨rfl, hb⟩
          have F2 := Lib.hid (F0.out.more hb)
          clear hb
          go_wp2_with fail
          refine (H2.out _).mono ?_
          rintro e w3 ⟨rfl, rfl⟩
          go_wp2_with fail
          refine (H3.out _).mono ?_
          rintro e w3 ⟨rfl, rfl⟩
          have F3 := Lib.hid (F2.out.more (Below.refl _ _).drew)
          go_wp2
          refine wp_region_inW (fun W => Fit w W w.heap.size (obL p s l)) (by kernel_rfl) (by kernel_rfl) F3.out ?_
          repeat (go_big_quiet_step (first | (go_at_call 35; (first | (with_reducible exact calls_inW (C := fun W => Fit w W w.heap.size (obL p s l)) (HA.out _ (InW.ok (C := fun W => Fit w W w.heap.size (obL p s l)) _))) | (with_reducible exact calls_inW (C := fun W => Fit w W w.heap.size (obL p s l)) (HB.out _ (InW.ok (C := fun W => Fit w W w.heap.size (obL p s l)) _)))))))
          refine wpQuiet_nil ?_
          rintro _ ⟨⟨W2, F4⟩, rfl⟩
          go_wp2
          go_ret
          exact ⟨by rw [HV.out]; first | done | rfl, F4.below⟩
        · rw [show max 0 z = 0 by omega] at HV
          have HV := Lib.hid HV
          clear h1 h2 h3 hle hle2 hz
          go_enter Try.func16, Try.ntmps16
          go_wp2_with fail
          refine (H1.out _).mono ?_
          rintro e w2 ⟨rfl, hb⟩
          have F2 := Lib.hid (F0.out.more hb)
          clear hb
          go_wp2_with fail
          refine (H2.out _).mono ?_
          rintro e w3 ⟨rfl, rfl⟩
          go_wp2_with fail
          refine (H3.out _).mono ?_
          rintro e w3 ⟨rfl, rfl⟩
          have F3 := Lib.hid (F2.out.more (Below.refl _ _).drew)
          go_wp2
          refine wp_region_inW (fun W => Fit w W w.heap.size (obL p s l)) (by kernel_rfl) (by kernel_rfl) F3.out ?_
          repeat (go_big_quiet_step (first | (go_at_call 35; (first | (with_reducible exact calls_inW (C := fun W => Fit w W w.heap.size (obL p s l)) (HA.out _ (InW.ok (C := fun W => Fit w W w.heap.size (obL p s l)) _))) | (with_reducible exact calls_inW (C := fun W => Fit w W w.heap.size (obL p s l)) (HB.out _ (InW.ok (C := fun W => Fit w W w.heap.size (obL p s l)) _)))))))
          refine wpQuiet_nil ?_
          rintro _ ⟨⟨W2, F4⟩, rfl⟩
          go_wp2
          go_ret
          exact ⟨by rw [HV.out]; first | done | rfl, F4.below⟩
      · rw [decide_eq_false h3] at H3
        have H3 := Lib.hid H3
        have HV := Lib.hid (show cntR p s l a b = 0 from by unfold cntR; rw [if_neg (fun h => h3 h.2.2)])
        clear h1 h2 h3
        go_enter Try.func16, Try.ntmps16
        go_wp2_with fail
        refine (H1.out _).mono ?_
        rintro e w2 ⟨rfl, hb⟩
        have F2 := Lib.hid (F0.out.more hb)
        clear hb
        go_wp2_with fail
        refine (H2.out _).mono ?_
        rintro e w3 ⟨rfl, rfl⟩
        go_wp2_with fail
        refine (H3.out _).mono ?_
        rintro e w3 ⟨rfl, rfl⟩
        go_wp2
        go_ret
        exact ⟨by rw [HV.out]; first | done | rfl, F2.out.below⟩
    · rw [decide_eq_false h2] at H2
      have H2 := Lib.hid H2
      have HV := Lib.hid (show cntR p s l a b = 0 from by unfold cntR; rw [if_neg (fun h => h2 h.2.1)])
      clear h1 h2 H3
      go_enter Try.func16, Try.ntmps16
      go_wp2_with fail
      refine (H1.out _).mono ?_
      rintro e w2 ⟨rfl, hb⟩
      have F2 := Lib.hid (F0.out.more hb)
      clear hb
      go_wp2_with fail
      refine (H2.out _).mono ?_
      rintro e w3 ⟨rfl, rfl⟩
      go_wp2
      go_ret
      exact ⟨by rw [HV.out]; first | done | rfl, F2.out.below⟩
  · rw [decide_eq_false h1] at H1
    have H1 := Lib.hid H1
    have HV := Lib.hid (show cntR p s l a b = 0 from by unfold cntR; rw [if_neg (fun h => h1 h.1)])
    clear h1 H2 H3
    go_enter Try.func16, Try.ntmps16
    go_wp2_with fail
    refine (H1.out _).mono ?_
    rintro e w2 ⟨rfl, hb⟩
    have F2 := Lib.hid (F0.out.more hb)
    clear hb
    go_wp2
    go_ret
    exact ⟨by rw [HV.out]; first | done | rfl, F2.out.below⟩
end Go.Proofs.Ytdfcamlnebcbpaa
