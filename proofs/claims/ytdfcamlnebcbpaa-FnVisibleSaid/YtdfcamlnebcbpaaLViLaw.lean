/- What this text proves: the law that visible times are counted as they are, that the next one is the next one, and that those of a pass have its number, returns true for every bytes that it draws from. -/
import Derived.Test.YtdfcamlnebcbpaaDrw8
import Derived.Test.YtdfcamlnebcbpaaNxv
import Derived.Test.YtdfcamlnebcbpaaVct
import Derived.Test.YtdfcamlnebcbpaaAt
import Derived.Deep.LoopGhost
namespace Go.Proofs.Ytdfcamlnebcbpaa
open Go.ChangeShapes Go.WideShapes Go.ChangeAt Go.RowKit
set_option linter.unusedVariables false

theorem btoi_any (b : Bool) (w : World) : Calls Try.prog 12 #[.bool b] w fun e w' => e = .returned (.int .i64 (if b then 1 else 0)) ∧ w = w' := by
  cases b with
  | true =>
    go_enter Try.func12, Try.ntmps12
    go_wp2
    go_ret
    exact ⟨rfl, rfl⟩
  | false =>
    go_enter Try.func12, Try.ntmps12
    go_wp2
    go_ret
    exact ⟨rfl, rfl⟩
theorem vis_later {p s l t : Int} (h : OrbOk p s l) (hs : s ≤ t) (ht : t + p ≤ 1000000) : Vis p s l (t + p) ↔ Vis p s l t := by
  have hp : 1 ≤ p := h.1.1
  have e : (t + p - s) % p = (t - s) % p := by rw [show t + p - s = (t - s) + p by omega, Int.add_emod_right]
  constructor
  · rintro ⟨_, _, h3⟩; exact ⟨h, ⟨hs, by omega⟩, by rw [← e]; exact h3⟩
  · rintro ⟨_, _, h3⟩; exact ⟨h, ⟨by omega, ht⟩, by rw [e]; exact h3⟩
theorem pas_sign {p s l t : Int} : (0 ≤ pasR p s l t) ↔ Vis p s l t := by
  unfold pasR
  by_cases h : Vis p s l t
  · rw [if_pos h]
    exact ⟨fun _ => h, fun _ => Int.ediv_nonneg (by have := h.2.1.1; omega) (by have := h.1.1.1; omega)⟩
  · rw [if_neg h]
    exact ⟨fun hh => by omega, fun hh => absurd hh h⟩

set_option maxRecDepth 20000 in
set_option maxHeartbeats 16000000 in
theorem law_fnvisible (A : Option Addr) (n c : Nat) (hm : n ≤ maxLen) (w : World) (hc : CodeOk w w.heap.size A n) :
    Calls Try.prog 3 #[.slice A n c] w fun e w' => e = .returned (.bool true) ∧ Below w.heap.size w w' := by
  by_cases hbig : 1048576 < n
  · go_enter Try.func3, Try.ntmps3
    go_wp2_with (go_at_call 9; refine (big_yes _ _ _ hbig hm _).mono ?_; rintro e w' ⟨rfl, rfl⟩)
    go_ret
    exact ⟨rfl, Below.refl _ _⟩
  · have hn : n ≤ 1048576 := by omega
    have HD := Lib.hid (work_draw A n c hn w hc)
    have Ha := Lib.hid (fun (w1 : World) (hb : Below w.heap.size w w1) i hi => at_any w.heap.size A n c hn i hi w1 (hc.more hb))
    clear hc hbig
    go_enter Try.func3, Try.ntmps3
    go_wp2_with (go_at_call 9; refine (big_no _ _ _ hn _).mono ?_; rintro e w' ⟨rfl, rfl⟩)
    refine HD.out.mono ?_
    rintro e w1 ⟨p, s, l, v, L, ho, hp50, _, _, rfl, _, _, hb1⟩
    have HO := Lib.hid (And.intro ho hp50)
    have HVS := Lib.hid (fun t W => vis_impl p s l t W)
    have HPS := Lib.hid (fun t W => pas_impl p s l t W)
    have HNX := Lib.hid (fun t W => nxv_impl p s l t W)
    have HCT := Lib.hid (fun a b W => vct_impl p s l a b W)
    have HOB := ob_impl p s l
    rw [decide_eq_true ho] at HOB
    have HOB := Lib.hid HOB
    have F1 := Lib.hid (show Fit w (w1.alloc (.cells (obL p s l).toArray 25)) w1.heap.size (obL p s l) from ⟨hb1.alloc hb1.size _, Box.made w1 (obL p s l) 25 _ rfl⟩)
    clear hb1 HD ho hp50
    go_upto_region 4 with fail
    generalize w1.heap.size = g at *
    generalize w1.alloc (.cells #[.int .i64 p, .int .i64 s, .int .i64 l] 25) = w2 at *
    have F1 := Lib.hid (show Fit w w2 g (obL p s l) from F1.out)
    go_wp2_with fail
    refine (Ha.out _ F1.out.below 0 (by omega)).mono ?_
    rintro e w' ⟨a, ha, rfl, rfl⟩
    go_wp2_with fail
    refine (Ha.out _ F1.out.below 1 (by omega)).mono ?_
    rintro e w' ⟨d, hd, rfl, rfl⟩
    have hab : wrap64 ((a : Int) + (d : Int)) = (a : Int) + (d : Int) ∧ IntKind.i64.wrap ((a : Int) + (d : Int)) = (a : Int) + (d : Int) := wrap_in (by omega)
    obtain ⟨hab, hab'⟩ := hab
    clear Ha
    go_wp2
    clear hab hab'
    go_loopg [7, 8] (d + 1) (fun gh v7 v8 wx => ∃ j : Nat, j ≤ d + 1 ∧ gh = d + 1 - j ∧ v7 = .int .i64 (befI p s l ((a : Int) + (j : Int)) - befI p s l a) ∧ v8 = .int .i64 ((a : Int) + (j : Int)) ∧ Fit w wx g (obL p s l))
    case atStart => exact ⟨0, by omega, rfl, by simp, by simp, F1.out⟩
    case round =>
      obtain ⟨j, hj, rfl, rfl, rfl, hfit⟩ := hrel
      have HF := Lib.hid hfit
      clear hfit F1
      have k0 := HF.out.box.cell 0 (by simp)
      have k1 := HF.out.box.cell 1 (by simp)
      have k2 := HF.out.box.cell 2 (by simp)
      obtain ⟨T, hT⟩ : ∃ T : Int, (a : Int) + (j : Int) = T := ⟨_, rfl⟩
      simp only [hT]
      by_cases hlt : j < d + 1
      · have d0 : decide (T ≤ (a : Int) + (d : Int)) = true := decide_eq_true (by omega)
        have hTb : 0 ≤ T ∧ T ≤ 510 := by omega
        have hp1 : 1 ≤ p ∧ p ≤ 50 := ⟨HO.out.1.1.1, HO.out.2⟩
        have hs1 : 0 ≤ s := HO.out.1.2.1.1
        obtain ⟨hwt, hwt'⟩ := wrap_in (x := T + 1) (by omega)
        obtain ⟨hwp, hwp'⟩ := wrap_in (x := T + p) (by omega)
        have hstep := bef_step (t := T) HO.out.1 (by omega)
        have hbn1 : 0 ≤ befI p s l T - befI p s l a := by have := bef_le (a := (a : Int)) (b := T) HO.out.1 (by omega) (by omega); omega
        have hbn2 : befI p s l T - befI p s l a ≤ 2000000 := by have := bef_bounds (t := T) HO.out.1 (by omega); have := bef_bounds (t := (a : Int)) HO.out.1 (by omega); omega
        obtain ⟨y, hy⟩ : ∃ y, pasR p s l T = y := ⟨_, rfl⟩
        by_cases hv : Vis p s l T
        · have hv2 : Vis p s l (T + p) := (vis_later HO.out.1 hv.2.1.1 (by omega)).2 hv
          have HC1 := HVS.out T
          rw [decide_eq_true hv] at HC1
          have HC1 := Lib.hid HC1
          have H1 := Lib.hid (fun W (hW : Fit w W g (obL p s l)) => ((HC1.out) W).mono fun e w' h => (show e = .returned (.bool true) ∧ Fit w w' g (obL p s l) from ⟨h.1, hW.more h.2⟩))
          have HC2 := HVS.out (T + p)
          rw [decide_eq_true hv2] at HC2
          have H2 := Lib.hid (fun W (hW : Fit w W g (obL p s l)) => ((HC2) W).mono fun e w' h => (show e = .returned (.bool true) ∧ Fit w w' g (obL p s l) from ⟨h.1, hW.more h.2⟩))
          have H3 := Lib.hid (fun W (hW : Fit w W g (obL p s l)) => ((HPS.out T) W).mono fun e w' h => (show e = .returned (.int .i64 y) ∧ Fit w w' g (obL p s l) from ⟨by rw [← hy]; exact h.1, hW.more h.2⟩))
          have d1 : decide (0 ≤ y) = true := decide_eq_true (by rw [← hy]; exact pas_sign.2 hv)
          have HST := Lib.hid (show befI p s l (T + 1) - befI p s l a = (befI p s l T - befI p s l a) + 1 from by rw [hstep, if_pos hv]; omega)
          have HB1 := Lib.hid (btoi_any true)
          have HBN := Lib.hid (And.intro hbn1 hbn2)
          clear hv hv2 hstep hy HC1 HC2
          obtain ⟨N, hN⟩ : ∃ N : Int, befI p s l T - befI p s l a = N := ⟨_, rfl⟩
          rw [hN] at HBN
          have hw1 : wrap64 (N + 1) = N + 1 ∧ IntKind.i64.wrap (N + 1) = N + 1 := by have := HBN.out; exact wrap_in (by omega)
          obtain ⟨hw1, hw1'⟩ := hw1
          have hwN : wrap64 N = N := by have := HBN.out; exact (wrap_in (by omega)).1
          rw [hN]
          have HNE := Lib.hid hN
          clear hN
          go_wp2_with fail
          refine (H1.out _ HF.out).mono ?_
          rintro e w3 ⟨rfl, hF3⟩
          have F3 := Lib.hid hF3
          clear hF3
          go_wp2_with fail
          refine (HB1.out _).mono ?_
          rintro e w4 ⟨rfl, rfl⟩
          have F4 := Lib.hid (F3.out.more (Below.refl _ _).drew)
          clear F3
          have hall : ∀ q : Prop, (InW (fun W => Fit w W g (obL p s l)) → q) ↔ q := fun q => ⟨fun h => h ⟨_, F4.out⟩, fun h _ => h⟩
          have f0 : ∀ u : InW (fun W => Fit w W g (obL p s l)), u.W.cell? ⟨g, 0, none⟩ = some (.int .i64 p) := fun u => u.ok.box.cell 0 (by simp)
          have f1 : ∀ u : InW (fun W => Fit w W g (obL p s l)), u.W.cell? ⟨g, 1, none⟩ = some (.int .i64 s) := fun u => u.ok.box.cell 1 (by simp)
          have f2 : ∀ u : InW (fun W => Fit w W g (obL p s l)), u.W.cell? ⟨g, 2, none⟩ = some (.int .i64 l) := fun u => u.ok.box.cell 2 (by simp)
          go_wp2
          refine wp_region_inW (fun W => Fit w W g (obL p s l)) (by kernel_rfl) (by kernel_rfl) F4.out ?_
          repeat (go_big_quiet_step (first | (go_at_call 13; (first | (with_reducible exact calls_inW (C := fun W => Fit w W g (obL p s l)) (H1.out _ (InW.ok (C := fun W => Fit w W g (obL p s l)) _))) | (with_reducible exact calls_inW (C := fun W => Fit w W g (obL p s l)) (H2.out _ (InW.ok (C := fun W => Fit w W g (obL p s l)) _))))) | (go_at_call 14; (with_reducible exact calls_inW (C := fun W => Fit w W g (obL p s l)) (H3.out _ (InW.ok (C := fun W => Fit w W g (obL p s l)) _))))))
          refine wpQuiet_nil ?_
          rintro W5 ⟨⟨_, F5'⟩, rfl⟩
          have F5 := Lib.hid F5'
          clear F5' F4 hall f0 f1 f2
          clear k0 k1 k2
          go_wp2
          go_roundg (d + 1 - (j + 1))
          case measure => omega
          case rel => exact ⟨j + 1, by omega, rfl, by first | (rw [show (a : Int) + ((j + 1 : Nat) : Int) = T + 1 by omega]; first | exact congrArg (Value.int .i64) HST.out.symm | (rw [HST.out, HNE.out]; first | done | rfl | (rw [hw1]) | (simp only [hwN, Int.add_zero]))), by rw [show (a : Int) + ((j + 1 : Nat) : Int) = T + 1 by omega]; first | done | rfl | (rw [hwt]), F5.out⟩
        · by_cases hts : s ≤ T
          · have hv2 : ¬ Vis p s l (T + p) := fun h => hv ((vis_later HO.out.1 hts (by omega)).1 h)
            have HC1 := HVS.out T
            rw [decide_eq_false hv] at HC1
            have HC1 := Lib.hid HC1
            have H1 := Lib.hid (fun W (hW : Fit w W g (obL p s l)) => ((HC1.out) W).mono fun e w' h => (show e = .returned (.bool false) ∧ Fit w w' g (obL p s l) from ⟨h.1, hW.more h.2⟩))
            have HC2 := HVS.out (T + p)
            rw [decide_eq_false hv2] at HC2
            have H2 := Lib.hid (fun W (hW : Fit w W g (obL p s l)) => ((HC2) W).mono fun e w' h => (show e = .returned (.bool false) ∧ Fit w w' g (obL p s l) from ⟨h.1, hW.more h.2⟩))
            have H3 := Lib.hid (fun W (hW : Fit w W g (obL p s l)) => ((HPS.out T) W).mono fun e w' h => (show e = .returned (.int .i64 y) ∧ Fit w w' g (obL p s l) from ⟨by rw [← hy]; exact h.1, hW.more h.2⟩))
            have d1 : decide (0 ≤ y) = false := decide_eq_false (by rw [← hy]; exact fun h => hv (pas_sign.1 h))
            have dts : decide (s ≤ T) = true := decide_eq_true hts
            have HST := Lib.hid (show befI p s l (T + 1) - befI p s l a = (befI p s l T - befI p s l a) + 0 from by rw [hstep, if_neg hv]; omega)
            have HB1 := Lib.hid (btoi_any false)
            have HBN := Lib.hid (And.intro hbn1 hbn2)
            clear hv hv2 hstep hy HC1 HC2
            obtain ⟨N, hN⟩ : ∃ N : Int, befI p s l T - befI p s l a = N := ⟨_, rfl⟩
            rw [hN] at HBN
            have hw1 : wrap64 (N + 0) = N + 0 ∧ IntKind.i64.wrap (N + 0) = N + 0 := by have := HBN.out; exact wrap_in (by omega)
            obtain ⟨hw1, hw1'⟩ := hw1
            have hwN : wrap64 N = N := by have := HBN.out; exact (wrap_in (by omega)).1
            rw [hN]
            have HNE := Lib.hid hN
            clear hN
            go_wp2_with fail
            refine (H1.out _ HF.out).mono ?_
            rintro e w3 ⟨rfl, hF3⟩
            have F3 := Lib.hid hF3
            clear hF3
            go_wp2_with fail
            refine (HB1.out _).mono ?_
            rintro e w4 ⟨rfl, rfl⟩
            have F4 := Lib.hid (F3.out.more (Below.refl _ _).drew)
            clear F3
            have hall : ∀ q : Prop, (InW (fun W => Fit w W g (obL p s l)) → q) ↔ q := fun q => ⟨fun h => h ⟨_, F4.out⟩, fun h _ => h⟩
            have f0 : ∀ u : InW (fun W => Fit w W g (obL p s l)), u.W.cell? ⟨g, 0, none⟩ = some (.int .i64 p) := fun u => u.ok.box.cell 0 (by simp)
            have f1 : ∀ u : InW (fun W => Fit w W g (obL p s l)), u.W.cell? ⟨g, 1, none⟩ = some (.int .i64 s) := fun u => u.ok.box.cell 1 (by simp)
            have f2 : ∀ u : InW (fun W => Fit w W g (obL p s l)), u.W.cell? ⟨g, 2, none⟩ = some (.int .i64 l) := fun u => u.ok.box.cell 2 (by simp)
            go_wp2
            refine wp_region_inW (fun W => Fit w W g (obL p s l)) (by kernel_rfl) (by kernel_rfl) F4.out ?_
            repeat (go_big_quiet_step (first | (go_at_call 13; (first | (with_reducible exact calls_inW (C := fun W => Fit w W g (obL p s l)) (H1.out _ (InW.ok (C := fun W => Fit w W g (obL p s l)) _))) | (with_reducible exact calls_inW (C := fun W => Fit w W g (obL p s l)) (H2.out _ (InW.ok (C := fun W => Fit w W g (obL p s l)) _))))) | (go_at_call 14; (with_reducible exact calls_inW (C := fun W => Fit w W g (obL p s l)) (H3.out _ (InW.ok (C := fun W => Fit w W g (obL p s l)) _))))))
            refine wpQuiet_nil ?_
            rintro W5 ⟨⟨_, F5'⟩, rfl⟩
            have F5 := Lib.hid F5'
            clear F5' F4 hall f0 f1 f2
            clear k0 k1 k2
            go_wp2
            go_roundg (d + 1 - (j + 1))
            case measure => omega
            case rel => exact ⟨j + 1, by omega, rfl, by first | (rw [show (a : Int) + ((j + 1 : Nat) : Int) = T + 1 by omega]; first | exact congrArg (Value.int .i64) HST.out.symm | (rw [HST.out, HNE.out]; first | done | rfl | (rw [hw1]) | (simp only [hwN, Int.add_zero]))), by rw [show (a : Int) + ((j + 1 : Nat) : Int) = T + 1 by omega]; first | done | rfl | (rw [hwt]), F5.out⟩
          · by_cases hv2 : Vis p s l (T + p)
            · have dts : decide (s ≤ T) = false := decide_eq_false hts
              have HC1 := HVS.out T
              rw [decide_eq_false hv] at HC1
              have HC1 := Lib.hid HC1
              have H1 := Lib.hid (fun W (hW : Fit w W g (obL p s l)) => ((HC1.out) W).mono fun e w' h => (show e = .returned (.bool false) ∧ Fit w w' g (obL p s l) from ⟨h.1, hW.more h.2⟩))
              have HC2 := HVS.out (T + p)
              rw [decide_eq_true hv2] at HC2
              have H2 := Lib.hid (fun W (hW : Fit w W g (obL p s l)) => ((HC2) W).mono fun e w' h => (show e = .returned (.bool true) ∧ Fit w w' g (obL p s l) from ⟨h.1, hW.more h.2⟩))
              have H3 := Lib.hid (fun W (hW : Fit w W g (obL p s l)) => ((HPS.out T) W).mono fun e w' h => (show e = .returned (.int .i64 y) ∧ Fit w w' g (obL p s l) from ⟨by rw [← hy]; exact h.1, hW.more h.2⟩))
              have d1 : decide (0 ≤ y) = false := decide_eq_false (by rw [← hy]; exact fun h => hv (pas_sign.1 h))
              have HST := Lib.hid (show befI p s l (T + 1) - befI p s l a = (befI p s l T - befI p s l a) + 0 from by rw [hstep, if_neg hv]; omega)
              have HB1 := Lib.hid (btoi_any false)
              have HBN := Lib.hid (And.intro hbn1 hbn2)
              clear hv hv2 hstep hy HC1 HC2
              obtain ⟨N, hN⟩ : ∃ N : Int, befI p s l T - befI p s l a = N := ⟨_, rfl⟩
              rw [hN] at HBN
              have hw1 : wrap64 (N + 0) = N + 0 ∧ IntKind.i64.wrap (N + 0) = N + 0 := by have := HBN.out; exact wrap_in (by omega)
              obtain ⟨hw1, hw1'⟩ := hw1
              have hwN : wrap64 N = N := by have := HBN.out; exact (wrap_in (by omega)).1
              rw [hN]
              have HNE := Lib.hid hN
              clear hN
              go_wp2_with fail
              refine (H1.out _ HF.out).mono ?_
              rintro e w3 ⟨rfl, hF3⟩
              have F3 := Lib.hid hF3
              clear hF3
              go_wp2_with fail
              refine (HB1.out _).mono ?_
              rintro e w4 ⟨rfl, rfl⟩
              have F4 := Lib.hid (F3.out.more (Below.refl _ _).drew)
              clear F3
              have hall : ∀ q : Prop, (InW (fun W => Fit w W g (obL p s l)) → q) ↔ q := fun q => ⟨fun h => h ⟨_, F4.out⟩, fun h _ => h⟩
              have f0 : ∀ u : InW (fun W => Fit w W g (obL p s l)), u.W.cell? ⟨g, 0, none⟩ = some (.int .i64 p) := fun u => u.ok.box.cell 0 (by simp)
              have f1 : ∀ u : InW (fun W => Fit w W g (obL p s l)), u.W.cell? ⟨g, 1, none⟩ = some (.int .i64 s) := fun u => u.ok.box.cell 1 (by simp)
              have f2 : ∀ u : InW (fun W => Fit w W g (obL p s l)), u.W.cell? ⟨g, 2, none⟩ = some (.int .i64 l) := fun u => u.ok.box.cell 2 (by simp)
              go_wp2
              refine wp_region_inW (fun W => Fit w W g (obL p s l)) (by kernel_rfl) (by kernel_rfl) F4.out ?_
              repeat (go_big_quiet_step (first | (go_at_call 13; (first | (with_reducible exact calls_inW (C := fun W => Fit w W g (obL p s l)) (H1.out _ (InW.ok (C := fun W => Fit w W g (obL p s l)) _))) | (with_reducible exact calls_inW (C := fun W => Fit w W g (obL p s l)) (H2.out _ (InW.ok (C := fun W => Fit w W g (obL p s l)) _))))) | (go_at_call 14; (with_reducible exact calls_inW (C := fun W => Fit w W g (obL p s l)) (H3.out _ (InW.ok (C := fun W => Fit w W g (obL p s l)) _))))))
              refine wpQuiet_nil ?_
              rintro W5 ⟨⟨_, F5'⟩, rfl⟩
              have F5 := Lib.hid F5'
              clear F5' F4 hall f0 f1 f2
              clear k0 k1 k2
              go_wp2
              go_roundg (d + 1 - (j + 1))
              case measure => omega
              case rel => exact ⟨j + 1, by omega, rfl, by first | (rw [show (a : Int) + ((j + 1 : Nat) : Int) = T + 1 by omega]; first | exact congrArg (Value.int .i64) HST.out.symm | (rw [HST.out, HNE.out]; first | done | rfl | (rw [hw1]) | (simp only [hwN, Int.add_zero]))), by rw [show (a : Int) + ((j + 1 : Nat) : Int) = T + 1 by omega]; first | done | rfl | (rw [hwt]), F5.out⟩
            · have dts : decide (s ≤ T) = false := decide_eq_false hts
              have HC1 := HVS.out T
              rw [decide_eq_false hv] at HC1
              have HC1 := Lib.hid HC1
              have H1 := Lib.hid (fun W (hW : Fit w W g (obL p s l)) => ((HC1.out) W).mono fun e w' h => (show e = .returned (.bool false) ∧ Fit w w' g (obL p s l) from ⟨h.1, hW.more h.2⟩))
              have HC2 := HVS.out (T + p)
              rw [decide_eq_false hv2] at HC2
              have H2 := Lib.hid (fun W (hW : Fit w W g (obL p s l)) => ((HC2) W).mono fun e w' h => (show e = .returned (.bool false) ∧ Fit w w' g (obL p s l) from ⟨h.1, hW.more h.2⟩))
              have H3 := Lib.hid (fun W (hW : Fit w W g (obL p s l)) => ((HPS.out T) W).mono fun e w' h => (show e = .returned (.int .i64 y) ∧ Fit w w' g (obL p s l) from ⟨by rw [← hy]; exact h.1, hW.more h.2⟩))
              have d1 : decide (0 ≤ y) = false := decide_eq_false (by rw [← hy]; exact fun h => hv (pas_sign.1 h))
              have HST := Lib.hid (show befI p s l (T + 1) - befI p s l a = (befI p s l T - befI p s l a) + 0 from by rw [hstep, if_neg hv]; omega)
              have HB1 := Lib.hid (btoi_any false)
              have HBN := Lib.hid (And.intro hbn1 hbn2)
              clear hv hv2 hstep hy HC1 HC2
              obtain ⟨N, hN⟩ : ∃ N : Int, befI p s l T - befI p s l a = N := ⟨_, rfl⟩
              rw [hN] at HBN
              have hw1 : wrap64 (N + 0) = N + 0 ∧ IntKind.i64.wrap (N + 0) = N + 0 := by have := HBN.out; exact wrap_in (by omega)
              obtain ⟨hw1, hw1'⟩ := hw1
              have hwN : wrap64 N = N := by have := HBN.out; exact (wrap_in (by omega)).1
              rw [hN]
              have HNE := Lib.hid hN
              clear hN
              go_wp2_with fail
              refine (H1.out _ HF.out).mono ?_
              rintro e w3 ⟨rfl, hF3⟩
              have F3 := Lib.hid hF3
              clear hF3
              go_wp2_with fail
              refine (HB1.out _).mono ?_
              rintro e w4 ⟨rfl, rfl⟩
              have F4 := Lib.hid (F3.out.more (Below.refl _ _).drew)
              clear F3
              have hall : ∀ q : Prop, (InW (fun W => Fit w W g (obL p s l)) → q) ↔ q := fun q => ⟨fun h => h ⟨_, F4.out⟩, fun h _ => h⟩
              have f0 : ∀ u : InW (fun W => Fit w W g (obL p s l)), u.W.cell? ⟨g, 0, none⟩ = some (.int .i64 p) := fun u => u.ok.box.cell 0 (by simp)
              have f1 : ∀ u : InW (fun W => Fit w W g (obL p s l)), u.W.cell? ⟨g, 1, none⟩ = some (.int .i64 s) := fun u => u.ok.box.cell 1 (by simp)
              have f2 : ∀ u : InW (fun W => Fit w W g (obL p s l)), u.W.cell? ⟨g, 2, none⟩ = some (.int .i64 l) := fun u => u.ok.box.cell 2 (by simp)
              go_wp2
              refine wp_region_inW (fun W => Fit w W g (obL p s l)) (by kernel_rfl) (by kernel_rfl) F4.out ?_
              repeat (go_big_quiet_step (first | (go_at_call 13; (first | (with_reducible exact calls_inW (C := fun W => Fit w W g (obL p s l)) (H1.out _ (InW.ok (C := fun W => Fit w W g (obL p s l)) _))) | (with_reducible exact calls_inW (C := fun W => Fit w W g (obL p s l)) (H2.out _ (InW.ok (C := fun W => Fit w W g (obL p s l)) _))))) | (go_at_call 14; (with_reducible exact calls_inW (C := fun W => Fit w W g (obL p s l)) (H3.out _ (InW.ok (C := fun W => Fit w W g (obL p s l)) _))))))
              refine wpQuiet_nil ?_
              rintro W5 ⟨⟨_, F5'⟩, rfl⟩
              have F5 := Lib.hid F5'
              clear F5' F4 hall f0 f1 f2
              clear k0 k1 k2
              go_wp2
              go_roundg (d + 1 - (j + 1))
              case measure => omega
              case rel => exact ⟨j + 1, by omega, rfl, by first | (rw [show (a : Int) + ((j + 1 : Nat) : Int) = T + 1 by omega]; first | exact congrArg (Value.int .i64) HST.out.symm | (rw [HST.out, HNE.out]; first | done | rfl | (rw [hw1]) | (simp only [hwN, Int.add_zero]))), by rw [show (a : Int) + ((j + 1 : Nat) : Int) = T + 1 by omega]; first | done | rfl | (rw [hwt]), F5.out⟩
      · have hj2 : j = d + 1 := by omega
        have d0 : decide (T ≤ (a : Int) + (d : Int)) = false := decide_eq_false (by omega)
        have hp1 : 1 ≤ p ∧ p ≤ 50 := ⟨HO.out.1.1.1, HO.out.2⟩
        have hnf := nx_facts (t := (a : Int)) HO.out.1 (by omega)
        obtain ⟨N, hNe⟩ : ∃ N, nxI p s l a = N := ⟨_, rfl⟩
        rw [hNe] at hnf
        obtain ⟨n1, n2, n3, n4⟩ := hnf
        have hNX := HNX.out (a : Int)
        rw [nxR_yes HO.out.1 ⟨by omega, by omega⟩ (by rw [hNe]; omega), hNe] at hNX
        have HNXa := Lib.hid hNX
        have hcv : cntR p s l a ((a : Int) + (d : Int)) = befI p s l T - befI p s l a := by
          unfold cntR
          rw [if_pos ⟨HO.out.1, ⟨by omega, by omega⟩, by omega, by omega⟩, show (a : Int) + (d : Int) + 1 = T by omega]
          have := bef_le (a := (a : Int)) (b := T) HO.out.1 (by omega) (by omega)
          omega
        have hCV := HCT.out (a : Int) ((a : Int) + (d : Int))
        rw [hcv] at hCV
        have HCV := Lib.hid hCV
        have hVN := HVS.out N
        rw [decide_eq_true (n3 (by omega))] at hVN
        have HVN := Lib.hid hVN
        have HNO := Lib.hid (fun (u : Int) (h1 : (a : Int) ≤ u) (h2 : u < N) W => (show Calls Try.prog 13 #[obV p s l, .int .i64 u] W (fun e w' => e = .returned (.bool false) ∧ Below W.heap.size W w') from by have := HVS.out u W; rw [decide_eq_false (n4 u h1 h2)] at this; exact this))
        have HNB := Lib.hid (And.intro n1 (show N ≤ 1000 by omega))
        obtain ⟨M, hM⟩ : ∃ M : Int, befI p s l T - befI p s l a = M := ⟨_, rfl⟩
        rw [hM] at HCV
        simp only [hM]
        have dna : decide ((a : Int) ≤ N) = true := decide_eq_true n1
        have dmm : (M == M) = true := by simp
        clear hNX hCV hcv hVN n2 n3 n4 hM hNe hlt hj
        go_wp2_with fail
        refine (HNXa.out _).mono ?_
        rintro e w3 ⟨rfl, hb⟩
        have F3 := Lib.hid (HF.out.more hb)
        clear hb HF k0 k1 k2
        obtain ⟨nn, hnn⟩ : ∃ nn : Nat, N - (a : Int) = nn := ⟨(N - (a : Int)).toNat, by omega⟩
        have hnn2 : nn ≤ 1000 := by have := HNB.out; omega
        go_wp2
        go_loopg [10] nn (fun gh v10 wy => ∃ i : Nat, i ≤ nn ∧ gh = nn - i ∧ v10 = .int .i64 ((a : Int) + (i : Int)) ∧ Fit w wy g (obL p s l))
        case atStart => exact ⟨0, by omega, rfl, by simp, F3.out⟩
        case round =>
          obtain ⟨i, hi, rfl, rfl, hfit⟩ := hrel
          have HG := Lib.hid hfit
          clear hfit F3
          have k0 := HG.out.box.cell 0 (by simp)
          have k1 := HG.out.box.cell 1 (by simp)
          have k2 := HG.out.box.cell 2 (by simp)
          obtain ⟨U, hU⟩ : ∃ U : Int, (a : Int) + (i : Int) = U := ⟨_, rfl⟩
          simp only [hU]
          by_cases hlt2 : i < nn
          · have d5 : decide (U < N) = true := decide_eq_true (by omega)
            have HUN := Lib.hid (HNO.out U (by omega) (by omega))
            obtain ⟨hwu, hwu'⟩ := wrap_in (x := U + 1) (by omega)
            have HUE := Lib.hid (show (a : Int) + ((i + 1 : Nat) : Int) = U + 1 by omega)
            go_wp2_with fail
            refine (HUN.out _).mono ?_
            rintro e w4 ⟨rfl, hb⟩
            have F4 := Lib.hid (HG.out.more hb)
            clear hb k0 k1 k2 HG
            go_wp2
            go_roundg (nn - (i + 1))
            case measure => omega
            case rel => exact ⟨i + 1, by omega, rfl, by rw [HUE.out]; first | done | rfl | (rw [hwu]), F4.out⟩
          · have d5 : decide (U < N) = false := decide_eq_false (by omega)
            clear hlt2
            go_wp2_with fail
            refine (HCV.out _).mono ?_
            rintro e w4 ⟨rfl, hb⟩
            have F4 := Lib.hid (HG.out.more hb)
            have k0 := F4.out.box.cell 0 (by simp)
            have k1 := F4.out.box.cell 1 (by simp)
            have k2 := F4.out.box.cell 2 (by simp)
            clear hb HG
            go_wp2_with fail
            refine (HVN.out _).mono ?_
            rintro e w5 ⟨rfl, hb⟩
            have F5 := Lib.hid (F4.out.more hb)
            have k0 := F5.out.box.cell 0 (by simp)
            have k1 := F5.out.box.cell 1 (by simp)
            have k2 := F5.out.box.cell 2 (by simp)
            clear hb F4
            go_wp2_with fail
            refine (HOB.out _).mono ?_
            rintro e w6 ⟨rfl, hb⟩
            have F6 := Lib.hid (F5.out.more hb)
            clear hb F5
            go_wp2
            go_ret
            exact ⟨rfl, F6.out.below⟩
end Go.Proofs.Ytdfcamlnebcbpaa
