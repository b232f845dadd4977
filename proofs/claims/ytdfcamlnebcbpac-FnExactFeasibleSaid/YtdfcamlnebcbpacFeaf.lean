/- What this text proves: the contracts of the model's and the program's Feasible. -/
import Derived.Test.YtdfcamlnebcbpacDemf
import Derived.Test.YtdfcamlnebcbpacVct
import Derived.Test.YtdfcamlnebcbpacFeaM
import Derived.Test.YtdfcamlnebcbpacStB
import Derived.Test.YtdfcamlnebcbpacQw
import Derived.BigQuiet
namespace Go.Proofs.Ytdfcamlnebcbpac
open Go.ChangeShapes Go.WideShapes Go.ChangeAt Go.RowKit
set_option linter.unusedVariables false

def FeaR (p s l : Int) (L : List Rq) : Prop := OrbOk p s l ∧ RqsOk L ∧ Fea L (cntR p s l)
instance (L : List Rq) (c : Int → Int → Int) : Decidable (Fea L c) := by unfold Fea; infer_instance
instance (p s l : Int) (L : List Rq) : Decidable (FeaR p s l L) := by unfold FeaR; infer_instance
set_option maxRecDepth 20000 in
set_option maxHeartbeats 4000000 in
theorem fea_impl (p s l : Int) (A : Option Addr) (L : List Rq) (c : Nat) (hL : L.length ≤ 1048576) (w : World) (h : LsI 4 w w.heap.size A (L.map rqC)) :
    Calls Try.prog 27 #[obV p s l, .slice A L.length c] w fun e w' => e = .returned (.bool (decide (FeaR p s l L))) ∧ Below w.heap.size w w' := by
  have S0 := Lib.hid ((St.start w).made (obL p s l) 29)
  have c0 := (S0.out.box 0 _ _ rfl).cell 0 (by simp)
  have c1 := (S0.out.box 0 _ _ rfl).cell 1 (by simp)
  have c2 := (S0.out.box 0 _ _ rfl).cell 2 (by simp)
  have H1 := ob_impl p s l
  have H2 := fun W (hb : Below w.heap.size w W) => rqs_impl A L c (by omega) W (h.full hb)
  have HI := Lib.hid (fun W (hb : Below w.heap.size w W) => h.more hb)
  have HD := Lib.hid (fun (a b : Int) W (hb : Below w.heap.size w W) => dem_impl A L c a b (by omega) W (h.full hb))
  have HC := Lib.hid (fun (a b : Int) W => vct_impl p s l a b W)
  have HNO := Lib.hid (show ¬ FeaR p s l L → decide (FeaR p s l L) = false from fun h => decide_eq_false h)
  clear h
  by_cases h1 : OrbOk p s l
  · rw [decide_eq_true h1] at H1
    have H1 := Lib.hid H1
    by_cases h2 : RqsOk L
    · simp only [decide_eq_true h2] at H2
      have H2 := Lib.hid H2
      have HOK := Lib.hid h2
      have HYS := Lib.hid (show Fea L (cntR p s l) → decide (FeaR p s l L) = true from fun h => decide_eq_true ⟨h1, h2, h⟩)
      clear h1 h2
      go_enter Try.func27, Try.ntmps27
      go_wp2_with fail
      refine (H1.out _).mono ?_
      rintro e w2 ⟨rfl, hb⟩
      have S1 := Lib.hid (S0.out.more hb)
      clear hb c0 c1 c2 S0
      go_wp2_with fail
      refine (H2.out _ S1.out.below).mono ?_
      rintro e w3 ⟨rfl, hb⟩
      have SM := Lib.hid (S1.out.more hb)
      clear hb S1
      go_wp2
      go_loopg [21] L.length (fun gh v wx => ∃ i : Nat, i ≤ L.length ∧ gh = L.length - i ∧ v = .int .i64 (i : Int) ∧ (∀ i', i' < i → ∀ k, k < L.length → demN L (rR L i') (rD L k) L.length ≤ cntR p s l (rR L i') (rD L k)) ∧ St w wx [boxT w.heap.size (obL p s l)])
      case atStart => exact ⟨0, by omega, rfl, rfl, fun j h => absurd h (Nat.not_lt_zero _), SM.out⟩
      case round =>
        obtain ⟨i, hi, rfl, rfl, hall, hst⟩ := hrel
        have HA := Lib.hid hall
        have SS := Lib.hid hst
        clear hst hall SM
        obtain ⟨wo, rfl⟩ : ∃ x, x = wr := ⟨_, rfl⟩
        by_cases hlt : i < L.length
        rotate_left
        · have hd : decide (i < L.length) = false := by simp; omega
          have hd' : decide ((i : Int) < (L.length : Int)) = false := by simp; omega
          have HV := Lib.hid (HYS.out (fun i' hi' k hk => HA.out i' (by omega) k hk))
          clear hlt
          go_wp2
          go_ret
          exact ⟨by rw [HV.out]; first | done | rfl, SS.out.below⟩
        have hd : decide (i < L.length) = true := by simp; omega
        have hd' : decide ((i : Int) < (L.length : Int)) = true := by simp; omega
        obtain ⟨bb, off, rfl, hbb, hc⟩ := rqCellsI (b := 0) (off := 0) (HI.out _ SS.out.below) (by omega)
        obtain ⟨c0, c1, c2, c3⟩ := hc i hlt
        have HE := Lib.hid (show rqAt L i = L[i] from by simp [rqAt, hlt])
        clear hc
        generalize L[i] = z at *
        obtain ⟨a0, a1, a2, a3⟩ := z
        simp only [] at c0 c1 c2 c3
        have HIL := Lib.hid hlt
        have HCELL := Lib.hid (fun W (hb : Below w.heap.size w W) => (hb.cell (p := ⟨bb, off + i * 4 + 1, none⟩) hbb).trans ((SS.out.below.cell (p := ⟨bb, off + i * 4 + 1, none⟩) hbb).symm.trans c1))
        have S1 := Lib.hid (SS.out.made (rqL a0 a1 a2 a3) 80)
        clear SS
        go_wp2
        clear c0 c1 c2 c3
        go_loopg [27] L.length (fun gh v wy => ∃ k : Nat, k ≤ L.length ∧ gh = L.length - k ∧ v = .int .i64 (k : Int) ∧ (∀ k', k' < k → demN L (rR L i) (rD L k') L.length ≤ cntR p s l (rR L i) (rD L k')) ∧ St w wy [boxT wo.heap.size (rqL a0 a1 a2 a3), boxT w.heap.size (obL p s l)])
        case atStart => exact ⟨0, by omega, rfl, rfl, fun j h => absurd h (Nat.not_lt_zero _), S1.out⟩
        case round =>
          obtain ⟨k, hk, rfl, rfl, hal2, hst⟩ := hrel
          have HB := Lib.hid hal2
          have ST := Lib.hid hst
          clear hst hal2 S1
          by_cases hlt2 : k < L.length
          rotate_left
          · have e2 : decide (k < L.length) = false := by simp; omega
            have e2' : decide ((k : Int) < (L.length : Int)) = false := by simp; omega
            obtain rfl : k = L.length := by omega
            have HA2 := Lib.hid (show ∀ i', i' < i + 1 → ∀ k, k < L.length → demN L (rR L i') (rD L k) L.length ≤ cntR p s l (rR L i') (rD L k) from fun i' h' k hk => by
              rcases Nat.lt_succ_iff_lt_or_eq.1 h' with h3 | rfl
              · exact HA.out i' h3 k hk
              · exact HB.out k hk)
            have S9 := Lib.hid (ST.out.pick [1] (by decide))
            clear hlt2
            go_wp2
            go_roundg (L.length - (i + 1))
            case measure => have := HIL.out; omega
            case rel => exact ⟨i + 1, by have := HIL.out; omega, rfl, by have := HIL.out; go_num, HA2.out, S9.out⟩
          have e2 : decide (k < L.length) = true := by simp; omega
          have e2' : decide ((k : Int) < (L.length : Int)) = true := by simp; omega
          obtain ⟨bb2, off2, ee, hb2, hc2⟩ := rqCellsI (b := 0) (off := 0) (HI.out _ ST.out.below) (by omega)
          obtain ⟨rfl, rfl⟩ : bb2 = bb ∧ off2 = off := by injection ee with ee; injection ee with e1 e2; exact ⟨e1.symm, e2.symm⟩
          obtain ⟨q0, q1, q2, q3⟩ := hc2 k hlt2
          have HE2 := Lib.hid (show rqAt L k = L[k] from by simp [rqAt, hlt2])
          clear hc2 ee
          generalize L[k] = z at *
          obtain ⟨b0, b1, b2, b3⟩ := z
          simp only [] at q0 q1 q2 q3
          have HX := Lib.hid (show rR L i = a1 ∧ rD L k = b2 from ⟨by show (rqAt L i).2.1 = a1; rw [HE.out], by show (rqAt L k).2.2.1 = b2; rw [HE2.out]⟩)
          have HKL := Lib.hid hlt2
          have S3 := Lib.hid (ST.out.made (rqL b0 b1 b2 b3) 80)
          have m1 := (S3.out.box 1 _ _ rfl).cell 1 (by simp)
          have m2 := (S3.out.box 0 _ _ rfl).cell 2 (by simp)
          have hall : ∀ q : Prop, (InW (fun W => St w W [boxT wr.heap.size (rqL b0 b1 b2 b3), boxT wo.heap.size (rqL a0 a1 a2 a3), boxT w.heap.size (obL p s l)]) → q) ↔ q := fun q => ⟨fun h => h ⟨_, S3.out⟩, fun h _ => h⟩
          have f0 : ∀ u : InW (fun W => St w W [boxT wr.heap.size (rqL b0 b1 b2 b3), boxT wo.heap.size (rqL a0 a1 a2 a3), boxT w.heap.size (obL p s l)]), u.W.cell? ⟨w.heap.size, 0, none⟩ = some (.int .i64 p) := fun u => (u.ok.box 2 _ _ rfl).cell 0 (by simp)
          have f1 : ∀ u : InW (fun W => St w W [boxT wr.heap.size (rqL b0 b1 b2 b3), boxT wo.heap.size (rqL a0 a1 a2 a3), boxT w.heap.size (obL p s l)]), u.W.cell? ⟨w.heap.size, 1, none⟩ = some (.int .i64 s) := fun u => (u.ok.box 2 _ _ rfl).cell 1 (by simp)
          have f2 : ∀ u : InW (fun W => St w W [boxT wr.heap.size (rqL b0 b1 b2 b3), boxT wo.heap.size (rqL a0 a1 a2 a3), boxT w.heap.size (obL p s l)]), u.W.cell? ⟨w.heap.size, 2, none⟩ = some (.int .i64 l) := fun u => (u.ok.box 2 _ _ rfl).cell 2 (by simp)
          obtain ⟨x, hx⟩ : ∃ x : Int, demR L a1 b2 = x := ⟨_, rfl⟩
          obtain ⟨y, hy⟩ : ∃ y : Int, cntR p s l a1 b2 = y := ⟨_, rfl⟩
          have HDD := Lib.hid (fun W (hW : St w W [boxT wr.heap.size (rqL b0 b1 b2 b3), boxT wo.heap.size (rqL a0 a1 a2 a3), boxT w.heap.size (obL p s l)]) => (HD.out a1 b2 W hW.below).mono fun e w' h => (show e = .returned (.int .i64 x) ∧ St w w' [boxT wr.heap.size (rqL b0 b1 b2 b3), boxT wo.heap.size (rqL a0 a1 a2 a3), boxT w.heap.size (obL p s l)] from ⟨by rw [← hx]; exact h.1, hW.more h.2⟩))
          have HCC := Lib.hid (fun W (hW : St w W [boxT wr.heap.size (rqL b0 b1 b2 b3), boxT wo.heap.size (rqL a0 a1 a2 a3), boxT w.heap.size (obL p s l)]) => (HC.out a1 b2 W).mono fun e w' h => (show e = .returned (.int .i64 y) ∧ St w w' [boxT wr.heap.size (rqL b0 b1 b2 b3), boxT wo.heap.size (rqL a0 a1 a2 a3), boxT w.heap.size (obL p s l)] from ⟨by rw [← hy]; exact h.1, hW.more h.2⟩))
          have HXY := Lib.hid (show demN L (rR L i) (rD L k) L.length = x ∧ cntR p s l (rR L i) (rD L k) = y from by rw [HX.out.1, HX.out.2]; exact ⟨by rw [← hx]; unfold demR; rw [if_pos HOK.out], hy⟩)
          clear hx hy
          by_cases hle : x ≤ y
          · have d5 : decide (y < x) = false := decide_eq_false (by omega)
            have HB2 := Lib.hid (show ∀ k', k' < k + 1 → demN L (rR L i) (rD L k') L.length ≤ cntR p s l (rR L i) (rD L k') from fun k' h' => by
              rcases Nat.lt_succ_iff_lt_or_eq.1 h' with h3 | rfl
              · exact HB.out k' h3
              · rw [HXY.out.1, HXY.out.2]; exact hle)
            clear hle
            go_wp2
            go_quiet (fail)
            go_wp2
            refine wp_region_inW (fun W => St w W [boxT wr.heap.size (rqL b0 b1 b2 b3), boxT wo.heap.size (rqL a0 a1 a2 a3), boxT w.heap.size (obL p s l)]) (by kernel_rfl) (by kernel_rfl) (S3.out.drewN _).drew ?_
            repeat (go_big_quiet_step (first | (go_at_call 25; (with_reducible exact calls_inW (C := fun W => St w W [boxT wr.heap.size (rqL b0 b1 b2 b3), boxT wo.heap.size (rqL a0 a1 a2 a3), boxT w.heap.size (obL p s l)]) (HDD.out _ (InW.ok (C := fun W => St w W [boxT wr.heap.size (rqL b0 b1 b2 b3), boxT wo.heap.size (rqL a0 a1 a2 a3), boxT w.heap.size (obL p s l)]) _)))) | (go_at_call 54; (with_reducible exact calls_inW (C := fun W => St w W [boxT wr.heap.size (rqL b0 b1 b2 b3), boxT wo.heap.size (rqL a0 a1 a2 a3), boxT w.heap.size (obL p s l)]) (HCC.out _ (InW.ok (C := fun W => St w W [boxT wr.heap.size (rqL b0 b1 b2 b3), boxT wo.heap.size (rqL a0 a1 a2 a3), boxT w.heap.size (obL p s l)]) _))))))
            refine wpQuiet_nil ?_
            rintro W2 ⟨⟨_, F2⟩, rfl⟩
            have S5 := Lib.hid F2
            clear F2
            have S6 := Lib.hid (S5.out.pick [1, 2] (by decide))
            go_wp2
            go_roundg (L.length - (k + 1))
            case measure => have := HKL.out; omega
            case rel => exact ⟨k + 1, by have := HKL.out; omega, rfl, by have := HKL.out; go_num, HB2.out, S6.out⟩
          · have d5 : decide (y < x) = true := decide_eq_true (by omega)
            have HV := Lib.hid (HNO.out (fun h => hle (by have := h.2.2 i HIL.out k HKL.out; rw [HXY.out.1, HXY.out.2] at this; exact this)))
            clear hle
            go_wp2
            go_quiet (fail)
            go_wp2
            refine wp_region_inW (fun W => St w W [boxT wr.heap.size (rqL b0 b1 b2 b3), boxT wo.heap.size (rqL a0 a1 a2 a3), boxT w.heap.size (obL p s l)]) (by kernel_rfl) (by kernel_rfl) (S3.out.drewN _).drew ?_
            repeat (go_big_quiet_step (first | (go_at_call 25; (with_reducible exact calls_inW (C := fun W => St w W [boxT wr.heap.size (rqL b0 b1 b2 b3), boxT wo.heap.size (rqL a0 a1 a2 a3), boxT w.heap.size (obL p s l)]) (HDD.out _ (InW.ok (C := fun W => St w W [boxT wr.heap.size (rqL b0 b1 b2 b3), boxT wo.heap.size (rqL a0 a1 a2 a3), boxT w.heap.size (obL p s l)]) _)))) | (go_at_call 54; (with_reducible exact calls_inW (C := fun W => St w W [boxT wr.heap.size (rqL b0 b1 b2 b3), boxT wo.heap.size (rqL a0 a1 a2 a3), boxT w.heap.size (obL p s l)]) (HCC.out _ (InW.ok (C := fun W => St w W [boxT wr.heap.size (rqL b0 b1 b2 b3), boxT wo.heap.size (rqL a0 a1 a2 a3), boxT w.heap.size (obL p s l)]) _))))))
            refine wpQuiet_nil ?_
            rintro W2 ⟨⟨_, F2⟩, rfl⟩
            have S5 := Lib.hid F2
            clear F2
            go_wp2
            go_ret
            exact ⟨by rw [HV.out]; first | done | rfl, S5.out.below⟩
    · simp only [decide_eq_false h2] at H2
      have H2 := Lib.hid H2
      have HV := Lib.hid (HNO.out (fun h => h2 h.2.1))
      clear h1 h2
      go_enter Try.func27, Try.ntmps27
      go_wp2_with fail
      refine (H1.out _).mono ?_
      rintro e w2 ⟨rfl, hb⟩
      have S1 := Lib.hid (S0.out.more hb)
      clear hb c0 c1 c2 S0
      go_wp2_with fail
      refine (H2.out _ S1.out.below).mono ?_
      rintro e w3 ⟨rfl, hb⟩
      have SM := Lib.hid (S1.out.more hb)
      clear hb S1
      go_wp2
      go_ret
      exact ⟨by rw [HV.out]; first | done | rfl, SM.out.below⟩
  · rw [decide_eq_false h1] at H1
    have H1 := Lib.hid H1
    have HV := Lib.hid (HNO.out (fun h => h1 h.1))
    clear h1 H2
    go_enter Try.func27, Try.ntmps27
    go_wp2_with fail
    refine (H1.out _).mono ?_
    rintro e w2 ⟨rfl, hb⟩
    have S1 := Lib.hid (S0.out.more hb)
    clear hb c0 c1 c2 S0
    go_wp2
    go_ret
    exact ⟨by rw [HV.out]; first | done | rfl, S1.out.below⟩
set_option maxRecDepth 20000 in
set_option maxHeartbeats 4000000 in
theorem fea_spec (p s l : Int) (A : Option Addr) (L : List Rq) (c : Nat) (hL : L.length ≤ 1048576) (w : World) (h : LsI 4 w w.heap.size A (L.map rqC)) :
    Calls Try.prog 26 #[obV p s l, .slice A L.length c] w fun e w' => e = .returned (.bool (decide (FeaR p s l L))) ∧ Below w.heap.size w w' := by
  have S0 := Lib.hid ((St.start w).made (obL p s l) 29)
  have c0 := (S0.out.box 0 _ _ rfl).cell 0 (by simp)
  have c1 := (S0.out.box 0 _ _ rfl).cell 1 (by simp)
  have c2 := (S0.out.box 0 _ _ rfl).cell 2 (by simp)
  have H1 := ob_spec p s l
  have H2 := fun W (hb : Below w.heap.size w W) => rqs_spec A L c (by omega) W (h.full hb)
  have HI := Lib.hid (fun W (hb : Below w.heap.size w W) => h.more hb)
  have HD := Lib.hid (fun (a b : Int) W (hb : Below w.heap.size w W) => dem_spec A L c a b (by omega) W (h.full hb))
  have HC := Lib.hid (fun (a b : Int) W => vct_spec p s l a b W)
  have HNO := Lib.hid (show ¬ FeaR p s l L → decide (FeaR p s l L) = false from fun h => decide_eq_false h)
  clear h
  by_cases h1 : OrbOk p s l
  · rw [decide_eq_true h1] at H1
    have H1 := Lib.hid H1
    by_cases h2 : RqsOk L
    · simp only [decide_eq_true h2] at H2
      have H2 := Lib.hid H2
      have HOK := Lib.hid h2
      have HYS := Lib.hid (show Fea L (cntR p s l) → decide (FeaR p s l L) = true from fun h => decide_eq_true ⟨h1, h2, h⟩)
      clear h1 h2
      go_enter Try.func26, Try.ntmps26
      go_wp2_with fail
      refine (H1.out _).mono ?_
      rintro e w2 ⟨rfl, hb⟩
      have S1 := Lib.hid (S0.out.more hb)
      clear hb c0 c1 c2 S0
      go_wp2_with fail
      refine (H2.out _ S1.out.below).mono ?_
      rintro e w3 ⟨rfl, hb⟩
      have SM := Lib.hid (S1.out.more hb)
      clear hb S1
      go_wp2
      go_loopg [5] L.length (fun gh v wx => ∃ i : Nat, i ≤ L.length ∧ gh = L.length - i ∧ v = .int .i64 (i : Int) ∧ (∀ i', i' < i → ∀ k, k < L.length → demN L (rR L i') (rD L k) L.length ≤ cntR p s l (rR L i') (rD L k)) ∧ St w wx [boxT w.heap.size (obL p s l)])
      case atStart => exact ⟨0, by omega, rfl, rfl, fun j h => absurd h (Nat.not_lt_zero _), SM.out⟩
      case round =>
        obtain ⟨i, hi, rfl, rfl, hall, hst⟩ := hrel
        have HA := Lib.hid hall
        have SS := Lib.hid hst
        clear hst hall SM
        obtain ⟨wo, rfl⟩ : ∃ x, x = wr := ⟨_, rfl⟩
        by_cases hlt : i < L.length
        rotate_left
        · have hd : decide (i < L.length) = false := by simp; omega
          have hd' : decide ((i : Int) < (L.length : Int)) = false := by simp; omega
          have HV := Lib.hid (HYS.out (fun i' hi' k hk => HA.out i' (by omega) k hk))
          clear hlt
          go_wp2
          go_ret
          exact ⟨by rw [HV.out]; first | done | rfl, SS.out.below⟩
        have hd : decide (i < L.length) = true := by simp; omega
        have hd' : decide ((i : Int) < (L.length : Int)) = true := by simp; omega
        obtain ⟨bb, off, rfl, hbb, hc⟩ := rqCellsI (b := 0) (off := 0) (HI.out _ SS.out.below) (by omega)
        obtain ⟨c0, c1, c2, c3⟩ := hc i hlt
        have HE := Lib.hid (show rqAt L i = L[i] from by simp [rqAt, hlt])
        clear hc
        generalize L[i] = z at *
        obtain ⟨a0, a1, a2, a3⟩ := z
        simp only [] at c0 c1 c2 c3
        have HIL := Lib.hid hlt
        have HCELL := Lib.hid (fun W (hb : Below w.heap.size w W) => (hb.cell (p := ⟨bb, off + i * 4 + 1, none⟩) hbb).trans ((SS.out.below.cell (p := ⟨bb, off + i * 4 + 1, none⟩) hbb).symm.trans c1))
        have S1 := Lib.hid SS.out
        clear SS
        go_wp2
        clear c0 c1 c2 c3
        go_loopg [6] L.length (fun gh v wy => ∃ k : Nat, k ≤ L.length ∧ gh = L.length - k ∧ v = .int .i64 (k : Int) ∧ (∀ k', k' < k → demN L (rR L i) (rD L k') L.length ≤ cntR p s l (rR L i) (rD L k')) ∧ St w wy [boxT w.heap.size (obL p s l)])
        case atStart => exact ⟨0, by omega, rfl, rfl, fun j h => absurd h (Nat.not_lt_zero _), S1.out⟩
        case round =>
          obtain ⟨k, hk, rfl, rfl, hal2, hst⟩ := hrel
          have HB := Lib.hid hal2
          have ST := Lib.hid hst
          clear hst hal2 S1
          by_cases hlt2 : k < L.length
          rotate_left
          · have e2 : decide (k < L.length) = false := by simp; omega
            have e2' : decide ((k : Int) < (L.length : Int)) = false := by simp; omega
            obtain rfl : k = L.length := by omega
            have HA2 := Lib.hid (show ∀ i', i' < i + 1 → ∀ k, k < L.length → demN L (rR L i') (rD L k) L.length ≤ cntR p s l (rR L i') (rD L k) from fun i' h' k hk => by
              rcases Nat.lt_succ_iff_lt_or_eq.1 h' with h3 | rfl
              · exact HA.out i' h3 k hk
              · exact HB.out k hk)
            have S9 := Lib.hid (ST.out)
            clear hlt2
            go_wp2
            go_roundg (L.length - (i + 1))
            case measure => have := HIL.out; omega
            case rel => exact ⟨i + 1, by have := HIL.out; omega, rfl, by have := HIL.out; go_num, HA2.out, S9.out⟩
          have e2 : decide (k < L.length) = true := by simp; omega
          have e2' : decide ((k : Int) < (L.length : Int)) = true := by simp; omega
          obtain ⟨bb2, off2, ee, hb2, hc2⟩ := rqCellsI (b := 0) (off := 0) (HI.out _ ST.out.below) (by omega)
          obtain ⟨rfl, rfl⟩ : bb2 = bb ∧ off2 = off := by injection ee with ee; injection ee with e1 e2; exact ⟨e1.symm, e2.symm⟩
          obtain ⟨q0, q1, q2, q3⟩ := hc2 k hlt2
          have HE2 := Lib.hid (show rqAt L k = L[k] from by simp [rqAt, hlt2])
          clear hc2 ee
          generalize L[k] = z at *
          obtain ⟨b0, b1, b2, b3⟩ := z
          simp only [] at q0 q1 q2 q3
          have HX := Lib.hid (show rR L i = a1 ∧ rD L k = b2 from ⟨by show (rqAt L i).2.1 = a1; rw [HE.out], by show (rqAt L k).2.2.1 = b2; rw [HE2.out]⟩)
          have HKL := Lib.hid hlt2
          have p1 := HCELL.out _ ST.out.below
          have hdi : decide (i < L.length) = true := by have := HIL.out; simp; omega
          have hil := HIL.out
          have hall : ∀ q : Prop, (InW (fun W => St w W [boxT w.heap.size (obL p s l)]) → q) ↔ q := fun q => ⟨fun h => h ⟨_, ST.out⟩, fun h _ => h⟩
          have f0 : ∀ u : InW (fun W => St w W [boxT w.heap.size (obL p s l)]), u.W.cell? ⟨w.heap.size, 0, none⟩ = some (.int .i64 p) := fun u => (u.ok.box 0 _ _ rfl).cell 0 (by simp)
          have f1 : ∀ u : InW (fun W => St w W [boxT w.heap.size (obL p s l)]), u.W.cell? ⟨w.heap.size, 1, none⟩ = some (.int .i64 s) := fun u => (u.ok.box 0 _ _ rfl).cell 1 (by simp)
          have f2 : ∀ u : InW (fun W => St w W [boxT w.heap.size (obL p s l)]), u.W.cell? ⟨w.heap.size, 2, none⟩ = some (.int .i64 l) := fun u => (u.ok.box 0 _ _ rfl).cell 2 (by simp)
          obtain ⟨x, hx⟩ : ∃ x : Int, demR L a1 b2 = x := ⟨_, rfl⟩
          obtain ⟨y, hy⟩ : ∃ y : Int, cntR p s l a1 b2 = y := ⟨_, rfl⟩
          have HDD := Lib.hid (fun W (hW : St w W [boxT w.heap.size (obL p s l)]) => (HD.out a1 b2 W hW.below).mono fun e w' h => (show e = .returned (.int .i64 x) ∧ St w w' [boxT w.heap.size (obL p s l)] from ⟨by rw [← hx]; exact h.1, hW.more h.2⟩))
          have HCC := Lib.hid (fun W (hW : St w W [boxT w.heap.size (obL p s l)]) => (HC.out a1 b2 W).mono fun e w' h => (show e = .returned (.int .i64 y) ∧ St w w' [boxT w.heap.size (obL p s l)] from ⟨by rw [← hy]; exact h.1, hW.more h.2⟩))
          have HXY := Lib.hid (show demN L (rR L i) (rD L k) L.length = x ∧ cntR p s l (rR L i) (rD L k) = y from by rw [HX.out.1, HX.out.2]; exact ⟨by rw [← hx]; unfold demR; rw [if_pos HOK.out], hy⟩)
          clear hx hy
          by_cases hle : x ≤ y
          · have d5 : decide (y < x) = false := decide_eq_false (by omega)
            have HB2 := Lib.hid (show ∀ k', k' < k + 1 → demN L (rR L i) (rD L k') L.length ≤ cntR p s l (rR L i) (rD L k') from fun k' h' => by
              rcases Nat.lt_succ_iff_lt_or_eq.1 h' with h3 | rfl
              · exact HB.out k' h3
              · rw [HXY.out.1, HXY.out.2]; exact hle)
            clear hle
            go_wp2
            refine wp_region_inW (fun W => St w W [boxT w.heap.size (obL p s l)]) (by kernel_rfl) (by kernel_rfl) ST.out.drew ?_
            repeat (go_big_quiet_step (first | (go_at_call 24; (with_reducible exact calls_inW (C := fun W => St w W [boxT w.heap.size (obL p s l)]) (HDD.out _ (InW.ok (C := fun W => St w W [boxT w.heap.size (obL p s l)]) _)))) | (go_at_call 53; (with_reducible exact calls_inW (C := fun W => St w W [boxT w.heap.size (obL p s l)]) (HCC.out _ (InW.ok (C := fun W => St w W [boxT w.heap.size (obL p s l)]) _))))))
            refine wpQuiet_nil ?_
            rintro W2 ⟨⟨_, F2⟩, rfl⟩
            have S5 := Lib.hid F2
            clear F2
            have S6 := Lib.hid (S5.out)
            go_wp2
            go_roundg (L.length - (k + 1))
            case measure => have := HKL.out; omega
            case rel => exact ⟨k + 1, by have := HKL.out; omega, rfl, by have := HKL.out; go_num, HB2.out, S6.out⟩
          · have d5 : decide (y < x) = true := decide_eq_true (by omega)
            have HV := Lib.hid (HNO.out (fun h => hle (by have := h.2.2 i HIL.out k HKL.out; rw [HXY.out.1, HXY.out.2] at this; exact this)))
            clear hle
            go_wp2
            refine wp_region_inW (fun W => St w W [boxT w.heap.size (obL p s l)]) (by kernel_rfl) (by kernel_rfl) ST.out.drew ?_
            repeat (go_big_quiet_step (first | (go_at_call 24; (with_reducible exact calls_inW (C := fun W => St w W [boxT w.heap.size (obL p s l)]) (HDD.out _ (InW.ok (C := fun W => St w W [boxT w.heap.size (obL p s l)]) _)))) | (go_at_call 53; (with_reducible exact calls_inW (C := fun W => St w W [boxT w.heap.size (obL p s l)]) (HCC.out _ (InW.ok (C := fun W => St w W [boxT w.heap.size (obL p s l)]) _))))))
            refine wpQuiet_nil ?_
            rintro W2 ⟨⟨_, F2⟩, rfl⟩
            have S5 := Lib.hid F2
            clear F2
            go_wp2
            go_ret
            exact ⟨by rw [HV.out]; first | done | rfl, S5.out.below⟩
    · simp only [decide_eq_false h2] at H2
      have H2 := Lib.hid H2
      have HV := Lib.hid (HNO.out (fun h => h2 h.2.1))
      clear h1 h2
      go_enter Try.func26, Try.ntmps26
      go_wp2_with fail
      refine (H1.out _).mono ?_
      rintro e w2 ⟨rfl, hb⟩
      have S1 := Lib.hid (S0.out.more hb)
      clear hb c0 c1 c2 S0
      go_wp2_with fail
      refine (H2.out _ S1.out.below).mono ?_
      rintro e w3 ⟨rfl, hb⟩
      have SM := Lib.hid (S1.out.more hb)
      clear hb S1
      go_wp2
      go_ret
      exact ⟨by rw [HV.out]; first | done | rfl, SM.out.below⟩
  · rw [decide_eq_false h1] at H1
    have H1 := Lib.hid H1
    have HV := Lib.hid (HNO.out (fun h => h1 h.1))
    clear h1 H2
    go_enter Try.func26, Try.ntmps26
    go_wp2_with fail
    refine (H1.out _).mono ?_
    rintro e w2 ⟨rfl, hb⟩
    have S1 := Lib.hid (S0.out.more hb)
    clear hb c0 c1 c2 S0
    go_wp2
    go_ret
    exact ⟨by rw [HV.out]; first | done | rfl, S1.out.below⟩
end Go.Proofs.Ytdfcamlnebcbpac
