/- What this text proves: the contracts of the program's and the model's GuessTrue. -/
import Derived.Test.YtggfmimnmpanbaaDoorStf
import Derived.Test.YtggfmimnmpanbaaDoorFlr
namespace Go.Proofs.YtggfmimnmpanbaaDoor
open Go.ChangeShapes Go.WideShapes Go.ChangeAt Go.RowKit
set_option linter.unusedVariables false

abbrev guV (r : Int × Bool) : Value := .tuple #[.int .i64 r.1, .bool r.2]
/-- The numbers of an estimate are no larger than they may be. -/
theorem gue_nums {x1 x2 y1 y2 b : Int} (hx : PrIn (x1, x2)) (hy : PrIn (y1, y2)) (h1 : x1 < y1) (h2 : x2 < y2) (hb : 0 ≤ b ∧ b ≤ 2000000) :
    ∃ d1 d2 d3 P q, b - x1 = d1 ∧ y2 - x2 = d2 ∧ y1 - x1 = d3 ∧ d1 * d2 = P ∧ P / d3 = q ∧ (-2000000 ≤ d1 ∧ d1 ≤ 2000000) ∧ (0 < d2 ∧ d2 ≤ 1000000) ∧ (0 < d3 ∧ d3 ≤ 2000000) ∧ (-2000000000000 ≤ P ∧ P ≤ 2000000000000) ∧ (-2000000000000 ≤ q ∧ q ≤ 2000000000000) ∧ gueV (x1, x2) (y1, y2) b = x2 + q := by
  obtain ⟨⟨a1, a2⟩, a3, a4⟩ := hx
  obtain ⟨⟨b1, b2⟩, b3, b4⟩ := hy
  simp only [] at a1 a2 a3 a4 b1 b2 b3 b4
  have e1 : -2000000 ≤ b - x1 ∧ b - x1 ≤ 2000000 := by omega
  have e2 : 0 < y2 - x2 ∧ y2 - x2 ≤ 1000000 := by omega
  have e3 : 0 < y1 - x1 ∧ y1 - x1 ≤ 2000000 := by omega
  have l1 := Int.mul_le_mul_of_nonneg_right e1.1 (show 0 ≤ y2 - x2 by omega)
  have l2 := Int.mul_le_mul_of_nonneg_right e1.2 (show 0 ≤ y2 - x2 by omega)
  have eP : -2000000000000 ≤ (b - x1) * (y2 - x2) ∧ (b - x1) * (y2 - x2) ≤ 2000000000000 := by omega
  refine ⟨_, _, _, _, _, rfl, rfl, rfl, rfl, rfl, e1, e2, e3, eP, ⟨?_, ?_⟩, rfl⟩
  · rw [Int.le_ediv_iff_mul_le e3.1]; omega
  · have : (b - x1) * (y2 - x2) / (y1 - x1) < 2000000000001 := by rw [Int.ediv_lt_iff_lt_mul e3.1]; omega
    omega
set_option maxRecDepth 20000 in
set_option maxHeartbeats 4000000 in
theorem gue_impl (A : Option Addr) (l : List Pr) (c : Nat) (b : Int) (hl : l.length ≤ 2000000) (w : World) (hv : Bfr w) (h : LsI 2 w w.heap.size A (l.map prC)) :
    Calls Tryd.prog 15 #[.slice A l.length c, .int .i64 b] w fun e w' => e = .returned (guV (gueR l b)) ∧ Below w.heap.size w w' := by
  have hP := pok_impl A l c hl w hv h
  by_cases hok : PrsOk l
  · rw [decide_eq_true hok] at hP
    have HP := Lib.hid hP
    clear hP
    by_cases hn : 2 ≤ l.length
    · have dn : decide (l.length < 2) = false := by simp; omega
      have dn' : decide ((l.length : Int) < 2) = false := by simp; omega
      have hS := sh_impl b
      by_cases hb : 0 ≤ b ∧ b ≤ 2000000
      · rw [decide_eq_true hb] at hS
        have HS := Lib.hid hS
        clear hS
        have hin := segD_in l b (l.length - 2) 1
        change 1 ≤ segI l b ∧ segI l b ≤ _ at hin
        obtain ⟨⟨x1, x2⟩, hX⟩ : ∃ X, pAt l (segI l b - 1) = X := ⟨_, rfl⟩
        obtain ⟨⟨y1, y2⟩, hY⟩ : ∃ X, pAt l (segI l b) = X := ⟨_, rfl⟩
        have hxi := hok.at (k := segI l b - 1) (by omega)
        have hyi := hok.at (k := segI l b) (by omega)
        have hst := hok.asc (i := segI l b - 1) (j := segI l b) (by omega) (by omega)
        rw [hX] at hxi hst
        rw [hY] at hyi hst
        have hgr : gueR l b = (gueV (x1, x2) (y1, y2) b, true) := by unfold gueR; rw [if_pos ⟨hok, hn, hb⟩, hX, hY]
        obtain ⟨d1, d2, d3, P, q, n1, n2, n3, n4, n5, b1, b2, b3, b4, b5, n6⟩ := gue_nums hxi hyi hst.1 hst.2 hb
        rw [n6] at hgr
        have HG := Lib.hid hgr
        have HF := Lib.hid (fun W => (fl_impl P d3 b3.1 (by omega) W).mono fun e w' h => (show e = .returned (.int .i64 q) ∧ W = w' from ⟨by rw [h.1, n5], h.2⟩))
        have HT := Lib.hid (fun W (hb : Below w.heap.size w W) => stf_impl A l c b hl hok hn (x1, x2) (y1, y2) hX hY W (hv.moreAt hv.lt hb hb.size) (h.full hb))
        have w1 : IntKind.i64.wrap d1 = d1 ∧ wrap64 d1 = d1 := ⟨IntWalk.i64_in _ (by omega), by unfold wrap64; omega⟩
        have w2 : IntKind.i64.wrap d2 = d2 ∧ wrap64 d2 = d2 := ⟨IntWalk.i64_in _ (by omega), by unfold wrap64; omega⟩
        have w3 : IntKind.i64.wrap d3 = d3 ∧ wrap64 d3 = d3 := ⟨IntWalk.i64_in _ (by omega), by unfold wrap64; omega⟩
        have w4 : IntKind.i64.wrap P = P ∧ wrap64 P = P := ⟨IntWalk.i64_in _ (by omega), by unfold wrap64; omega⟩
        have w5 : IntKind.i64.wrap (x2 + q) = x2 + q ∧ wrap64 (x2 + q) = x2 + q := ⟨IntWalk.i64_in _ (by have := hxi.2; simp only [] at this; omega), by have := hxi.2; simp only [] at this; unfold wrap64; omega⟩
        obtain ⟨w1a, w1b⟩ := w1
        obtain ⟨w2a, w2b⟩ := w2
        obtain ⟨w3a, w3b⟩ := w3
        obtain ⟨w4a, w4b⟩ := w4
        obtain ⟨w5a, w5b⟩ := w5
        clear b1 b2 b3 b4 b5 n5 n6 hgr hst hxi hyi hX hY hin hb hn hok h hv
        go_enter Tryd.func15, Tryd.ntmps15
        go_wp2_with fail
        refine HP.out.mono ?_
        rintro e w1 ⟨rfl, hb1⟩
        have HB := Lib.hid hb1
        clear hb1
        go_wp2_with fail
        refine (HS.out _).mono ?_
        rintro e w2 ⟨rfl, rfl⟩
        go_wp2_with fail
        refine (HT.out _ HB.out).mono ?_
        rintro e w2 ⟨rfl, hb2⟩
        have S1 := Lib.hid (((St.start w).more HB.out).more hb2)
        have S2 := Lib.hid (show St w ((w2.alloc (.cells (prL x1 x2).toArray 32)).alloc (.cells (prL y1 y2).toArray 32)) [boxT (w2.heap.size + 1) (prL y1 y2), boxT w2.heap.size (prL x1 x2)] from by
          have hh := (S1.out.made (prL x1 x2) 32).made (prL y1 y2) 32
          simpa using hh)
        clear hb2 HB HP HS HT S1
        go_upto_region 4 with fail
        generalize w2.heap.size = g at *
        generalize (w2.alloc (.cells #[.int .i64 x1, .int .i64 x2] 32)).alloc (.cells #[.int .i64 y1, .int .i64 y2] 32) = w3 at *
        have k0 := (S2.out.box 1 _ _ rfl).cell 0 (by simp)
        have k1 := (S2.out.box 1 _ _ rfl).cell 1 (by simp)
        have k2 := (S2.out.box 0 _ _ rfl).cell 0 (by simp)
        have k3 := (S2.out.box 0 _ _ rfl).cell 1 (by simp)
        go_quiet ((go_at_call 34; exact Calls.quiet_of_same ((HF.out _).mono fun _ _ h => ⟨h.1, h.2.symm⟩)))
        go_wp2
        go_ret2
        exact ⟨by rw [HG.out]; rfl, S2.out.below.trans (below_draws (Below.refl _ _) _ |>.mono S2.out.below.size)⟩
      · rw [decide_eq_false hb] at hS
        have HS := Lib.hid hS
        have HV := Lib.hid (show gueR l b = (0, false) from if_neg (fun h => hb h.2.2))
        clear hb hok h hS hv
        go_enter Tryd.func15, Tryd.ntmps15
        go_wp2_with fail
        refine HP.out.mono ?_
        rintro e w1 ⟨rfl, hb1⟩
        have HB := Lib.hid hb1
        clear hb1
        go_wp2_with fail
        refine (HS.out _).mono ?_
        rintro e w2 ⟨rfl, rfl⟩
        go_wp2
        go_ret2
        exact ⟨by rw [HV.out]; rfl, HB.out⟩
    · have dn : decide (l.length < 2) = true := by simp; omega
      have dn' : decide ((l.length : Int) < 2) = true := by simp; omega
      have HV := Lib.hid (show gueR l b = (0, false) from if_neg (fun h => hn h.2.1))
      clear hn hok h hv
      go_enter Tryd.func15, Tryd.ntmps15
      go_wp2_with fail
      refine HP.out.mono ?_
      rintro e w1 ⟨rfl, hb1⟩
      have HB := Lib.hid hb1
      clear hb1
      go_wp2
      go_ret2
      exact ⟨by rw [HV.out]; rfl, HB.out⟩
  · rw [decide_eq_false hok] at hP
    have HP := Lib.hid hP
    have HV := Lib.hid (show gueR l b = (0, false) from if_neg (fun h => hok h.1))
    clear hok h hv hP
    go_enter Tryd.func15, Tryd.ntmps15
    go_wp2_with fail
    refine HP.out.mono ?_
    rintro e w1 ⟨rfl, hb1⟩
    have HB := Lib.hid hb1
    clear hb1
    go_wp2
    go_ret2
    exact ⟨by rw [HV.out]; rfl, HB.out⟩

set_option maxRecDepth 20000 in
set_option maxHeartbeats 4000000 in
theorem gue_spec (A : Option Addr) (l : List Pr) (c : Nat) (b : Int) (hl : l.length ≤ 2000000) (w : World) (h : LsI 2 w w.heap.size A (l.map prC)) :
    Calls Tryd.prog 27 #[.slice A l.length c, .int .i64 b] w fun e w' => e = .returned (guV (gueR l b)) ∧ Below w.heap.size w w' := by
  have hP := pok_spec A l c hl w h
  by_cases hok : PrsOk l
  · rw [decide_eq_true hok] at hP
    have HP := Lib.hid hP
    clear hP
    by_cases hn : 2 ≤ l.length
    · have dn : decide (l.length < 2) = false := by simp; omega
      have dn' : decide ((l.length : Int) < 2) = false := by simp; omega
      have hS := in_anyP b 0 2000000
      by_cases hb : 0 ≤ b ∧ b ≤ 2000000
      · rw [decide_eq_true hb] at hS
        have HS := Lib.hid hS
        clear hS
        have hin := segD_in l b (l.length - 2) 1
        change 1 ≤ segI l b ∧ segI l b ≤ _ at hin
        obtain ⟨⟨x1, x2⟩, hX⟩ : ∃ X, pAt l (segI l b - 1) = X := ⟨_, rfl⟩
        obtain ⟨⟨y1, y2⟩, hY⟩ : ∃ X, pAt l (segI l b) = X := ⟨_, rfl⟩
        have hxi := hok.at (k := segI l b - 1) (by omega)
        have hyi := hok.at (k := segI l b) (by omega)
        have hst := hok.asc (i := segI l b - 1) (j := segI l b) (by omega) (by omega)
        rw [hX] at hxi hst
        rw [hY] at hyi hst
        have hgr : gueR l b = (gueV (x1, x2) (y1, y2) b, true) := by unfold gueR; rw [if_pos ⟨hok, hn, hb⟩, hX, hY]
        obtain ⟨d1, d2, d3, P, q, n1, n2, n3, n4, n5, b1, b2, b3, b4, b5, n6⟩ := gue_nums hxi hyi hst.1 hst.2 hb
        rw [n6] at hgr
        have HG := Lib.hid hgr
        have HF := Lib.hid (fun W => (fl_spec P d3 b3.1 (by omega) W).mono fun e w' h => (show e = .returned (.int .i64 q) ∧ W = w' from ⟨by rw [h.1, n5], h.2⟩))
        obtain ⟨i, hi⟩ : ∃ i, segI l b = i + 1 := ⟨segI l b - 1, by omega⟩
        have hin2 : i + 1 < l.length := by omega
        have HSTOP := Lib.hid (fun k (h1 : 1 ≤ k) (hk : k < l.length) (h : ∀ j, 1 ≤ j → j < k → (pAt l j).1 < b) (hs : ¬ (pAt l k).1 < b) => (seg_stop h1 hk h hs).symm.trans hi)
        have HLAST := Lib.hid (fun k (h1 : 1 ≤ k) (hk : k + 1 = l.length) (h : ∀ j, 1 ≤ j → j < k → (pAt l j).1 < b) => (seg_last h1 hk h).symm.trans hi)
        rw [hi, Nat.add_sub_cancel] at hX
        rw [hi] at hY
        have HXX := Lib.hid hX
        have HYY := Lib.hid hY
        have HI := Lib.hid (fun W (hb : Below w.heap.size w W) => h.more hb)
        obtain ⟨m, hm⟩ : ∃ m, m + 1 = l.length := ⟨l.length - 1, by omega⟩
        have HM := Lib.hid (show 1 ≤ m from by omega)
        have hwm : IntKind.i64.wrap ((l.length : Int) - 1) = (m : Int) ∧ wrap64 ((l.length : Int) - 1) = (m : Int) := ⟨(IntWalk.i64_in _ (by omega)).trans (by omega), by unfold wrap64; omega⟩
        obtain ⟨hwm1, hwm2⟩ := hwm
        have w1 : IntKind.i64.wrap d1 = d1 ∧ wrap64 d1 = d1 := ⟨IntWalk.i64_in _ (by omega), by unfold wrap64; omega⟩
        have w2 : IntKind.i64.wrap d2 = d2 ∧ wrap64 d2 = d2 := ⟨IntWalk.i64_in _ (by omega), by unfold wrap64; omega⟩
        have w3 : IntKind.i64.wrap d3 = d3 ∧ wrap64 d3 = d3 := ⟨IntWalk.i64_in _ (by omega), by unfold wrap64; omega⟩
        have w4 : IntKind.i64.wrap P = P ∧ wrap64 P = P := ⟨IntWalk.i64_in _ (by omega), by unfold wrap64; omega⟩
        have w5 : IntKind.i64.wrap (x2 + q) = x2 + q ∧ wrap64 (x2 + q) = x2 + q := ⟨IntWalk.i64_in _ (by have := hxi.2; simp only [] at this; omega), by have := hxi.2; simp only [] at this; unfold wrap64; omega⟩
        obtain ⟨w1a, w1b⟩ := w1
        obtain ⟨w2a, w2b⟩ := w2
        obtain ⟨w3a, w3b⟩ := w3
        obtain ⟨w4a, w4b⟩ := w4
        obtain ⟨w5a, w5b⟩ := w5
        clear b1 b2 b3 b4 b5 n5 n6 hgr hst hxi hyi hX hY hin hb hok h hi
        go_enter Tryd.func27, Tryd.ntmps27
        go_wp2_with fail
        refine HP.out.mono ?_
        rintro e w1 ⟨rfl, hb1⟩
        have HB1 := Lib.hid hb1
        clear hb1 HP
        go_wp2_with fail
        refine (HS.out _).mono ?_
        rintro e w2 ⟨rfl, rfl⟩
        clear HS
        go_wp2
        go_loopg [7] (m - 1) (fun gh v wx => ∃ k : Nat, 1 ≤ k ∧ k ≤ m ∧ gh = m - k ∧ v = .int .i64 (k : Int) ∧ (∀ j, 1 ≤ j → j < k → (pAt l j).1 < b) ∧ Below w.heap.size w wx)
        case atStart => exact ⟨1, Nat.le_refl _, HM.out, rfl, rfl, fun j h1 h2 => by omega, HB1.out⟩
        case round =>
          obtain ⟨k, hk1, hk, rfl, rfl, hall, hbel⟩ := hrel
          have HA := Lib.hid hall
          have HB := Lib.hid hbel
          clear hall HB1
          obtain ⟨bb, off, rfl, hb, hc⟩ := prCellsI (b := 0) (off := 0) (HI.out _ hbel) (by omega)
          obtain ⟨x0, x0'⟩ := hc i (by omega)
          obtain ⟨y0, y0'⟩ := hc (i + 1) (by omega)
          rw [pAt_eq, HXX.out] at x0 x0'
          rw [pAt_eq, HYY.out] at y0 y0'
          simp only [] at x0 x0' y0 y0'
          by_cases hlt : k < m
          · have hd : decide (k < m) = true := by simp; omega
            have hd' : decide ((k : Int) < (m : Int)) = true := by simp; omega
            have hd2 : decide (k < l.length) = true := by simp; omega
            have hd2' : decide ((k : Int) < (l.length : Int)) = true := by simp; omega
            obtain ⟨c0, c1⟩ := hc k (by omega)
            obtain ⟨x, y, hx1, hx2⟩ := pair_at (l := l) (k := k) (by omega)
            rw [hx1] at c0 c1
            simp only [] at c0 c1
            by_cases hs : x < b
            · have d2 : decide (x < b) = true := by simpa using hs
              have HR := Lib.hid (show ∀ j, 1 ≤ j → j < k + 1 → (pAt l j).1 < b from fun j h1 h2 => by
                rcases Nat.lt_or_ge j k with h3 | h3
                · exact HA.out j h1 h3
                · rw [show j = k by omega, hx2]; exact hs)
              clear hs hx1 hx2 hc hbel HA HSTOP HLAST HXX HYY HG HF
              go_wp2
              go_roundg (m - (k + 1))
              case measure => omega
              case rel => exact ⟨k + 1, by omega, by omega, rfl, by go_num, HR.out, HB.out⟩
            · have d2 : decide (x < b) = false := by simpa using hs
              obtain rfl : k = i + 1 := HSTOP.out k hk1 (by omega) HA.out (by rw [hx2]; first | exact hs | (show b ≤ x; omega))
              have e12 := HYY.out.symm.trans hx2
              injection e12 with e1 e2
              subst e1 e2
              clear hs hx1 hx2 hc hbel HA HSTOP HLAST HXX HYY c0 c1
              have hi1 : decide (i < l.length) = true := by simp; omega
              have hi2 : decide ((i : Int) < (l.length : Int)) = true := by simp; omega
              have hi3 : decide (i + 1 < l.length) = true := by simp; omega
              have hi4 : decide ((i : Int) + 1 < (l.length : Int)) = true := by simp; omega
              have hw1 : IntKind.i64.wrap (((i + 1 : Nat) : Int) - 1) = (i : Int) := (IntWalk.i64_in _ (by omega)).trans (by omega)
              have hw2 : IntKind.i64.wrap ((i : Int) + 1 - 1) = (i : Int) := (IntWalk.i64_in _ (by omega)).trans (by omega)
              have hw3 : wrap64 ((i : Int) + 1 - 1) = (i : Int) := by unfold wrap64; omega
              have S1 := Lib.hid (show St w ((wr.alloc (.cells (prL x1 x2).toArray 32)).alloc (.cells (prL y1 y2).toArray 32)) [boxT (wr.heap.size + 1) (prL y1 y2), boxT wr.heap.size (prL x1 x2)] from by
                have hh := (((St.start w).more HB.out).made (prL x1 x2) 32).made (prL y1 y2) 32
                simpa using hh)
              have hbb : bb < wr.heap.size := Nat.lt_of_lt_of_le hb HB.out.size
              go_upto_region 9 with fail
              generalize wr.heap.size = g at *
              generalize (wr.alloc (.cells #[.int .i64 x1, .int .i64 x2] 32)).alloc (.cells #[.int .i64 y1, .int .i64 y2] 32) = w3 at *
              have k0 := (S1.out.box 1 _ _ rfl).cell 0 (by simp)
              have k1 := (S1.out.box 1 _ _ rfl).cell 1 (by simp)
              have k2 := (S1.out.box 0 _ _ rfl).cell 0 (by simp)
              have k3 := (S1.out.box 0 _ _ rfl).cell 1 (by simp)
              go_quiet ((go_at_call 40; exact Calls.quiet_of_same ((HF.out _).mono fun _ _ h => ⟨h.1, h.2.symm⟩)))
              go_wp2
              go_ret2
              exact ⟨by rw [HG.out]; rfl, S1.out.below.trans (below_draws (Below.refl _ _) _ |>.mono S1.out.below.size)⟩
          · have hd : decide (k < m) = false := by simp; omega
            have hd' : decide ((k : Int) < (m : Int)) = false := by simp; omega
            obtain rfl : k = i + 1 := HLAST.out k hk1 (by omega) HA.out
            clear hc hbel HA HSTOP HLAST HXX HYY
            have hi1 : decide (i < l.length) = true := by simp; omega
            have hi2 : decide ((i : Int) < (l.length : Int)) = true := by simp; omega
            have hi3 : decide (i + 1 < l.length) = true := by simp; omega
            have hi4 : decide ((i : Int) + 1 < (l.length : Int)) = true := by simp; omega
            have hw1 : IntKind.i64.wrap (((i + 1 : Nat) : Int) - 1) = (i : Int) := (IntWalk.i64_in _ (by omega)).trans (by omega)
            have hw2 : IntKind.i64.wrap ((i : Int) + 1 - 1) = (i : Int) := (IntWalk.i64_in _ (by omega)).trans (by omega)
            have hw3 : wrap64 ((i : Int) + 1 - 1) = (i : Int) := by unfold wrap64; omega
            have S1 := Lib.hid (show St w ((wr.alloc (.cells (prL x1 x2).toArray 32)).alloc (.cells (prL y1 y2).toArray 32)) [boxT (wr.heap.size + 1) (prL y1 y2), boxT wr.heap.size (prL x1 x2)] from by
              have hh := (((St.start w).more HB.out).made (prL x1 x2) 32).made (prL y1 y2) 32
              simpa using hh)
            have hbb : bb < wr.heap.size := Nat.lt_of_lt_of_le hb HB.out.size
            go_upto_region 9 with fail
            generalize wr.heap.size = g at *
            generalize (wr.alloc (.cells #[.int .i64 x1, .int .i64 x2] 32)).alloc (.cells #[.int .i64 y1, .int .i64 y2] 32) = w3 at *
            have k0 := (S1.out.box 1 _ _ rfl).cell 0 (by simp)
            have k1 := (S1.out.box 1 _ _ rfl).cell 1 (by simp)
            have k2 := (S1.out.box 0 _ _ rfl).cell 0 (by simp)
            have k3 := (S1.out.box 0 _ _ rfl).cell 1 (by simp)
            go_quiet ((go_at_call 40; exact Calls.quiet_of_same ((HF.out _).mono fun _ _ h => ⟨h.1, h.2.symm⟩)))
            go_wp2
            go_ret2
            exact ⟨by rw [HG.out]; rfl, S1.out.below.trans (below_draws (Below.refl _ _) _ |>.mono S1.out.below.size)⟩
      · rw [decide_eq_false hb] at hS
        have HS := Lib.hid hS
        have HV := Lib.hid (show gueR l b = (0, false) from if_neg (fun h => hb h.2.2))
        clear hb hok h hS
        go_enter Tryd.func27, Tryd.ntmps27
        go_wp2_with fail
        refine HP.out.mono ?_
        rintro e w1 ⟨rfl, hb1⟩
        have HB := Lib.hid hb1
        clear hb1
        go_wp2_with fail
        refine (HS.out _).mono ?_
        rintro e w2 ⟨rfl, rfl⟩
        go_wp2
        go_ret2
        exact ⟨by rw [HV.out]; rfl, HB.out⟩
    · have dn : decide (l.length < 2) = true := by simp; omega
      have dn' : decide ((l.length : Int) < 2) = true := by simp; omega
      have HV := Lib.hid (show gueR l b = (0, false) from if_neg (fun h => hn h.2.1))
      clear hn hok h
      go_enter Tryd.func27, Tryd.ntmps27
      go_wp2_with fail
      refine HP.out.mono ?_
      rintro e w1 ⟨rfl, hb1⟩
      have HB := Lib.hid hb1
      clear hb1
      go_wp2
      go_ret2
      exact ⟨by rw [HV.out]; rfl, HB.out⟩
  · rw [decide_eq_false hok] at hP
    have HP := Lib.hid hP
    have HV := Lib.hid (show gueR l b = (0, false) from if_neg (fun h => hok h.1))
    clear hok h hP
    go_enter Tryd.func27, Tryd.ntmps27
    go_wp2_with fail
    refine HP.out.mono ?_
    rintro e w1 ⟨rfl, hb1⟩
    have HB := Lib.hid hb1
    clear hb1
    go_wp2
    go_ret2
    exact ⟨by rw [HV.out]; rfl, HB.out⟩

end Go.Proofs.YtggfmimnmpanbaaDoor
