/- What this text proves: the contracts of the program's and the model's RateOf. -/
import Derived.Test.YtggfmimnmpanbaaDoorGue
namespace Go.Proofs.YtggfmimnmpanbaaDoor
open Go.ChangeShapes Go.WideShapes Go.ChangeAt Go.RowKit
set_option linter.unusedVariables false

theorem rat_nums {x1 x2 y1 y2 : Int} (hx : PrIn (x1, x2)) (hy : PrIn (y1, y2)) (h1 : x1 < y1) (h2 : x2 < y2) :
    ∃ d1 d2 d3 P q, y1 - x1 = d1 ∧ y2 - x2 = d2 ∧ d1 - d2 = d3 ∧ d3 * 1000 = P ∧ P / d2 = q ∧ (0 < d1 ∧ d1 ≤ 2000000) ∧ (0 < d2 ∧ d2 ≤ 1000000) ∧ (-1000000 ≤ d3 ∧ d3 ≤ 2000000) ∧ (-2000000000 ≤ P ∧ P ≤ 2000000000) ∧ ratV (x1, x2) (y1, y2) = q := by
  obtain ⟨⟨a1, a2⟩, a3, a4⟩ := hx
  obtain ⟨⟨b1, b2⟩, b3, b4⟩ := hy
  simp only [] at a1 a2 a3 a4 b1 b2 b3 b4
  exact ⟨_, _, _, _, _, rfl, rfl, rfl, rfl, rfl, by omega, by omega, by omega, by omega, rfl⟩
set_option maxRecDepth 20000 in
set_option maxHeartbeats 4000000 in
theorem rat_impl (A : Option Addr) (l : List Pr) (c : Nat) (hl : l.length ≤ 2000000) (w : World) (hv : Bfr w) (h : LsI 2 w w.heap.size A (l.map prC)) :
    Calls Tryd.prog 16 #[.slice A l.length c] w fun e w' => e = .returned (guV (ratR l)) ∧ Below w.heap.size w w' := by
  have hP := pok_impl A l c hl w hv h
  by_cases hok : PrsOk l
  · rw [decide_eq_true hok] at hP
    have HP := Lib.hid hP
    clear hP
    by_cases hn : 2 ≤ l.length
    · have dn : decide (l.length < 2) = false := by simp; omega
      have dn' : decide ((l.length : Int) < 2) = false := by simp; omega
      obtain ⟨m, hm⟩ : ∃ m, m + 1 = l.length := ⟨l.length - 1, by omega⟩
      obtain ⟨⟨x1, x2⟩, hX⟩ : ∃ X, pAt l 0 = X := ⟨_, rfl⟩
      obtain ⟨⟨y1, y2⟩, hY⟩ : ∃ X, pAt l m = X := ⟨_, rfl⟩
      have hxi := hok.at (k := 0) (by omega)
      have hyi := hok.at (k := m) (by omega)
      have hst := hok.asc (i := 0) (j := m) (by omega) (by omega)
      rw [hX] at hxi hst
      rw [hY] at hyi hst
      have hgr : ratR l = (ratV (x1, x2) (y1, y2), true) := by unfold ratR; rw [if_pos ⟨hok, hn⟩, hX, show l.length - 1 = m by omega, hY]
      obtain ⟨d1, d2, d3, P, q, n1, n2, n3, n4, n5, b1, b2, b3, b4, n6⟩ := rat_nums hxi hyi hst.1 hst.2
      rw [n6] at hgr
      have HG := Lib.hid hgr
      have HF := Lib.hid (fun W => (fl_impl P d2 b2.1 (by omega) W).mono fun e w' h => (show e = .returned (.int .i64 q) ∧ W = w' from ⟨by rw [h.1, n5], h.2⟩))
      have hwm : IntKind.i64.wrap ((l.length : Int) - 1) = (m : Int) ∧ wrap64 ((l.length : Int) - 1) = (m : Int) := ⟨(IntWalk.i64_in _ (by omega)).trans (by omega), by unfold wrap64; omega⟩
      obtain ⟨hwm1, hwm2⟩ := hwm
      have hi1 : decide (m < l.length) = true := by simp; omega
      have hi2 : decide ((m : Int) < (l.length : Int)) = true := by simp; omega
      have hq1 : m < l.length := by omega
      have hq0 : 0 < l.length := by omega
      have hi3 : decide (0 < l.length) = true := by simp; omega
      have hi4 : decide ((0 : Int) < (l.length : Int)) = true := by simp; omega
      obtain ⟨bb, off, rfl, hb, hc⟩ := prCellsI (b := 0) (off := 0) h (by omega)
      obtain ⟨x0, x0'⟩ := hc 0 (by omega)
      obtain ⟨y0, y0'⟩ := hc m (by omega)
      rw [pAt_eq, hX, Nat.zero_mul, Nat.add_zero] at x0 x0'
      rw [pAt_eq, hY] at y0 y0'
      simp only [] at x0 x0' y0 y0'
      have HXC := Lib.hid (fun W (hW : Below w.heap.size w W) => (show W.cell? ⟨bb, off, none⟩ = some (.int .i64 x1) ∧ W.cell? ⟨bb, off + 1, none⟩ = some (.int .i64 x2) ∧ W.cell? ⟨bb, off + m * 2, none⟩ = some (.int .i64 y1) ∧ W.cell? ⟨bb, off + m * 2 + 1, none⟩ = some (.int .i64 y2) from ⟨(hW.cell (p := ⟨bb, off, none⟩) hb).trans x0, (hW.cell (p := ⟨bb, off + 1, none⟩) hb).trans x0', (hW.cell (p := ⟨bb, off + m * 2, none⟩) hb).trans y0, (hW.cell (p := ⟨bb, off + m * 2 + 1, none⟩) hb).trans y0'⟩))
      clear x0 x0' y0 y0'
      have w1 : IntKind.i64.wrap d1 = d1 ∧ wrap64 d1 = d1 := ⟨IntWalk.i64_in _ (by omega), by unfold wrap64; omega⟩
      have w2 : IntKind.i64.wrap d2 = d2 ∧ wrap64 d2 = d2 := ⟨IntWalk.i64_in _ (by omega), by unfold wrap64; omega⟩
      have w3 : IntKind.i64.wrap d3 = d3 ∧ wrap64 d3 = d3 := ⟨IntWalk.i64_in _ (by omega), by unfold wrap64; omega⟩
      have w4 : IntKind.i64.wrap P = P ∧ wrap64 P = P := ⟨IntWalk.i64_in _ (by omega), by unfold wrap64; omega⟩
      obtain ⟨w1a, w1b⟩ := w1
      obtain ⟨w2a, w2b⟩ := w2
      obtain ⟨w3a, w3b⟩ := w3
      obtain ⟨w4a, w4b⟩ := w4
      clear b1 b2 b3 b4 n5 n6 hgr hst hxi hyi hX hY hok h hc hm
      clear hv
      go_enter Tryd.func16, Tryd.ntmps16
      go_wp2_with fail
      refine HP.out.mono ?_
      rintro e w1 ⟨rfl, hb1⟩
      have S1 := Lib.hid ((St.start w).more hb1)
      obtain ⟨x0, x0', y0, y0'⟩ := HXC.out _ hb1
      have hbb : bb < w1.heap.size := Nat.lt_of_lt_of_le hb hb1.size
      clear hb1 HP HXC
      go_upto_region 3 with fail
      go_cut [4, 5] from 16 to 24 (fun s4 s5 wx => ∃ g4 g5 : Nat, s4 = .pointer (some ⟨g4, 0, none⟩) ∧ s5 = .pointer (some ⟨g5, 0, none⟩) ∧ St w wx [boxT g4 (prL x1 x2), boxT g5 (prL y1 y2)])
      case first =>
        have Y1 : St w ((w1.alloc (.cells (prL x1 x2).toArray 32)).alloc (.cells (prL y1 y2).toArray 32)).drew [boxT (w1.heap.size + 1) (prL y1 y2), boxT w1.heap.size (prL x1 x2)] := by
          have hh := ((S1.out.made (prL x1 x2) 32).made (prL y1 y2) 32).drew
          simpa using hh
        have Y2 : St w ((w1.alloc (.cells (prL y1 y2).toArray 32)).alloc (.cells (prL x1 x2).toArray 32)).drew [boxT (w1.heap.size + 1) (prL x1 x2), boxT w1.heap.size (prL y1 y2)] := by
          have hh := ((S1.out.made (prL y1 y2) 32).made (prL x1 x2) 32).drew
          simpa using hh
        go_region
        all_goals go_wp2_with fail
        all_goals go_meet
        all_goals (first | exact ⟨_, _, rfl, rfl, Y1.pick [1, 0] (by decide)⟩ | exact ⟨_, _, rfl, rfl, Y2.pick [0, 1] (by decide)⟩)
      case rest =>
        obtain ⟨g4, g5, rfl, rfl, hT⟩ := hcut
        generalize wc = w3 at *
        have S3 := Lib.hid hT
        have k0 := (hT.box 0 _ _ rfl).cell 0 (by simp)
        have k1 := (hT.box 0 _ _ rfl).cell 1 (by simp)
        have k2 := (hT.box 1 _ _ rfl).cell 0 (by simp)
        have k3 := (hT.box 1 _ _ rfl).cell 1 (by simp)
        clear hT S1 x0 x0' y0 y0'
        go_wp2_with fail
        go_quiet (fail)
        go_wp2_with fail
        refine (HF.out _).mono ?_
        rintro e w5 ⟨rfl, rfl⟩
        go_wp2
        go_ret2
        exact ⟨by rw [HG.out]; rfl, S3.out.below.trans (below_draws (Below.refl _ _) _ |>.mono S3.out.below.size)⟩
    · have dn : decide (l.length < 2) = true := by simp; omega
      have dn' : decide ((l.length : Int) < 2) = true := by simp; omega
      have HV := Lib.hid (show ratR l = (0, false) from if_neg (fun h => hn h.2))
      clear hn hok h hv
      go_enter Tryd.func16, Tryd.ntmps16
      go_wp2_with fail
      refine HP.out.mono ?_
      rintro e w1 ⟨rfl, hb1⟩
      have HB := Lib.hid hb1
      clear hb1
      go_wp2
      go_ret2
      exact ⟨by rw [HV.out]; rfl, HB.out⟩
  · rw [decide_eq_false hok] at hP
    have HP := Lib.hid hP
    have HV := Lib.hid (show ratR l = (0, false) from if_neg (fun h => hok h.1))
    clear hok h hv hP
    go_enter Tryd.func16, Tryd.ntmps16
    go_wp2_with fail
    refine HP.out.mono ?_
    rintro e w1 ⟨rfl, hb1⟩
    have HB := Lib.hid hb1
    clear hb1
    go_wp2
    go_ret2
    exact ⟨by rw [HV.out]; rfl, HB.out⟩


set_option maxRecDepth 20000 in
set_option maxHeartbeats 4000000 in
theorem rat_spec (A : Option Addr) (l : List Pr) (c : Nat) (hl : l.length ≤ 2000000) (w : World) (h : LsI 2 w w.heap.size A (l.map prC)) :
    Calls Tryd.prog 28 #[.slice A l.length c] w fun e w' => e = .returned (guV (ratR l)) ∧ Below w.heap.size w w' := by
  have hP := pok_spec A l c hl w h
  by_cases hok : PrsOk l
  · rw [decide_eq_true hok] at hP
    have HP := Lib.hid hP
    clear hP
    by_cases hn : 2 ≤ l.length
    · have dn : decide (l.length < 2) = false := by simp; omega
      have dn' : decide ((l.length : Int) < 2) = false := by simp; omega
      obtain ⟨m, hm⟩ : ∃ m, m + 1 = l.length := ⟨l.length - 1, by omega⟩
      obtain ⟨⟨x1, x2⟩, hX⟩ : ∃ X, pAt l 0 = X := ⟨_, rfl⟩
      obtain ⟨⟨y1, y2⟩, hY⟩ : ∃ X, pAt l m = X := ⟨_, rfl⟩
      have hxi := hok.at (k := 0) (by omega)
      have hyi := hok.at (k := m) (by omega)
      have hst := hok.asc (i := 0) (j := m) (by omega) (by omega)
      rw [hX] at hxi hst
      rw [hY] at hyi hst
      have hgr : ratR l = (ratV (x1, x2) (y1, y2), true) := by unfold ratR; rw [if_pos ⟨hok, hn⟩, hX, show l.length - 1 = m by omega, hY]
      obtain ⟨d1, d2, d3, P, q, n1, n2, n3, n4, n5, b1, b2, b3, b4, n6⟩ := rat_nums hxi hyi hst.1 hst.2
      rw [n6] at hgr
      have HG := Lib.hid hgr
      have HF := Lib.hid (fun W => (fl_spec P d2 b2.1 (by omega) W).mono fun e w' h => (show e = .returned (.int .i64 q) ∧ W = w' from ⟨by rw [h.1, n5], h.2⟩))
      have hwm : IntKind.i64.wrap ((l.length : Int) - 1) = (m : Int) ∧ wrap64 ((l.length : Int) - 1) = (m : Int) := ⟨(IntWalk.i64_in _ (by omega)).trans (by omega), by unfold wrap64; omega⟩
      obtain ⟨hwm1, hwm2⟩ := hwm
      have hi1 : decide (m < l.length) = true := by simp; omega
      have hi2 : decide ((m : Int) < (l.length : Int)) = true := by simp; omega
      have hq1 : m < l.length := by omega
      have hq0 : 0 < l.length := by omega
      have hi3 : decide (0 < l.length) = true := by simp; omega
      have hi4 : decide ((0 : Int) < (l.length : Int)) = true := by simp; omega
      obtain ⟨bb, off, rfl, hb, hc⟩ := prCellsI (b := 0) (off := 0) h (by omega)
      obtain ⟨x0, x0'⟩ := hc 0 (by omega)
      obtain ⟨y0, y0'⟩ := hc m (by omega)
      rw [pAt_eq, hX, Nat.zero_mul, Nat.add_zero] at x0 x0'
      rw [pAt_eq, hY] at y0 y0'
      simp only [] at x0 x0' y0 y0'
      have HXC := Lib.hid (fun W (hW : Below w.heap.size w W) => (show W.cell? ⟨bb, off, none⟩ = some (.int .i64 x1) ∧ W.cell? ⟨bb, off + 1, none⟩ = some (.int .i64 x2) ∧ W.cell? ⟨bb, off + m * 2, none⟩ = some (.int .i64 y1) ∧ W.cell? ⟨bb, off + m * 2 + 1, none⟩ = some (.int .i64 y2) from ⟨(hW.cell (p := ⟨bb, off, none⟩) hb).trans x0, (hW.cell (p := ⟨bb, off + 1, none⟩) hb).trans x0', (hW.cell (p := ⟨bb, off + m * 2, none⟩) hb).trans y0, (hW.cell (p := ⟨bb, off + m * 2 + 1, none⟩) hb).trans y0'⟩))
      clear x0 x0' y0 y0'
      have w1 : IntKind.i64.wrap d1 = d1 ∧ wrap64 d1 = d1 := ⟨IntWalk.i64_in _ (by omega), by unfold wrap64; omega⟩
      have w2 : IntKind.i64.wrap d2 = d2 ∧ wrap64 d2 = d2 := ⟨IntWalk.i64_in _ (by omega), by unfold wrap64; omega⟩
      have w3 : IntKind.i64.wrap d3 = d3 ∧ wrap64 d3 = d3 := ⟨IntWalk.i64_in _ (by omega), by unfold wrap64; omega⟩
      have w4 : IntKind.i64.wrap P = P ∧ wrap64 P = P := ⟨IntWalk.i64_in _ (by omega), by unfold wrap64; omega⟩
      obtain ⟨w1a, w1b⟩ := w1
      obtain ⟨w2a, w2b⟩ := w2
      obtain ⟨w3a, w3b⟩ := w3
      obtain ⟨w4a, w4b⟩ := w4
      clear b1 b2 b3 b4 n5 n6 hgr hst hxi hyi hX hY hok h hc hm
      go_enter Tryd.func28, Tryd.ntmps28
      go_wp2_with fail
      refine HP.out.mono ?_
      rintro e w1 ⟨rfl, hb1⟩
      have HB := Lib.hid hb1
      obtain ⟨x0, x0', y0, y0'⟩ := HXC.out _ hb1
      have hbb : bb < w1.heap.size := Nat.lt_of_lt_of_le hb hb1.size
      clear hb1 HP
      go_upto_region 4 with fail
      go_cut [5] from 15 to 25 (fun s5 wx => s5 = .int .i64 d2 ∧ Below w.heap.size w wx)
      case first =>
        go_quiet (fail)
        go_wp2
        go_meet
        exact ⟨rfl, HB.out.trans ((below_draws (Below.refl _ _) _).mono HB.out.size)⟩
      case rest =>
        obtain ⟨rfl, hB⟩ := hcut
        generalize wc = w2 at *
        obtain ⟨u0, u0', v0, v0'⟩ := HXC.out _ hB
        have hbb2 : bb < w2.heap.size := Nat.lt_of_lt_of_le hb hB.size
        have HB2 := Lib.hid hB
        clear hB HB x0 x0' y0 y0' HXC
        go_upto_region 5 with fail
        go_quiet ((go_at_call 40; exact Calls.quiet_of_same ((HF.out _).mono fun _ _ h => ⟨h.1, h.2.symm⟩)))
        go_wp2
        go_ret2
        exact ⟨by rw [HG.out]; rfl, HB2.out.trans ((below_draws (Below.refl _ _) _).mono HB2.out.size)⟩
    · have dn : decide (l.length < 2) = true := by simp; omega
      have dn' : decide ((l.length : Int) < 2) = true := by simp; omega
      have HV := Lib.hid (show ratR l = (0, false) from if_neg (fun h => hn h.2))
      clear hn hok h
      go_enter Tryd.func28, Tryd.ntmps28
      go_wp2_with fail
      refine HP.out.mono ?_
      rintro e w1 ⟨rfl, hb1⟩
      have HB := Lib.hid hb1
      clear hb1
      go_wp2
      go_ret2
      exact ⟨by rw [HV.out]; rfl, HB.out⟩
  · rw [decide_eq_false hok] at hP
    have HP := Lib.hid hP
    have HV := Lib.hid (show ratR l = (0, false) from if_neg (fun h => hok h.1))
    clear hok h hP
    go_enter Tryd.func28, Tryd.ntmps28
    go_wp2_with fail
    refine HP.out.mono ?_
    rintro e w1 ⟨rfl, hb1⟩
    have HB := Lib.hid hb1
    clear hb1
    go_wp2
    go_ret2
    exact ⟨by rw [HV.out]; rfl, HB.out⟩

end Go.Proofs.YtggfmimnmpanbaaDoor
