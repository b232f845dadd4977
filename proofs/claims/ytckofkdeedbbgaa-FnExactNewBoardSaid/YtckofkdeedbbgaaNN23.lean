/- What this text proves: the parts IBo of the proof, each under its own words. -/
import Derived.Test.YtckofkdeedbbgaaNN22
import Derived.BigQuiet
/- What this text proves: the contract of the program's ordersOk. -/
namespace Go.Proofs.Ytckofkdeedbbgaa
open Go.ChangeShapes Go.WideShapes Go.ChangeAt Go.RowKit
set_option linter.unusedVariables false

set_option maxRecDepth 20000 in
set_option maxHeartbeats 4000000 in
theorem ord_impl (A : Option Addr) (l : List Wt) (c : Nat) (T : Int) (hT : 0 ≤ T ∧ T ≤ 65535) (hl : l.length ≤ 2000000) (w : World) (h : LsI 5 w w.heap.size A (l.map wtC)) :
    Calls Try.prog 64 #[.slice A l.length c, .int .i64 T] w fun e w' => e = .returned (.bool (ordB T l)) ∧ Below w.heap.size w w' := by
  have HI := Lib.hid (fun W (hb : Below w.heap.size w W) => h.more hb)
  have HY := Lib.hid (fun h => ordB_yes (T := T) (l := l) h)
  have HN := Lib.hid (fun h => ordB_no (T := T) (l := l) h)
  have HP := Lib.hid (fun W (hb : Below w.heap.size w W) num => plc_impl A l c num hl W (h.full hb))
  have hw : IntKind.i64.wrap (T - 1) = T - 1 := IntWalk.i64_in _ (by omega)
  clear h
  by_cases h40 : l.length ≤ 40
  · have d40 : decide (40 < l.length) = false := by simp; omega
    have d40' : decide ((40 : Int) < (l.length : Int)) = false := by simp; omega
    go_enter Try.func64, Try.ntmps64
    go_wp2
    go_loopg [12] l.length (fun gh v8 wx => ∃ k : Nat, k ≤ l.length ∧ gh = l.length - k ∧ v8 = .int .i64 (k : Int) ∧ OrdTo T l k ∧ Below w.heap.size w wx)
    case atStart => exact ⟨0, by omega, rfl, rfl, OrdTo.zero T l, Below.refl _ _⟩
    case round =>
      obtain ⟨k, hk, rfl, rfl, hall, hbel⟩ := hrel
      have HA := Lib.hid hall
      have HB := Lib.hid hbel
      clear hall
      by_cases hlt : k < l.length
      · have hd : decide (k < l.length) = true := by simp; omega
        have hd' : decide ((k : Int) < (l.length : Int)) = true := by simp; omega
        obtain ⟨bb, off, rfl, hb, hcl⟩ := wtCellsI (b := 0) (off := 0) (HI.out _ hbel) (by omega)
        obtain ⟨c0, c1, c2, c3, c4⟩ := hcl k hlt
        have HCL := Lib.hid hcl
        have HF := Lib.hid (show ¬ OrdAt T l k hlt → ordB T l = false from fun h => HN.out (fun hh => h (hh.2 k hlt hlt)))
        have HS := Lib.hid (show OrdAt T l k hlt → OrdTo T l (k + 1) from fun h => HA.out.succ hlt h)
        have HAT := Lib.hid (show OrdAt T l k hlt ↔ (OrOk l[k].2.1 l[k].2.2.1 l[k].2.2.2.1 l[k].2.2.2.2 ∧ (0 ≤ l[k].1 ∧ l[k].1 ≤ T - 1) ∧ (∀ j (hj : j < k), l[j].1 ≠ l[k].1) ∧ (∀ m (hm : m + 1 = k), bef l[m] l[k])) from Iff.rfl)
        have HPK := Lib.hid (fun W (hb : Below w.heap.size w W) => (HP.out W hb l[k].1).mono fun e w' h => (show ∃ i, e = .returned (.int .i64 i) ∧ (i = (k : Int) ↔ ∀ j (hj : j < k), l[j].1 ≠ l[k].1) ∧ Below W.heap.size W w' from h.imp fun i hi => ⟨hi.1, hi.2.1.own, hi.2.2⟩))
        clear hcl HA
        obtain ⟨q, hq⟩ : ∃ q, q = OrdAt T l k hlt := ⟨_, rfl⟩
        rw [← hq] at HF HS HAT
        clear hq
        rcases k with _ | m
        · have HU : ∀ j (hj : j < 0), l[j].1 ≠ l[0].1 := fun j hj => absurd hj (Nat.not_lt_zero _)
          have HVV : ∀ m (hm : m + 1 = 0), bef l[m] l[0] := fun m hm => absurd hm (by omega)
          have HAT := Lib.hid (show q ↔ OrOk l[0].2.1 l[0].2.2.1 l[0].2.2.2.1 l[0].2.2.2.2 ∧ (0 ≤ l[0].1 ∧ l[0].1 ≤ T - 1) from HAT.out.trans ⟨fun h => ⟨h.1, h.2.1⟩, fun h => ⟨h.1, h.2, HU, HVV⟩⟩)
          have HPK := Lib.hid (fun W (hb : Below w.heap.size w W) => (HPK.out W hb).mono fun e w' h => (show e = .returned (.int .i64 0) ∧ Below W.heap.size W w' from h.elim fun i hi => ⟨by rw [hi.1, hi.2.1.2 HU]; rfl, hi.2.2⟩))
          rw [Nat.zero_mul, Nat.add_zero] at c0 c1 c2 c3 c4
          clear HU HVV HCL
          generalize l[0].1 = x0 at *
          generalize l[0].2.1 = x1 at *
          generalize l[0].2.2.1 = x2 at *
          generalize l[0].2.2.2.1 = x3 at *
          generalize l[0].2.2.2.2 = x4 at *
          have HF1 := Lib.hid (Fit.made wr [.int .i64 x0, .int .i64 x1, .int .i64 x2, .int .i64 x3, .int .i64 x4] 43)
          have B0 := Box.made wr [.int .i64 x0, .int .i64 x1, .int .i64 x2, .int .i64 x3, .int .i64 x4] 43 wr.heap.size rfl
          have k0 := B0.cell 0 (by simp)
          have k1 := B0.cell 1 (by simp)
          have k2 := B0.cell 2 (by simp)
          have k3 := B0.cell 3 (by simp)
          have k4 := B0.cell 4 (by simp)
          have HO := Lib.hid (fun W => or_impl x1 x2 x3 x4 W)
          have HN1 := Lib.hid (iw_any x0 0 (T - 1))
          clear B0 hbel
          by_cases g1 : OrOk x1 x2 x3 x4
          · rw [decide_eq_true g1] at HO
            by_cases g2 : 0 ≤ x0 ∧ x0 ≤ T - 1
            · rw [decide_eq_true g2] at HN1
              have HN2 := Lib.hid (HS.out (HAT.out.2 ⟨g1, g2⟩))
              have hd0 : decide ((0 : Int) < ((0 : Nat) : Int)) = false := rfl
              clear g1 g2
              go_wp2_with fail
              refine (HO.out _).mono ?_
              rintro e w2 ⟨rfl, hb2⟩
              have HF2 := Lib.hid (HF1.out.more hb2)
              have n0 := HF2.out.box.cell 0 (by simp)
              have HB2 := Lib.hid (HB.out.trans (HF2.out.below.mono HB.out.size))
              clear hb2 k0 k1 k2 k3 k4 c0 c1 c2 c3 c4
              go_wp2_with fail
              refine (HN1.out _).mono ?_
              rintro e w' ⟨rfl, rfl⟩
              go_wp2_with fail
              refine (HPK.out _ HB2.out).mono ?_
              rintro e w3 ⟨rfl, hb3⟩
              have HF3 := Lib.hid (HF2.out.more hb3)
              have HB3 := Lib.hid (HB.out.trans (HF3.out.below.mono HB.out.size))
              clear hb3 n0
              have hall : ∀ q : Prop, (InW (fun W => Below w3.heap.size w3 W) → q) ↔ q := fun q => ⟨fun h => h ⟨_, Below.refl _ _⟩, fun h _ => h⟩
              go_wp2
              refine wp_region_inW (fun W => Below w3.heap.size w3 W) (by kernel_rfl) (by kernel_rfl) (Below.refl _ _).drew ?_
              repeat (go_big_quiet_step (fail))
              refine wpQuiet_nil ?_
              rintro _ ⟨⟨W2, hW2⟩, rfl⟩
              have HB4 := Lib.hid (HB3.out.trans (hW2.mono HB3.out.size))
              clear hW2
              go_wp2
              go_roundg (l.length - (0 + 1))
              case measure => omega
              case rel => exact ⟨0 + 1, by omega, rfl, by go_num, HN2.out, HB4.out⟩
            · rw [decide_eq_false g2] at HN1
              have HV := Lib.hid (HF.out (fun h => g2 (HAT.out.1 h).2))
              clear g1 g2
              go_wp2_with fail
              refine (HO.out _).mono ?_
              rintro e w2 ⟨rfl, hb2⟩
              have HF2 := Lib.hid (HF1.out.more hb2)
              have n0 := HF2.out.box.cell 0 (by simp)
              have HB2 := Lib.hid (HB.out.trans (HF2.out.below.mono HB.out.size))
              clear hb2 k0 k1 k2 k3 k4 c0 c1 c2 c3 c4
              go_wp2_with fail
              refine (HN1.out _).mono ?_
              rintro e w' ⟨rfl, rfl⟩
              go_wp2
              go_ret
              exact ⟨by rw [HV.out]; rfl, HB2.out⟩
          · rw [decide_eq_false g1] at HO
            have HV := Lib.hid (HF.out (fun h => g1 (HAT.out.1 h).1))
            clear g1
            go_wp2_with fail
            refine (HO.out _).mono ?_
            rintro e w2 ⟨rfl, hb2⟩
            have HF2 := Lib.hid (HF1.out.more hb2)
            have n0 := HF2.out.box.cell 0 (by simp)
            have HB2 := Lib.hid (HB.out.trans (HF2.out.below.mono HB.out.size))
            clear hb2 k0 k1 k2 k3 k4 c0 c1 c2 c3 c4
            go_wp2
            go_ret
            exact ⟨by rw [HV.out]; rfl, HB2.out⟩
        · have hm : m < l.length := by omega
          obtain ⟨U, hU⟩ : ∃ U, U = ∀ j (hj : j < m + 1), l[j].1 ≠ l[m + 1].1 := ⟨_, rfl⟩
          have HAT := Lib.hid (show q ↔ OrOk l[m + 1].2.1 l[m + 1].2.2.1 l[m + 1].2.2.2.1 l[m + 1].2.2.2.2 ∧ (0 ≤ l[m + 1].1 ∧ l[m + 1].1 ≤ T - 1) ∧ U ∧ bef (l[m].1, l[m].2.1, l[m].2.2.1, l[m].2.2.2.1, l[m].2.2.2.2) (l[m + 1].1, l[m + 1].2.1, l[m + 1].2.2.1, l[m + 1].2.2.2.1, l[m + 1].2.2.2.2) from HAT.out.trans ⟨fun h => ⟨h.1, h.2.1, hU ▸ h.2.2.1, h.2.2.2 m rfl⟩, fun h => ⟨h.1, h.2.1, hU ▸ h.2.2.1, fun m' hm' => (by have e : m' = m := (by omega); subst e; exact h.2.2.2)⟩⟩)
          rw [← hU] at HPK
          clear hU
          have e := HCL.out m hm
          obtain ⟨e0, e1, e2, e3, e4⟩ := e
          have hw1 : IntKind.i64.wrap (((m + 1 : Nat) : Int) - 1) = (m : Int) := (IntWalk.i64_in _ (by omega)).trans (by omega)
          have hw2 : IntKind.i64.wrap ((m : Int) + 1 - 1) = (m : Int) := (IntWalk.i64_in _ (by omega)).trans (by omega)
          have hd0 : decide (0 < m + 1) = true := by simp
          have hd0' : decide ((0 : Int) < ((m + 1 : Nat) : Int)) = true := decide_eq_true (by omega)
          clear HCL
          generalize l[m].1 = y0 at *
          generalize l[m].2.1 = y1 at *
          generalize l[m].2.2.1 = y2 at *
          generalize l[m].2.2.2.1 = y3 at *
          generalize l[m].2.2.2.2 = y4 at *
          generalize l[m + 1].1 = x0 at *
          generalize l[m + 1].2.1 = x1 at *
          generalize l[m + 1].2.2.1 = x2 at *
          generalize l[m + 1].2.2.2.1 = x3 at *
          generalize l[m + 1].2.2.2.2 = x4 at *
          have HF1 := Lib.hid (Fit.made wr [.int .i64 x0, .int .i64 x1, .int .i64 x2, .int .i64 x3, .int .i64 x4] 43)
          have B0 := Box.made wr [.int .i64 x0, .int .i64 x1, .int .i64 x2, .int .i64 x3, .int .i64 x4] 43 wr.heap.size rfl
          have k0 := B0.cell 0 (by simp)
          have k1 := B0.cell 1 (by simp)
          have k2 := B0.cell 2 (by simp)
          have k3 := B0.cell 3 (by simp)
          have k4 := B0.cell 4 (by simp)
          have HO := Lib.hid (fun W => or_impl x1 x2 x3 x4 W)
          have HN1 := Lib.hid (iw_any x0 0 (T - 1))
          clear B0 hbel
          by_cases g1 : OrOk x1 x2 x3 x4
          · rw [decide_eq_true g1] at HO
            by_cases g2 : 0 ≤ x0 ∧ x0 ≤ T - 1
            · rw [decide_eq_true g2] at HN1
              by_cases g3 : U
              · have hbb : bb < wr.heap.size := Nat.lt_of_lt_of_le hb HB.out.size
                by_cases g4 : bef (y0, y1, y2, y3, y4) (x0, x1, x2, x3, x4)
                · have HBF := fun w3 (W : World) (hW : Below w3.heap.size w3 W) => (isB_impl y0 y1 y2 y3 y4 x0 x1 x2 x3 x4 W).mono fun e w' h => (show e = .returned (.bool true) ∧ Below w3.heap.size w3 w' from ⟨by rw [h.1, decide_eq_true g4], hW.trans (h.2.mono hW.size)⟩)
                  have HN2 := Lib.hid (HS.out (HAT.out.2 ⟨g1, g2, g3, g4⟩))
                  have HPK := Lib.hid (fun W (hb : Below w.heap.size w W) => (HPK.out W hb).mono fun e w' h => (show e = .returned (.int .i64 ((m + 1 : Nat) : Int)) ∧ Below W.heap.size W w' from h.elim fun i hi => ⟨by rw [hi.1, hi.2.1.2 g3], hi.2.2⟩))
                  have HE := Lib.hid (fun (W : World) (hW : Below wr.heap.size wr W) => (show _ ∧ _ ∧ _ ∧ _ ∧ _ from ⟨(hW.cell (p := ⟨bb, off + m * 5, none⟩) hbb).trans e0, (hW.cell (p := ⟨bb, off + m * 5 + 1, none⟩) hbb).trans e1, (hW.cell (p := ⟨bb, off + m * 5 + 2, none⟩) hbb).trans e2, (hW.cell (p := ⟨bb, off + m * 5 + 3, none⟩) hbb).trans e3, (hW.cell (p := ⟨bb, off + m * 5 + 4, none⟩) hbb).trans e4⟩))
                  clear g1 g2 g3 g4 e0 e1 e2 e3 e4
                  have HBF := Lib.hid HBF
                  go_wp2_with fail
                  refine (HO.out _).mono ?_
                  rintro e w2 ⟨rfl, hb2⟩
                  have HF2 := Lib.hid (HF1.out.more hb2)
                  have n0 := HF2.out.box.cell 0 (by simp)
                  have HB2 := Lib.hid (HB.out.trans (HF2.out.below.mono HB.out.size))
                  clear hb2 k0 k1 k2 k3 k4 c0 c1 c2 c3 c4
                  go_wp2_with fail
                  refine (HN1.out _).mono ?_
                  rintro e w' ⟨rfl, rfl⟩
                  go_wp2_with fail
                  refine (HPK.out _ HB2.out).mono ?_
                  rintro e w3 ⟨rfl, hb3⟩
                  have HF3 := Lib.hid (HF2.out.more hb3)
                  have HB3 := Lib.hid (HB.out.trans (HF3.out.below.mono HB.out.size))
                  clear hb3 n0
                  have HBF := Lib.hid (HBF.out w3)
                  have hall : ∀ q : Prop, (InW (fun W => Below w3.heap.size w3 W) → q) ↔ q := fun q => ⟨fun h => h ⟨_, Below.refl _ _⟩, fun h _ => h⟩
                  have e0 : ∀ p : InW (fun W => Below w3.heap.size w3 W), p.W.cell? ⟨bb, off + m * 5, none⟩ = some (.int .i64 y0) := fun p => (HE.out p.W (HF3.out.more p.ok).below).1
                  have n0 : ∀ p : InW (fun W => Below w3.heap.size w3 W), p.W.cell? ⟨wr.heap.size, 0, none⟩ = some (.int .i64 x0) := fun p => (HF3.out.more p.ok).box.cell 0 (by simp)
                  have e1 : ∀ p : InW (fun W => Below w3.heap.size w3 W), p.W.cell? ⟨bb, off + m * 5 + 1, none⟩ = some (.int .i64 y1) := fun p => (HE.out p.W (HF3.out.more p.ok).below).2.1
                  have n1 : ∀ p : InW (fun W => Below w3.heap.size w3 W), p.W.cell? ⟨wr.heap.size, 1, none⟩ = some (.int .i64 x1) := fun p => (HF3.out.more p.ok).box.cell 1 (by simp)
                  have e2 : ∀ p : InW (fun W => Below w3.heap.size w3 W), p.W.cell? ⟨bb, off + m * 5 + 2, none⟩ = some (.int .i64 y2) := fun p => (HE.out p.W (HF3.out.more p.ok).below).2.2.1
                  have n2 : ∀ p : InW (fun W => Below w3.heap.size w3 W), p.W.cell? ⟨wr.heap.size, 2, none⟩ = some (.int .i64 x2) := fun p => (HF3.out.more p.ok).box.cell 2 (by simp)
                  have e3 : ∀ p : InW (fun W => Below w3.heap.size w3 W), p.W.cell? ⟨bb, off + m * 5 + 3, none⟩ = some (.int .i64 y3) := fun p => (HE.out p.W (HF3.out.more p.ok).below).2.2.2.1
                  have n3 : ∀ p : InW (fun W => Below w3.heap.size w3 W), p.W.cell? ⟨wr.heap.size, 3, none⟩ = some (.int .i64 x3) := fun p => (HF3.out.more p.ok).box.cell 3 (by simp)
                  have e4 : ∀ p : InW (fun W => Below w3.heap.size w3 W), p.W.cell? ⟨bb, off + m * 5 + 4, none⟩ = some (.int .i64 y4) := fun p => (HE.out p.W (HF3.out.more p.ok).below).2.2.2.2
                  have n4 : ∀ p : InW (fun W => Below w3.heap.size w3 W), p.W.cell? ⟨wr.heap.size, 4, none⟩ = some (.int .i64 x4) := fun p => (HF3.out.more p.ok).box.cell 4 (by simp)
                  go_wp2
                  refine wp_region_inW (fun W => Below w3.heap.size w3 W) (by kernel_rfl) (by kernel_rfl) (Below.refl _ _).drew ?_
                  repeat (go_big_quiet_step ((go_at_call 127; exact calls_inW (C := (fun W => Below w3.heap.size w3 W)) (HBF.out _ (InW.ok (C := (fun W => Below w3.heap.size w3 W)) _)))))
                  refine wpQuiet_nil ?_
                  rintro _ ⟨⟨W2, hW2⟩, rfl⟩
                  have HB4 := Lib.hid (HB3.out.trans (hW2.mono HB3.out.size))
                  clear hW2
                  go_wp2
                  go_roundg (l.length - (m + 1 + 1))
                  case measure => omega
                  case rel => exact ⟨m + 1 + 1, by omega, rfl, by go_num, HN2.out, HB4.out⟩
                · have HBF := fun w3 (W : World) (hW : Below w3.heap.size w3 W) => (isB_impl y0 y1 y2 y3 y4 x0 x1 x2 x3 x4 W).mono fun e w' h => (show e = .returned (.bool false) ∧ Below w3.heap.size w3 w' from ⟨by rw [h.1, decide_eq_false g4], hW.trans (h.2.mono hW.size)⟩)
                  have HV := Lib.hid (HF.out (fun h => g4 (HAT.out.1 h).2.2.2))
                  have HPK := Lib.hid (fun W (hb : Below w.heap.size w W) => (HPK.out W hb).mono fun e w' h => (show e = .returned (.int .i64 ((m + 1 : Nat) : Int)) ∧ Below W.heap.size W w' from h.elim fun i hi => ⟨by rw [hi.1, hi.2.1.2 g3], hi.2.2⟩))
                  have HE := Lib.hid (fun (W : World) (hW : Below wr.heap.size wr W) => (show _ ∧ _ ∧ _ ∧ _ ∧ _ from ⟨(hW.cell (p := ⟨bb, off + m * 5, none⟩) hbb).trans e0, (hW.cell (p := ⟨bb, off + m * 5 + 1, none⟩) hbb).trans e1, (hW.cell (p := ⟨bb, off + m * 5 + 2, none⟩) hbb).trans e2, (hW.cell (p := ⟨bb, off + m * 5 + 3, none⟩) hbb).trans e3, (hW.cell (p := ⟨bb, off + m * 5 + 4, none⟩) hbb).trans e4⟩))
                  clear g1 g2 g3 g4 e0 e1 e2 e3 e4
                  have HBF := Lib.hid HBF
                  go_wp2_with fail
                  refine (HO.out _).mono ?_
                  rintro e w2 ⟨rfl, hb2⟩
                  have HF2 := Lib.hid (HF1.out.more hb2)
                  have n0 := HF2.out.box.cell 0 (by simp)
                  have HB2 := Lib.hid (HB.out.trans (HF2.out.below.mono HB.out.size))
                  clear hb2 k0 k1 k2 k3 k4 c0 c1 c2 c3 c4
                  go_wp2_with fail
                  refine (HN1.out _).mono ?_
                  rintro e w' ⟨rfl, rfl⟩
                  go_wp2_with fail
                  refine (HPK.out _ HB2.out).mono ?_
                  rintro e w3 ⟨rfl, hb3⟩
                  have HF3 := Lib.hid (HF2.out.more hb3)
                  have HB3 := Lib.hid (HB.out.trans (HF3.out.below.mono HB.out.size))
                  clear hb3 n0
                  have HBF := Lib.hid (HBF.out w3)
                  have hall : ∀ q : Prop, (InW (fun W => Below w3.heap.size w3 W) → q) ↔ q := fun q => ⟨fun h => h ⟨_, Below.refl _ _⟩, fun h _ => h⟩
                  have e0 : ∀ p : InW (fun W => Below w3.heap.size w3 W), p.W.cell? ⟨bb, off + m * 5, none⟩ = some (.int .i64 y0) := fun p => (HE.out p.W (HF3.out.more p.ok).below).1
                  have n0 : ∀ p : InW (fun W => Below w3.heap.size w3 W), p.W.cell? ⟨wr.heap.size, 0, none⟩ = some (.int .i64 x0) := fun p => (HF3.out.more p.ok).box.cell 0 (by simp)
                  have e1 : ∀ p : InW (fun W => Below w3.heap.size w3 W), p.W.cell? ⟨bb, off + m * 5 + 1, none⟩ = some (.int .i64 y1) := fun p => (HE.out p.W (HF3.out.more p.ok).below).2.1
                  have n1 : ∀ p : InW (fun W => Below w3.heap.size w3 W), p.W.cell? ⟨wr.heap.size, 1, none⟩ = some (.int .i64 x1) := fun p => (HF3.out.more p.ok).box.cell 1 (by simp)
                  have e2 : ∀ p : InW (fun W => Below w3.heap.size w3 W), p.W.cell? ⟨bb, off + m * 5 + 2, none⟩ = some (.int .i64 y2) := fun p => (HE.out p.W (HF3.out.more p.ok).below).2.2.1
                  have n2 : ∀ p : InW (fun W => Below w3.heap.size w3 W), p.W.cell? ⟨wr.heap.size, 2, none⟩ = some (.int .i64 x2) := fun p => (HF3.out.more p.ok).box.cell 2 (by simp)
                  have e3 : ∀ p : InW (fun W => Below w3.heap.size w3 W), p.W.cell? ⟨bb, off + m * 5 + 3, none⟩ = some (.int .i64 y3) := fun p => (HE.out p.W (HF3.out.more p.ok).below).2.2.2.1
                  have n3 : ∀ p : InW (fun W => Below w3.heap.size w3 W), p.W.cell? ⟨wr.heap.size, 3, none⟩ = some (.int .i64 x3) := fun p => (HF3.out.more p.ok).box.cell 3 (by simp)
                  have e4 : ∀ p : InW (fun W => Below w3.heap.size w3 W), p.W.cell? ⟨bb, off + m * 5 + 4, none⟩ = some (.int .i64 y4) := fun p => (HE.out p.W (HF3.out.more p.ok).below).2.2.2.2
                  have n4 : ∀ p : InW (fun W => Below w3.heap.size w3 W), p.W.cell? ⟨wr.heap.size, 4, none⟩ = some (.int .i64 x4) := fun p => (HF3.out.more p.ok).box.cell 4 (by simp)
                  go_wp2
                  refine wp_region_inW (fun W => Below w3.heap.size w3 W) (by kernel_rfl) (by kernel_rfl) (Below.refl _ _).drew ?_
                  repeat (go_big_quiet_step ((go_at_call 127; exact calls_inW (C := (fun W => Below w3.heap.size w3 W)) (HBF.out _ (InW.ok (C := (fun W => Below w3.heap.size w3 W)) _)))))
                  refine wpQuiet_nil ?_
                  rintro _ ⟨⟨W2, hW2⟩, rfl⟩
                  have HB4 := Lib.hid (HB3.out.trans (hW2.mono HB3.out.size))
                  clear hW2
                  go_wp2
                  go_ret
                  exact ⟨by rw [HV.out]; rfl, HB4.out⟩
              · have HPK := Lib.hid (fun W (hb : Below w.heap.size w W) => (HPK.out W hb).mono fun e w' h => (show ∃ i, e = .returned (.int .i64 i) ∧ i ≠ ((m + 1 : Nat) : Int) ∧ Below W.heap.size W w' from h.imp fun i hi => ⟨hi.1, fun hh => g3 (hi.2.1.1 hh), hi.2.2⟩))
                have HV := Lib.hid (HF.out (fun h => g3 (HAT.out.1 h).2.2.1))
                clear g1 g2 g3 e0 e1 e2 e3 e4
                go_wp2_with fail
                refine (HO.out _).mono ?_
                rintro e w2 ⟨rfl, hb2⟩
                have HF2 := Lib.hid (HF1.out.more hb2)
                have n0 := HF2.out.box.cell 0 (by simp)
                have HB2 := Lib.hid (HB.out.trans (HF2.out.below.mono HB.out.size))
                clear hb2 k0 k1 k2 k3 k4 c0 c1 c2 c3 c4
                go_wp2_with fail
                refine (HN1.out _).mono ?_
                rintro e w' ⟨rfl, rfl⟩
                go_wp2_with fail
                refine (HPK.out _ HB2.out).mono ?_
                rintro e w3 ⟨i, rfl, hne, hb3⟩
                have hne1 : (i == ((m + 1 : Nat) : Int)) = false := by simpa using hne
                have hne2 : (i == ((m : Int) + 1)) = false := by simpa using hne
                have HB3 := Lib.hid (HB2.out.trans (hb3.mono HB2.out.size))
                clear hb3 hne
                go_wp2
                go_ret
                exact ⟨by rw [HV.out]; rfl, HB3.out⟩
            · rw [decide_eq_false g2] at HN1
              have HV := Lib.hid (HF.out (fun h => g2 (HAT.out.1 h).2.1))
              clear g1 g2
              go_wp2_with fail
              refine (HO.out _).mono ?_
              rintro e w2 ⟨rfl, hb2⟩
              have HF2 := Lib.hid (HF1.out.more hb2)
              have n0 := HF2.out.box.cell 0 (by simp)
              have HB2 := Lib.hid (HB.out.trans (HF2.out.below.mono HB.out.size))
              clear hb2 k0 k1 k2 k3 k4 c0 c1 c2 c3 c4
              go_wp2_with fail
              refine (HN1.out _).mono ?_
              rintro e w' ⟨rfl, rfl⟩
              go_wp2
              go_ret
              exact ⟨by rw [HV.out]; rfl, HB2.out⟩
          · rw [decide_eq_false g1] at HO
            have HV := Lib.hid (HF.out (fun h => g1 (HAT.out.1 h).1))
            clear g1
            go_wp2_with fail
            refine (HO.out _).mono ?_
            rintro e w2 ⟨rfl, hb2⟩
            have HF2 := Lib.hid (HF1.out.more hb2)
            have n0 := HF2.out.box.cell 0 (by simp)
            have HB2 := Lib.hid (HB.out.trans (HF2.out.below.mono HB.out.size))
            clear hb2 k0 k1 k2 k3 k4 c0 c1 c2 c3 c4
            go_wp2
            go_ret
            exact ⟨by rw [HV.out]; rfl, HB2.out⟩
      · have hd : decide (k < l.length) = false := by simp; omega
        have hd' : decide ((k : Int) < (l.length : Int)) = false := by simp; omega
        obtain rfl : k = l.length := by omega
        have HV := Lib.hid (HY.out ⟨h40, HA.out⟩)
        clear hlt
        go_wp2
        go_ret
        exact ⟨by rw [HV.out]; rfl, HB.out⟩
  · have d40 : decide (40 < l.length) = true := by simp; omega
    have d40' : decide ((40 : Int) < (l.length : Int)) = true := by simp; omega
    have HV := Lib.hid (HN.out (fun h => h40 h.1))
    clear h40
    go_enter Try.func64, Try.ntmps64
    go_wp2
    go_ret
    exact ⟨by rw [HV.out]; rfl, Below.refl _ _⟩

end Go.Proofs.Ytckofkdeedbbgaa
