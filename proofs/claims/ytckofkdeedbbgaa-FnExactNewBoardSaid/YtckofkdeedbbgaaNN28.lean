/- What this text proves: the parts SBo of the proof, each under its own words. -/
import Derived.Test.YtckofkdeedbbgaaNN10
import Derived.Test.YtckofkdeedbbgaaNN27
import Derived.Test.YtckofkdeedbbgaaNN21
import Derived.Test.YtckofkdeedbbgaaNN04
import Derived.BigQuiet
/- What this text proves: the contract of the model's l05Orders. -/
namespace Go.Proofs.Ytckofkdeedbbgaa
open Go.ChangeShapes Go.WideShapes Go.ChangeAt Go.RowKit
set_option linter.unusedVariables false


set_option maxRecDepth 20000 in
set_option maxHeartbeats 4000000 in
theorem ord_spec (b : Bd) (a : BdA) (hT : 0 ≤ b.tk ∧ b.tk ≤ 65535) (hl : b.os.length ≤ 2000000) (w : World) (h : LsI 5 w w.heap.size a.aO (b.os.map wtC)) :
    Calls Try.prog 151 #[bdV b a] w fun e w' => e = .returned (.bool (ordB b.tk b.os)) ∧ Below w.heap.size w w' := by
  have F0 := Lib.hid (Fit.made w (bdL b a) 32)
  have k4 := F0.out.box.cell 4 (by simp)
  have HI := Lib.hid (fun W (hb : Below w.heap.size w W) => h.more hb)
  have HY := Lib.hid (fun h => ordB_yes (T := b.tk) (l := b.os) h)
  have HN := Lib.hid (fun h => ordB_no (T := b.tk) (l := b.os) h)
  have hw : IntKind.i64.wrap (b.tk - 1) = b.tk - 1 := IntWalk.i64_in _ (by omega)
  have hw' : wrap64 (b.tk - 1) = b.tk - 1 := by unfold wrap64; omega
  clear h
  by_cases h40 : b.os.length ≤ 40
  · have d40 : decide (40 < b.os.length) = false := by simp; omega
    have d40' : decide ((40 : Int) < (b.os.length : Int)) = false := by simp; omega
    go_enter Try.func151, Try.ntmps151
    go_wp2
    clear k4
    go_loopg [3] b.os.length (fun gh v3 wx => ∃ k : Nat, k ≤ b.os.length ∧ gh = b.os.length - k ∧ v3 = .int .i64 (k : Int) ∧ OrdTo b.tk b.os k ∧ Fit w wx w.heap.size (bdL b a))
    case atStart => exact ⟨0, by omega, rfl, rfl, OrdTo.zero b.tk b.os, F0.out⟩
    case round =>
      obtain ⟨k, hk, rfl, rfl, hall, hfit⟩ := hrel
      have HA := Lib.hid hall
      have HF := Lib.hid hfit
      have HB := Lib.hid hfit.below
      have k4 := hfit.box.cell 4 (by simp)
      have k10 := hfit.box.cell 10 (by simp)
      clear hall
      by_cases hlt : k < b.os.length
      · have hd : decide (k < b.os.length) = true := by simp; omega
        have hd' : decide ((k : Int) < (b.os.length : Int)) = true := by simp; omega
        obtain ⟨bb, off, har, hb, hcl⟩ := wtCellsI (b := 0) (off := 0) (HI.out _ hfit.below) (by omega)
        replace k4 : wr.cell? ⟨w.heap.size, 4, none⟩ = some (.slice (some ⟨bb, off, none⟩) b.os.length a.cO) := (show wr.cell? ⟨w.heap.size, 4, none⟩ = some (.slice a.aO b.os.length a.cO) from k4).trans (by rw [har])
        obtain ⟨c0, c1, c2, c3, c4⟩ := hcl k hlt
        have hbb : bb < wr.heap.size := Nat.lt_of_lt_of_le hb HB.out.size
        have HCL := Lib.hid (fun (W : World) (hW : Below wr.heap.size wr W) j (hj : j < b.os.length) => (show _ ∧ _ ∧ _ from ⟨(hW.cell (p := ⟨bb, off + j * 5, none⟩) hbb).trans (hcl j hj).1, (hW.cell (p := ⟨bb, off + j * 5 + 1, none⟩) hbb).trans (hcl j hj).2.1, (hW.cell (p := ⟨bb, off + j * 5 + 2, none⟩) hbb).trans (hcl j hj).2.2.1⟩))
        have HAR := Lib.hid har
        have HV4 := Lib.hid (fun (W : World) (hW : Below wr.heap.size wr W) => (show W.cell? ⟨w.heap.size, 4, none⟩ = some (.slice (some ⟨bb, off, none⟩) b.os.length a.cO) from ((HF.out.more hW).box.cell 4 (by simp)).trans (by rw [← HAR.out]; rfl)))
        have HN0 := Lib.hid (show ¬ OrdAt b.tk b.os k hlt → ordB b.tk b.os = false from fun h => HN.out (fun hh => h (hh.2 k hlt hlt)))
        have HS := Lib.hid (show OrdAt b.tk b.os k hlt → OrdTo b.tk b.os (k + 1) from fun h => HA.out.succ hlt h)
        have HAT := Lib.hid (show OrdAt b.tk b.os k hlt ↔ (OrOk b.os[k].2.1 b.os[k].2.2.1 b.os[k].2.2.2.1 b.os[k].2.2.2.2 ∧ (0 ≤ b.os[k].1 ∧ b.os[k].1 ≤ b.tk - 1) ∧ (∀ j (hj : j < k), b.os[j].1 ≠ b.os[k].1) ∧ (∀ m (hm : m + 1 = k), bef b.os[m] b.os[k])) from Iff.rfl)
        obtain ⟨q, hq⟩ : ∃ q, q = OrdAt b.tk b.os k hlt := ⟨_, rfl⟩
        rw [← hq] at HN0 HS HAT
        have HK := Lib.hid (fun j (hj : j < k) => (show j < b.os.length by omega))
        have HPR := Lib.hid (fun m (hm : m + 1 = k) => (show ∀ (hm2 : m < b.os.length), bef b.os[m] b.os[k] ↔ (b.os[m].2.2.1 < b.os[k].2.2.1 ∨ (b.os[m].2.2.1 = b.os[k].2.2.1 ∧ b.os[m].1 < b.os[k].1)) from fun _ => Iff.rfl))
        obtain ⟨V, hV⟩ : ∃ V, V = (∀ m (hm : m + 1 = k), bef b.os[m] b.os[k]) := ⟨_, rfl⟩
        rw [← hV] at HAT
        have HVE := Lib.hid (show ∀ m (hm : m + 1 = k) (hm2 : m < b.os.length), V ↔ (b.os[m].2.2.1 < b.os[k].2.2.1 ∨ (b.os[m].2.2.1 = b.os[k].2.2.1 ∧ b.os[m].1 < b.os[k].1)) from fun m hm hm2 => by
          subst hm
          rw [hV]
          exact ⟨fun h => h m rfl, fun h m' hm' => by
            obtain rfl : m' = m := by omega
            exact h⟩)
        have HV0 := Lib.hid (show k = 0 → V from fun h0 => by
          rw [hV]
          intro m hm
          omega)
        clear hcl hq hV HPR har hfit HI HN HA
        generalize b.os[k].1 = x0 at *
        generalize b.os[k].2.1 = x1 at *
        generalize b.os[k].2.2.1 = x2 at *
        generalize b.os[k].2.2.2.1 = x3 at *
        generalize b.os[k].2.2.2.2 = x4 at *
        have HF1 := Lib.hid (Fit.made wr [.int .i64 x0, .int .i64 x1, .int .i64 x2, .int .i64 x3, .int .i64 x4] 43)
        have B0 := Box.made wr [.int .i64 x0, .int .i64 x1, .int .i64 x2, .int .i64 x3, .int .i64 x4] 43 wr.heap.size rfl
        have n0 := B0.cell 0 (by simp)
        have n1 := B0.cell 1 (by simp)
        have n2 := B0.cell 2 (by simp)
        have n3 := B0.cell 3 (by simp)
        have n4 := B0.cell 4 (by simp)
        have HO := Lib.hid (fun W => (or_spec x1 x2 x3 x4 W).mono fun e w' h => (show ∃ t, e = .returned (.bool t) ∧ (t = true ↔ OrOk x1 x2 x3 x4) ∧ Below W.heap.size W w' from ⟨_, h.1, decide_eq_true_iff, h.2⟩))
        have HN1 := Lib.hid (fun W => (in_anyP x0 0 (b.tk - 1) W).mono fun e w' h => (show ∃ t, e = .returned (.bool t) ∧ (t = true ↔ (0 ≤ x0 ∧ x0 ≤ b.tk - 1)) ∧ W = w' from ⟨_, h.1, decide_eq_true_iff, h.2⟩))
        clear B0
        go_wp2_with fail
        refine (HO.out _).mono ?_
        rintro e w2 ⟨t1, rfl, ht1, hb2⟩
        have HF2 := Lib.hid (HF1.out.more hb2)
        have HB2 := Lib.hid (HB.out.trans (HF2.out.below.mono HB.out.size))
        have m0 := HF2.out.box.cell 0 (by simp)
        have m10 := (HF.out.more HF2.out.below).box.cell 10 (by simp)
        clear hb2 n0 n1 n2 n3 n4 c0 c1 c2 c3 c4 k10
        cases t1
        · have HV := Lib.hid (HN0.out (fun h => Bool.noConfusion (ht1.2 (HAT.out.1 h).1)))
          clear ht1
          go_wp2
          go_ret
          exact ⟨by rw [HV.out]; rfl, HB2.out⟩
        · have g1 := Lib.hid (ht1.1 rfl)
          clear ht1
          go_wp2_with fail
          refine (HN1.out _).mono ?_
          rintro e w' ⟨t2, rfl, ht2, rfl⟩
          cases t2
          · have HV := Lib.hid (HN0.out (fun h => Bool.noConfusion (ht2.2 (HAT.out.1 h).2.1)))
            clear ht2
            go_wp2
            go_ret
            exact ⟨by rw [HV.out]; rfl, HB2.out⟩
          · have g2 := Lib.hid (ht2.1 rfl)
            have HB20 := HF2.out.below
            have HC2 := Lib.hid (fun (W : World) (hW : Below w2.heap.size w2 W) j (hj : j < b.os.length) => HCL.out W (HB20.trans (hW.mono HB20.size)) j hj)
            have HQ4 := Lib.hid (fun (W : World) (hW : Below w2.heap.size w2 W) => HV4.out W (HB20.trans (hW.mono HB20.size)))
            have HM0 := Lib.hid (fun (W : World) (hW : Below w2.heap.size w2 W) => (show W.cell? ⟨wr.heap.size, 0, none⟩ = some (.int .i64 x0) ∧ W.cell? ⟨wr.heap.size, 2, none⟩ = some (.int .i64 x2) from ⟨(HF2.out.more hW).box.cell 0 (by simp), (HF2.out.more hW).box.cell 2 (by simp)⟩))
            have HFF := Lib.hid (fun (W : World) (hW : Below w2.heap.size w2 W) => HF.out.more (HB20.trans (hW.mono HB20.size)))
            have HBB := Lib.hid (fun (W : World) (hW : Below w2.heap.size w2 W) => HB2.out.trans (hW.mono HB2.out.size))
            clear ht2 m10 m0 k4 HB20 HCL HV4 HB2 HF2 HF1 HO HN1 hbb hb
            generalize wr.heap.size = g at *
            go_wp2
            go_loopg [5] k (fun gh v5 wx => ∃ i : Nat, i ≤ k ∧ gh = k - i ∧ v5 = .int .i64 (i : Int) ∧ (∀ j (hj : j < k), j < i → (b.os[j]'(HK.out j hj)).1 ≠ x0) ∧ Below w2.heap.size w2 wx)
            case atStart => exact ⟨0, by omega, rfl, rfl, fun j _ h => absurd h (Nat.not_lt_zero _), Below.refl _ _⟩
            case round =>
              obtain ⟨i, hi, rfl, rfl, hno, hbel⟩ := hrel
              have hbel := Lib.hid hbel
              have hno := Lib.hid hno
              have hall : ∀ q : Prop, (InW (fun W => Below wr.heap.size wr W) → q) ↔ q := fun q => ⟨fun h => h ⟨_, Below.refl _ _⟩, fun h _ => h⟩
              have HP := Lib.hid (fun (p : InW (fun W => Below wr.heap.size wr W)) => hbel.out.trans (p.ok.mono hbel.out.size))
              have k4 : ∀ p : InW (fun W => Below wr.heap.size wr W), p.W.cell? ⟨w.heap.size, 4, none⟩ = some (.slice (some ⟨bb, off, none⟩) b.os.length a.cO) := fun p => HQ4.out p.W (HP.out p)
              have n0 : ∀ p : InW (fun W => Below wr.heap.size wr W), p.W.cell? ⟨g, 0, none⟩ = some (.int .i64 x0) := fun p => (HM0.out p.W (HP.out p)).1
              by_cases hik : i < k
              · have hd2 : decide (i < k) = true := by simp; omega
                have hd2' : decide ((i : Int) < (k : Int)) = true := by simp; omega
                have hil : i < b.os.length := by omega
                have c0 : ∀ p : InW (fun W => Below wr.heap.size wr W), p.W.cell? ⟨bb, off + i * 5, none⟩ = some (.int .i64 (b.os[i]'hil).1) := fun p => (HC2.out p.W (HP.out p) i hil).1
                by_cases he : (b.os[i]'hil).1 = x0
                · have hb1 : ((b.os[i]'hil).1 == x0) = true := by simpa using he
                  have HV := Lib.hid (HN0.out (fun h => (HAT.out.1 h).2.2.1 i hik he))
                  clear he
                  generalize (b.os[i]'hil).1 = y at *
                  go_wp2
                  refine wp_region_inW (fun W => Below wr.heap.size wr W) (by kernel_rfl) (by kernel_rfl) (Below.refl _ _).drew ?_
                  repeat (go_big_quiet_step (fail))
                  refine wpQuiet_nil ?_
                  rintro _ ⟨⟨W4, hW4⟩, rfl⟩
                  have hb4 := Lib.hid (hbel.out.trans (hW4.mono hbel.out.size))
                  clear hW4
                  go_wp2
                  go_ret
                  exact ⟨by rw [HV.out]; rfl, HBB.out _ hb4.out⟩
                · have hb1 : ((b.os[i]'hil).1 == x0) = false := by simpa using he
                  have HN2 := Lib.hid (show ∀ j (hj : j < k), j < i + 1 → (b.os[j]'(HK.out j hj)).1 ≠ x0 from fun j hj hji => by
                    rcases Nat.lt_or_ge j i with h3 | h3
                    · exact hno.out j hj h3
                    · obtain rfl : j = i := by omega
                      exact he)
                  clear he
                  generalize (b.os[i]'hil).1 = y at *
                  go_wp2
                  refine wp_region_inW (fun W => Below wr.heap.size wr W) (by kernel_rfl) (by kernel_rfl) (Below.refl _ _).drew ?_
                  repeat (go_big_quiet_step (fail))
                  refine wpQuiet_nil ?_
                  rintro _ ⟨⟨W4, hW4⟩, rfl⟩
                  have hb4 := Lib.hid (hbel.out.trans (hW4.mono hbel.out.size))
                  clear hW4
                  go_wp2
                  go_roundg (k - (i + 1))
                  case measure => omega
                  case rel => exact ⟨i + 1, by omega, rfl, by go_num, HN2.out, hb4.out⟩
              · have hd2 : decide (i < k) = false := by simp; omega
                have hd2' : decide ((i : Int) < (k : Int)) = false := by simp; omega
                have HU := Lib.hid (show ∀ j (hj : j < k), (b.os[j]'(HK.out j hj)).1 ≠ x0 from fun j hj => hno.out j hj (by omega))
                have n2 : ∀ p : InW (fun W => Below wr.heap.size wr W), p.W.cell? ⟨g, 2, none⟩ = some (.int .i64 x2) := fun p => (HM0.out p.W (HP.out p)).2
                clear hno hik
                rcases Nat.eq_zero_or_pos k with hkm | hkp
                · have e1 : decide (0 < k) = false := by rw [hkm]; rfl
                  have e2 : decide ((0 : Int) < (k : Int)) = false := by rw [hkm]; rfl
                  have HNX := Lib.hid (HS.out (HAT.out.2 ⟨g1.out, g2.out, HU.out, HV0.out hkm⟩))
                  clear hkm
                  go_wp2
                  refine wp_region_inW (fun W => Below wr.heap.size wr W) (by kernel_rfl) (by kernel_rfl) (Below.refl _ _).drew ?_
                  repeat (go_big_quiet_step (fail))
                  refine wpQuiet_nil ?_
                  rintro _ ⟨⟨W4, hW4⟩, rfl⟩
                  have hb4 := Lib.hid (hbel.out.trans (hW4.mono hbel.out.size))
                  clear hW4
                  go_wp2
                  go_roundg (b.os.length - (k + 1))
                  case measure => omega
                  case rel => exact ⟨k + 1, by omega, rfl, by go_num, HNX.out, HFF.out _ hb4.out⟩
                · obtain ⟨m, hkm⟩ : ∃ m, k = m + 1 := ⟨k - 1, by omega⟩
                  have e1 : decide (0 < k) = true := by rw [hkm]; simp
                  have e2 : decide ((0 : Int) < (k : Int)) = true := by rw [hkm]; exact decide_eq_true (by omega)
                  have w1 : wrap64 ((k : Int) - 1) = (m : Int) := by rw [hkm]; unfold wrap64; omega
                  have w2' : IntKind.i64.wrap ((k : Int) - 1) = (m : Int) := by rw [hkm]; exact (IntWalk.i64_in _ (by omega)).trans (by omega)
                  have hm : m < b.os.length := by omega
                  have hmk : m < k := by omega
                  have hu := HU.out m hmk
                  have HE := HVE.out m (by omega) hm
                  have c0 : ∀ p : InW (fun W => Below wr.heap.size wr W), p.W.cell? ⟨bb, off + m * 5, none⟩ = some (.int .i64 (b.os[m]'hm).1) := fun p => (HC2.out p.W (HP.out p) m hm).1
                  have c2 : ∀ p : InW (fun W => Below wr.heap.size wr W), p.W.cell? ⟨bb, off + m * 5 + 2, none⟩ = some (.int .i64 (b.os[m]'hm).2.2.1) := fun p => (HC2.out p.W (HP.out p) m hm).2.2
                  clear hkm
                  have HUX := Lib.hid (fun v => HAT.out.2 ⟨g1.out, g2.out, HU.out, v⟩)
                  have HUN := Lib.hid (fun (h : q) => (HAT.out.1 h).2.2.2)
                  generalize (b.os[m]'hm).1 = y0 at *
                  generalize (b.os[m]'hm).2.2.1 = y2 at *
                  rcases Int.lt_trichotomy x2 y2 with h3 | h3 | h3
                  · have l1 : decide (x2 < y2) = true := decide_eq_true h3
                    have HV := Lib.hid (HN0.out (fun h => by have := HE.1 (HUN.out h); omega))
                    clear HE hu h3
                    go_wp2
                    refine wp_region_inW (fun W => Below wr.heap.size wr W) (by kernel_rfl) (by kernel_rfl) (Below.refl _ _).drew ?_
                    repeat (go_big_quiet_step (fail))
                    refine wpQuiet_nil ?_
                    rintro _ ⟨⟨W4, hW4⟩, rfl⟩
                    have hb4 := Lib.hid (hbel.out.trans (hW4.mono hbel.out.size))
                    clear hW4
                    go_wp2
                    go_ret
                    exact ⟨by rw [HV.out]; rfl, HBB.out _ hb4.out⟩
                  · have l1 : decide (x2 < y2) = false := decide_eq_false (by omega)
                    have l2 : (x2 == y2) = true := by simpa using h3
                    by_cases h4 : x0 < y0
                    · have l3 : decide (x0 < y0) = true := decide_eq_true h4
                      have HV := Lib.hid (HN0.out (fun h => by have := HE.1 (HUN.out h); omega))
                      clear HE hu h3 h4
                      go_wp2
                      refine wp_region_inW (fun W => Below wr.heap.size wr W) (by kernel_rfl) (by kernel_rfl) (Below.refl _ _).drew ?_
                      repeat (go_big_quiet_step (fail))
                      refine wpQuiet_nil ?_
                      rintro _ ⟨⟨W4, hW4⟩, rfl⟩
                      have hb4 := Lib.hid (hbel.out.trans (hW4.mono hbel.out.size))
                      clear hW4
                      go_wp2
                      go_ret
                      exact ⟨by rw [HV.out]; rfl, HBB.out _ hb4.out⟩
                    · have l3 : decide (x0 < y0) = false := decide_eq_false h4
                      have HNX := Lib.hid (HS.out (HUX.out (HE.2 (by omega))))
                      clear HE hu h3 h4
                      go_wp2
                      refine wp_region_inW (fun W => Below wr.heap.size wr W) (by kernel_rfl) (by kernel_rfl) (Below.refl _ _).drew ?_
                      repeat (go_big_quiet_step (fail))
                      refine wpQuiet_nil ?_
                      rintro _ ⟨⟨W4, hW4⟩, rfl⟩
                      have hb4 := Lib.hid (hbel.out.trans (hW4.mono hbel.out.size))
                      clear hW4
                      go_wp2
                      go_roundg (b.os.length - (k + 1))
                      case measure => omega
                      case rel => exact ⟨k + 1, by omega, rfl, by go_num, HNX.out, HFF.out _ hb4.out⟩
                  · have l1 : decide (x2 < y2) = false := decide_eq_false (by omega)
                    have l2 : (x2 == y2) = false := by simp; omega
                    have HNX := Lib.hid (HS.out (HUX.out (HE.2 (by omega))))
                    clear HE hu h3
                    go_wp2
                    refine wp_region_inW (fun W => Below wr.heap.size wr W) (by kernel_rfl) (by kernel_rfl) (Below.refl _ _).drew ?_
                    repeat (go_big_quiet_step (fail))
                    refine wpQuiet_nil ?_
                    rintro _ ⟨⟨W4, hW4⟩, rfl⟩
                    have hb4 := Lib.hid (hbel.out.trans (hW4.mono hbel.out.size))
                    clear hW4
                    go_wp2
                    go_roundg (b.os.length - (k + 1))
                    case measure => omega
                    case rel => exact ⟨k + 1, by omega, rfl, by go_num, HNX.out, HFF.out _ hb4.out⟩
      · have hd : decide (k < b.os.length) = false := by simp; omega
        have hd' : decide ((k : Int) < (b.os.length : Int)) = false := by simp; omega
        obtain rfl : k = b.os.length := by omega
        have HV := Lib.hid (HY.out ⟨h40, HA.out⟩)
        clear hlt hfit
        go_wp2
        go_ret
        exact ⟨by rw [HV.out]; rfl, HB.out⟩
  · have d40 : decide (40 < b.os.length) = true := by simp; omega
    have d40' : decide ((40 : Int) < (b.os.length : Int)) = true := by simp; omega
    have HV := Lib.hid (HN.out (fun h => h40 h.1))
    clear h40
    go_enter Try.func151, Try.ntmps151
    go_wp2
    go_ret
    exact ⟨by rw [HV.out]; rfl, F0.out.below⟩
end Go.Proofs.Ytckofkdeedbbgaa
