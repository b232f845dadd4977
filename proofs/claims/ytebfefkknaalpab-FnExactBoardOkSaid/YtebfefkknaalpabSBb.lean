/- What this text proves: the contract of the model's BoardOk. -/
import Derived.Test.YtebfefkknaalpabBrM
import Derived.Test.YtebfefkknaalpabQw
import Derived.Test.YtebfefkknaalpabOrd
import Derived.Test.YtebfefkknaalpabSRo
import Derived.BigQuiet
namespace Go.Proofs.Ytebfefkknaalpab
open Go.ChangeShapes Go.WideShapes Go.ChangeAt Go.RowKit
set_option linter.unusedVariables false


set_option maxRecDepth 20000 in
set_option maxHeartbeats 4000000 in
theorem ord_spec (b : Bd) (a : BdA) (hT : 0 ≤ b.tk ∧ b.tk ≤ 65535) (hl : b.os.length ≤ 2000000) (w : World) (h : LsI 5 w w.heap.size a.aO (b.os.map wtC)) :
    Calls Try.prog 64 #[bdV b a] w fun e w' => e = .returned (.bool (ordB b.tk b.os)) ∧ Below w.heap.size w w' := by
  have F0 := Lib.hid (Fit.made w (bdL b a) 58)
  have k4 := F0.out.box.cell 4 (by simp)
  have HI := Lib.hid (fun W (hb : Below w.heap.size w W) => h.more hb)
  have HY := Lib.hid (fun h => ordB_yes (T := b.tk) (l := b.os) h)
  have HN := Lib.hid (fun h => ordB_no (T := b.tk) (l := b.os) h)
  have hw : IntKind.i64.wrap (b.tk - 1) = b.tk - 1 := IntWalk.i64_in _ (by omega)
  have hw' : wrap64 (b.tk - 1) = b.tk - 1 := by unfold wrap64; omega
  clear h
  by_cases h40 : b.os.length ≤ 40
  · have d40 : decide (40 < b.os.length) = false := by simp; omega
    have d40' : decide ((40 : Int) < (b.os.length : Int)) = false := by simp; omega
    go_enter Try.func64, Try.ntmps64
    go_wp2
    clear k4
    go_loopg [3] b.os.length (fun gh v3 wx => ∃ k : Nat, k ≤ b.os.length ∧ gh = b.os.length - k ∧ v3 = .int .i64 (k : Int) ∧ OrdTo b.tk b.os k ∧ Fit w wx w.heap.size (bdL b a))
    case atStart => exact ⟨0, by omega, rfl, rfl, OrdTo.zero b.tk b.os, F0.out⟩
    case round =>
      obtain ⟨k, hk, rfl, rfl, hall, hfit⟩ := hrel
      have HA := Lib.hid hall
      have HF := Lib.hid hfit
      have HB := Lib.hid hfit.below
      have k4 := hfit.box.cell 4 (by simp)
      have k10 := hfit.box.cell 10 (by simp)
      clear hall
      by_cases hlt : k < b.os.length
      · have hd : decide (k < b.os.length) = true := by simp; omega
        have hd' : decide ((k : Int) < (b.os.length : Int)) = true := by simp; omega
        obtain ⟨bb, off, har, hb, hcl⟩ := wtCellsI (b := 0) (off := 0) (HI.out _ hfit.below) (by omega)
        replace k4 : wr.cell? ⟨w.heap.size, 4, none⟩ = some (.slice (some ⟨bb, off, none⟩) b.os.length a.cO) := (show wr.cell? ⟨w.heap.size, 4, none⟩ = some (.slice a.aO b.os.length a.cO) from k4).trans (by rw [har])
        obtain ⟨c0, c1, c2, c3, c4⟩ := hcl k hlt
        have hbb : bb < wr.heap.size := Nat.lt_of_lt_of_le hb HB.out.size
        have HCL := Lib.hid (fun (W : World) (hW : Below wr.heap.size wr W) j (hj : j < b.os.length) => (show _ ∧ _ ∧ _ from ⟨(hW.cell (p := ⟨bb, off + j * 5, none⟩) hbb).trans (hcl j hj).1, (hW.cell (p := ⟨bb, off + j * 5 + 1, none⟩) hbb).trans (hcl j hj).2.1, (hW.cell (p := ⟨bb, off + j * 5 + 2, none⟩) hbb).trans (hcl j hj).2.2.1⟩))
        have HAR := Lib.hid har
        have HV4 := Lib.hid (fun (W : World) (hW : Below wr.heap.size wr W) => (show W.cell? ⟨w.heap.size, 4, none⟩ = some (.slice (some ⟨bb, off, none⟩) b.os.length a.cO) from ((HF.out.more hW).box.cell 4 (by simp)).trans (by rw [← HAR.out]; rfl)))
        have HN0 := Lib.hid (show ¬ OrdAt b.tk b.os k hlt → ordB b.tk b.os = false from fun h => HN.out (fun hh => h (hh.2 k hlt hlt)))
        have HS := Lib.hid (show OrdAt b.tk b.os k hlt → OrdTo b.tk b.os (k + 1) from fun h => HA.out.succ hlt h)
        have HAT := Lib.hid (show OrdAt b.tk b.os k hlt ↔ (OrOk b.os[k].2.1 b.os[k].2.2.1 b.os[k].2.2.2.1 b.os[k].2.2.2.2 ∧ (0 ≤ b.os[k].1 ∧ b.os[k].1 ≤ b.tk - 1) ∧ (∀ j (hj : j < k), b.os[j].1 ≠ b.os[k].1) ∧ (∀ m (hm : m + 1 = k), bef b.os[m] b.os[k])) from Iff.rfl)
        obtain ⟨q, hq⟩ : ∃ q, q = OrdAt b.tk b.os k hlt := ⟨_, rfl⟩
        rw [← hq] at HN0 HS HAT
        have HK := Lib.hid (fun j (hj : j < k) => (show j < b.os.length by omega))
        have HPR := Lib.hid (fun m (hm : m + 1 = k) => (show ∀ (hm2 : m < b.os.length), bef b.os[m] b.os[k] ↔ (b.os[m].2.2.1 < b.os[k].2.2.1 ∨ (b.os[m].2.2.1 = b.os[k].2.2.1 ∧ b.os[m].1 < b.os[k].1)) from fun _ => Iff.rfl))
        obtain ⟨V, hV⟩ : ∃ V, V = (∀ m (hm : m + 1 = k), bef b.os[m] b.os[k]) := ⟨_, rfl⟩
        rw [← hV] at HAT
        have HVE := Lib.hid (show ∀ m (hm : m + 1 = k) (hm2 : m < b.os.length), V ↔ (b.os[m].2.2.1 < b.os[k].2.2.1 ∨ (b.os[m].2.2.1 = b.os[k].2.2.1 ∧ b.os[m].1 < b.os[k].1)) from fun m hm hm2 => by
          subst hm
          rw [hV]
          exact ⟨fun h => h m rfl, fun h m' hm' => by
            obtain rfl : m' = m := by omega
            exact h⟩)
        have HV0 := Lib.hid (show k = 0 → V from fun h0 => by
          rw [hV]
          intro m hm
          omega)
        clear hcl hq hV HPR har hfit HI HN HA
        generalize b.os[k].1 = x0 at *
        generalize b.os[k].2.1 = x1 at *
        generalize b.os[k].2.2.1 = x2 at *
        generalize b.os[k].2.2.2.1 = x3 at *
        generalize b.os[k].2.2.2.2 = x4 at *
        have HF1 := Lib.hid (Fit.made wr [.int .i64 x0, .int .i64 x1, .int .i64 x2, .int .i64 x3, .int .i64 x4] 113)
        have B0 := Box.made wr [.int .i64 x0, .int .i64 x1, .int .i64 x2, .int .i64 x3, .int .i64 x4] 113 wr.heap.size rfl
        have n0 := B0.cell 0 (by simp)
        have n1 := B0.cell 1 (by simp)
        have n2 := B0.cell 2 (by simp)
        have n3 := B0.cell 3 (by simp)
        have n4 := B0.cell 4 (by simp)
        have HO := Lib.hid (fun W => (or_spec x1 x2 x3 x4 W).mono fun e w' h => (show ∃ t, e = .returned (.bool t) ∧ (t = true ↔ OrOk x1 x2 x3 x4) ∧ Below W.heap.size W w' from ⟨_, h.1, decide_eq_true_iff, h.2⟩))
        have HN1 := Lib.hid (fun W => (in_anyP x0 0 (b.tk - 1) W).mono fun e w' h => (show ∃ t, e = .returned (.bool t) ∧ (t = true ↔ (0 ≤ x0 ∧ x0 ≤ b.tk - 1)) ∧ W = w' from ⟨_, h.1, decide_eq_true_iff, h.2⟩))
        clear B0
        go_wp2_with fail
        refine (HO.out _).mono ?_
        rintro e w2 ⟨t1, rfl, ht1, hb2⟩
        have HF2 := Lib.hid (HF1.out.more hb2)
        have HB2 := Lib.hid (HB.out.trans (HF2.out.below.mono HB.out.size))
        have m0 := HF2.out.box.cell 0 (by simp)
        have m10 := (HF.out.more HF2.out.below).box.cell 10 (by simp)
        clear hb2 n0 n1 n2 n3 n4 c0 c1 c2 c3 c4 k10
        cases t1
        · have HV := Lib.hid (HN0.out (fun h => Bool.noConfusion (ht1.2 (HAT.out.1 h).1)))
          clear ht1
          go_wp2
          go_ret
          exact ⟨by rw [HV.out]; rfl, HB2.out⟩
        · have g1 := Lib.hid (ht1.1 rfl)
          clear ht1
          go_wp2_with fail
          refine (HN1.out _).mono ?_
          rintro e w' ⟨t2, rfl, ht2, rfl⟩
          cases t2
          · have HV := Lib.hid (HN0.out (fun h => Bool.noConfusion (ht2.2 (HAT.out.1 h).2.1)))
            clear ht2
            go_wp2
            go_ret
            exact ⟨by rw [HV.out]; rfl, HB2.out⟩
          · have g2 := Lib.hid (ht2.1 rfl)
            have HB20 := HF2.out.below
            have HC2 := Lib.hid (fun (W : World) (hW : Below w2.heap.size w2 W) j (hj : j < b.os.length) => HCL.out W (HB20.trans (hW.mono HB20.size)) j hj)
            have HQ4 := Lib.hid (fun (W : World) (hW : Below w2.heap.size w2 W) => HV4.out W (HB20.trans (hW.mono HB20.size)))
            have HM0 := Lib.hid (fun (W : World) (hW : Below w2.heap.size w2 W) => (show W.cell? ⟨wr.heap.size, 0, none⟩ = some (.int .i64 x0) ∧ W.cell? ⟨wr.heap.size, 2, none⟩ = some (.int .i64 x2) from ⟨(HF2.out.more hW).box.cell 0 (by simp), (HF2.out.more hW).box.cell 2 (by simp)⟩))
            have HFF := Lib.hid (fun (W : World) (hW : Below w2.heap.size w2 W) => HF.out.more (HB20.trans (hW.mono HB20.size)))
            have HBB := Lib.hid (fun (W : World) (hW : Below w2.heap.size w2 W) => HB2.out.trans (hW.mono HB2.out.size))
            clear ht2 m10 m0 k4 HB20 HCL HV4 HB2 HF2 HF1 HO HN1 hbb hb
            generalize wr.heap.size = g at *
            go_wp2
            go_loopg [5] k (fun gh v5 wx => ∃ i : Nat, i ≤ k ∧ gh = k - i ∧ v5 = .int .i64 (i : Int) ∧ (∀ j (hj : j < k), j < i → (b.os[j]'(HK.out j hj)).1 ≠ x0) ∧ Below w2.heap.size w2 wx)
            case atStart => exact ⟨0, by omega, rfl, rfl, fun j _ h => absurd h (Nat.not_lt_zero _), Below.refl _ _⟩
            case round =>
              obtain ⟨i, hi, rfl, rfl, hno, hbel⟩ := hrel
              have hbel := Lib.hid hbel
              have hno := Lib.hid hno
              have hall : ∀ q : Prop, (InW (fun W => Below wr.heap.size wr W) → q) ↔ q := fun q => ⟨fun h => h ⟨_, Below.refl _ _⟩, fun h _ => h⟩
              have HP := Lib.hid (fun (p : InW (fun W => Below wr.heap.size wr W)) => hbel.out.trans (p.ok.mono hbel.out.size))
              have k4 : ∀ p : InW (fun W => Below wr.heap.size wr W), p.W.cell? ⟨w.heap.size, 4, none⟩ = some (.slice (some ⟨bb, off, none⟩) b.os.length a.cO) := fun p => HQ4.out p.W (HP.out p)
              have n0 : ∀ p : InW (fun W => Below wr.heap.size wr W), p.W.cell? ⟨g, 0, none⟩ = some (.int .i64 x0) := fun p => (HM0.out p.W (HP.out p)).1
              by_cases hik : i < k
              · have hd2 : decide (i < k) = true := by simp; omega
                have hd2' : decide ((i : Int) < (k : Int)) = true := by simp; omega
                have hil : i < b.os.length := by omega
                have c0 : ∀ p : InW (fun W => Below wr.heap.size wr W), p.W.cell? ⟨bb, off + i * 5, none⟩ = some (.int .i64 (b.os[i]'hil).1) := fun p => (HC2.out p.W (HP.out p) i hil).1
                by_cases he : (b.os[i]'hil).1 = x0
                · have hb1 : ((b.os[i]'hil).1 == x0) = true := by simpa using he
                  have HV := Lib.hid (HN0.out (fun h => (HAT.out.1 h).2.2.1 i hik he))
                  clear he
                  generalize (b.os[i]'hil).1 = y at *
                  go_wp2
                  refine wp_region_inW (fun W => Below wr.heap.size wr W) (by kernel_rfl) (by kernel_rfl) (Below.refl _ _).drew ?_
                  repeat (go_big_quiet_step (fail))
                  refine wpQuiet_nil ?_
                  rintro _ ⟨⟨W4, hW4⟩, rfl⟩
                  have hb4 := Lib.hid (hbel.out.trans (hW4.mono hbel.out.size))
                  clear hW4
                  go_wp2
                  go_ret
                  exact ⟨by rw [HV.out]; rfl, HBB.out _ hb4.out⟩
                · have hb1 : ((b.os[i]'hil).1 == x0) = false := by simpa using he
                  have HN2 := Lib.hid (show ∀ j (hj : j < k), j < i + 1 → (b.os[j]'(HK.out j hj)).1 ≠ x0 from fun j hj hji => by
                    rcases Nat.lt_or_ge j i with h3 | h3
                    · exact hno.out j hj h3
                    · obtain rfl : j = i := by omega
                      exact he)
                  clear he
                  generalize (b.os[i]'hil).1 = y at *
                  go_wp2
                  refine wp_region_inW (fun W => Below wr.heap.size wr W) (by kernel_rfl) (by kernel_rfl) (Below.refl _ _).drew ?_
                  repeat (go_big_quiet_step (fail))
                  refine wpQuiet_nil ?_
                  rintro _ ⟨⟨W4, hW4⟩, rfl⟩
                  have hb4 := Lib.hid (hbel.out.trans (hW4.mono hbel.out.size))
                  clear hW4
                  go_wp2
                  go_roundg (k - (i + 1))
                  case measure => omega
                  case rel => exact ⟨i + 1, by omega, rfl, by go_num, HN2.out, hb4.out⟩
              · have hd2 : decide (i < k) = false := by simp; omega
                have hd2' : decide ((i : Int) < (k : Int)) = false := by simp; omega
                have HU := Lib.hid (show ∀ j (hj : j < k), (b.os[j]'(HK.out j hj)).1 ≠ x0 from fun j hj => hno.out j hj (by omega))
                have n2 : ∀ p : InW (fun W => Below wr.heap.size wr W), p.W.cell? ⟨g, 2, none⟩ = some (.int .i64 x2) := fun p => (HM0.out p.W (HP.out p)).2
                clear hno hik
                rcases Nat.eq_zero_or_pos k with hkm | hkp
                · have e1 : decide (0 < k) = false := by rw [hkm]; rfl
                  have e2 : decide ((0 : Int) < (k : Int)) = false := by rw [hkm]; rfl
                  have HNX := Lib.hid (HS.out (HAT.out.2 ⟨g1.out, g2.out, HU.out, HV0.out hkm⟩))
                  clear hkm
                  go_wp2
                  refine wp_region_inW (fun W => Below wr.heap.size wr W) (by kernel_rfl) (by kernel_rfl) (Below.refl _ _).drew ?_
                  repeat (go_big_quiet_step (fail))
                  refine wpQuiet_nil ?_
                  rintro _ ⟨⟨W4, hW4⟩, rfl⟩
                  have hb4 := Lib.hid (hbel.out.trans (hW4.mono hbel.out.size))
                  clear hW4
                  go_wp2
                  go_roundg (b.os.length - (k + 1))
                  case measure => omega
                  case rel => exact ⟨k + 1, by omega, rfl, by go_num, HNX.out, HFF.out _ hb4.out⟩
                · obtain ⟨m, hkm⟩ : ∃ m, k = m + 1 := ⟨k - 1, by omega⟩
                  have e1 : decide (0 < k) = true := by rw [hkm]; simp
                  have e2 : decide ((0 : Int) < (k : Int)) = true := by rw [hkm]; exact decide_eq_true (by omega)
                  have w1 : wrap64 ((k : Int) - 1) = (m : Int) := by rw [hkm]; unfold wrap64; omega
                  have w2' : IntKind.i64.wrap ((k : Int) - 1) = (m : Int) := by rw [hkm]; exact (IntWalk.i64_in _ (by omega)).trans (by omega)
                  have hm : m < b.os.length := by omega
                  have hmk : m < k := by omega
                  have hu := HU.out m hmk
                  have HE := HVE.out m (by omega) hm
                  have c0 : ∀ p : InW (fun W => Below wr.heap.size wr W), p.W.cell? ⟨bb, off + m * 5, none⟩ = some (.int .i64 (b.os[m]'hm).1) := fun p => (HC2.out p.W (HP.out p) m hm).1
                  have c2 : ∀ p : InW (fun W => Below wr.heap.size wr W), p.W.cell? ⟨bb, off + m * 5 + 2, none⟩ = some (.int .i64 (b.os[m]'hm).2.2.1) := fun p => (HC2.out p.W (HP.out p) m hm).2.2
                  clear hkm
                  have HUX := Lib.hid (fun v => HAT.out.2 ⟨g1.out, g2.out, HU.out, v⟩)
                  have HUN := Lib.hid (fun (h : q) => (HAT.out.1 h).2.2.2)
                  generalize (b.os[m]'hm).1 = y0 at *
                  generalize (b.os[m]'hm).2.2.1 = y2 at *
                  rcases Int.lt_trichotomy x2 y2 with h3 | h3 | h3
                  · have l1 : decide (x2 < y2) = true := decide_eq_true h3
                    have HV := Lib.hid (HN0.out (fun h => by have := HE.1 (HUN.out h); omega))
                    clear HE hu h3
                    go_wp2
                    refine wp_region_inW (fun W => Below wr.heap.size wr W) (by kernel_rfl) (by kernel_rfl) (Below.refl _ _).drew ?_
                    repeat (go_big_quiet_step (fail))
                    refine wpQuiet_nil ?_
                    rintro _ ⟨⟨W4, hW4⟩, rfl⟩
                    have hb4 := Lib.hid (hbel.out.trans (hW4.mono hbel.out.size))
                    clear hW4
                    go_wp2
                    go_ret
                    exact ⟨by rw [HV.out]; rfl, HBB.out _ hb4.out⟩
                  · have l1 : decide (x2 < y2) = false := decide_eq_false (by omega)
                    have l2 : (x2 == y2) = true := by simpa using h3
                    by_cases h4 : x0 < y0
                    · have l3 : decide (x0 < y0) = true := decide_eq_true h4
                      have HV := Lib.hid (HN0.out (fun h => by have := HE.1 (HUN.out h); omega))
                      clear HE hu h3 h4
                      go_wp2
                      refine wp_region_inW (fun W => Below wr.heap.size wr W) (by kernel_rfl) (by kernel_rfl) (Below.refl _ _).drew ?_
                      repeat (go_big_quiet_step (fail))
                      refine wpQuiet_nil ?_
                      rintro _ ⟨⟨W4, hW4⟩, rfl⟩
                      have hb4 := Lib.hid (hbel.out.trans (hW4.mono hbel.out.size))
                      clear hW4
                      go_wp2
                      go_ret
                      exact ⟨by rw [HV.out]; rfl, HBB.out _ hb4.out⟩
                    · have l3 : decide (x0 < y0) = false := decide_eq_false h4
                      have HNX := Lib.hid (HS.out (HUX.out (HE.2 (by omega))))
                      clear HE hu h3 h4
                      go_wp2
                      refine wp_region_inW (fun W => Below wr.heap.size wr W) (by kernel_rfl) (by kernel_rfl) (Below.refl _ _).drew ?_
                      repeat (go_big_quiet_step (fail))
                      refine wpQuiet_nil ?_
                      rintro _ ⟨⟨W4, hW4⟩, rfl⟩
                      have hb4 := Lib.hid (hbel.out.trans (hW4.mono hbel.out.size))
                      clear hW4
                      go_wp2
                      go_roundg (b.os.length - (k + 1))
                      case measure => omega
                      case rel => exact ⟨k + 1, by omega, rfl, by go_num, HNX.out, HFF.out _ hb4.out⟩
                  · have l1 : decide (x2 < y2) = false := decide_eq_false (by omega)
                    have l2 : (x2 == y2) = false := by simp; omega
                    have HNX := Lib.hid (HS.out (HUX.out (HE.2 (by omega))))
                    clear HE hu h3
                    go_wp2
                    refine wp_region_inW (fun W => Below wr.heap.size wr W) (by kernel_rfl) (by kernel_rfl) (Below.refl _ _).drew ?_
                    repeat (go_big_quiet_step (fail))
                    refine wpQuiet_nil ?_
                    rintro _ ⟨⟨W4, hW4⟩, rfl⟩
                    have hb4 := Lib.hid (hbel.out.trans (hW4.mono hbel.out.size))
                    clear hW4
                    go_wp2
                    go_roundg (b.os.length - (k + 1))
                    case measure => omega
                    case rel => exact ⟨k + 1, by omega, rfl, by go_num, HNX.out, HFF.out _ hb4.out⟩
      · have hd : decide (k < b.os.length) = false := by simp; omega
        have hd' : decide ((k : Int) < (b.os.length : Int)) = false := by simp; omega
        obtain rfl : k = b.os.length := by omega
        have HV := Lib.hid (HY.out ⟨h40, HA.out⟩)
        clear hlt hfit
        go_wp2
        go_ret
        exact ⟨by rw [HV.out]; rfl, HB.out⟩
  · have d40 : decide (40 < b.os.length) = true := by simp; omega
    have d40' : decide ((40 : Int) < (b.os.length : Int)) = true := by simp; omega
    have HV := Lib.hid (HN.out (fun h => h40 h.1))
    clear h40
    go_enter Try.func64, Try.ntmps64
    go_wp2
    go_ret
    exact ⟨by rw [HV.out]; rfl, F0.out.below⟩


set_option maxRecDepth 20000 in
set_option maxHeartbeats 8000000 in
theorem board_spec (b : Bd) (a : BdA) (hz : BdSz b) (w : World) (h : BdAt w w.heap.size b a) :
    Calls Try.prog 26 #[bdV b a] w fun e w' => e = .returned (.bool (brdB b)) ∧ Below w.heap.size w w' := by
  have F0 := Lib.hid (Fit.made w (bdL b a) 58)
  have HAT := Lib.hid (fun W (hb : Below w.heap.size w W) => h.full hb)
  have HZ := Lib.hid hz
  have HIN := Lib.hid (fun x lo hi W => (in_anyP x lo hi W).mono fun e w' h => (show ∃ t, e = .returned (.bool t) ∧ (t = true ↔ (lo ≤ x ∧ x ≤ hi)) ∧ W = w' from ⟨_, h.1, decide_eq_true_iff, h.2⟩))
  have H8 := Lib.hid (fun W (hb : Below w.heap.size w W) => (rcr_spec b.r a.aR a.aX b.rs b.xs a.cR a.cX HZ.out.rs HZ.out.tot HZ.out.xs W (HAT.out W hb).rs (HAT.out W hb).xs).mono fun e w' h => (show ∃ t, e = .returned (.bool t) ∧ (t = true ↔ RcrOk b.r b.rs b.xs) ∧ Below W.heap.size W w' from ⟨_, h.1, rcrB_iff, h.2⟩))
  have H9 := Lib.hid (fun (hT : 0 ≤ b.tk ∧ b.tk ≤ 65535) W (hb : Below w.heap.size w W) => (ord_spec b a hT HZ.out.os W (HAT.out W hb).os).mono fun e w' h => (show ∃ t, e = .returned (.bool t) ∧ (t = true ↔ (b.os.length ≤ 40 ∧ OrdTo b.tk b.os b.os.length)) ∧ Below W.heap.size W w' from ⟨_, h.1, ordB_iff, h.2⟩))
  clear h hz
  go_enter Try.func26, Try.ntmps26
  have k0 := F0.out.box.cell 0 (by simp)
  have H1 := Lib.hid ((in_anyP b.cl 0 1000000 (w.alloc (.cells (bdL b a).toArray 58))).mono fun e w' h => (show ∃ t, e = .returned (.bool t) ∧ (t = true ↔ (0 ≤ b.cl ∧ b.cl ≤ 1000000)) ∧ Fit w w' w.heap.size (bdL b a) from by obtain ⟨h1, rfl⟩ := h; exact ⟨_, h1, decide_eq_true_iff, F0.out⟩))
  go_wp2_with fail
  refine H1.out.mono ?_
  rintro e w0 ⟨t1, rfl, ht1, hf⟩
  clear F0 k0 H1
  have F0 := Lib.hid hf
  clear hf
  have k0 := F0.out.box.cell 0 (by simp)
  have k1 := F0.out.box.cell 1 (by simp)
  have k2 := F0.out.box.cell 2 (by simp)
  have k3 := F0.out.box.cell 3 (by simp)
  have k4 := F0.out.box.cell 4 (by simp)
  have k5 := F0.out.box.cell 5 (by simp)
  have k6 := F0.out.box.cell 6 (by simp)
  have k7 := F0.out.box.cell 7 (by simp)
  have k8 := F0.out.box.cell 8 (by simp)
  have k9 := F0.out.box.cell 9 (by simp)
  have k10 := F0.out.box.cell 10 (by simp)
  have k11 := F0.out.box.cell 11 (by simp)
  cases t1
  · have HV := Lib.hid (brdB_arm (b := b) BrdOk.cl ht1 rfl)
    clear ht1
    go_wp2
    go_ret
    exact ⟨by rw [HV.out]; rfl, F0.out.below⟩
  · have g1 := Lib.hid (ht1.1 rfl)
    clear ht1
    by_cases g2x : b.ps.length = 8
    rotate_left
    · have d3 : ((b.ps.length : Int) == 8) = false := by simp; omega
      have d3' : (b.ps.length == 8) = false := by simpa using g2x
      have HV := Lib.hid (brdB_no (b := b) (fun h => g2x h.p8))
      go_wp2
      go_ret
      exact ⟨by rw [HV.out]; rfl, F0.out.below⟩
    have d3 : (b.ps.length : Int) = 8 := by omega
    have g2 := Lib.hid g2x
    clear g2x
    by_cases g3 : b.ls.length ≤ 8
    rotate_left
    · have d1 : decide (8 < b.ls.length) = true := by simp; omega
      have d2 : decide ((8 : Int) < (b.ls.length : Int)) = true := by simp; omega
      have HV := Lib.hid (brdB_no (b := b) (fun h => g3 (h.ls.2)))
      go_wp2
      go_ret
      exact ⟨by rw [HV.out]; rfl, F0.out.below⟩
    have dg31 : decide (8 < b.ls.length) = false := by simp; omega
    have dg32 : decide ((8 : Int) < (b.ls.length : Int)) = false := by simp; omega
    have g3 := Lib.hid g3
    go_wp2_with fail
    refine (HIN.out _ _ _ _).mono ?_
    rintro e w' ⟨t1, rfl, ht1, rfl⟩
    clear d3 dg31 dg32
    cases t1
    · have HV := Lib.hid (brdB_arm (b := b) BrdOk.md ht1 rfl)
      clear ht1
      go_wp2
      go_ret
      exact ⟨by rw [HV.out]; rfl, F0.out.below⟩
    · have g4 := Lib.hid (ht1.1 rfl)
      clear ht1
      go_wp2_with fail
      refine (HIN.out _ _ _ _).mono ?_
      rintro e w' ⟨t1, rfl, ht1, rfl⟩
      cases t1
      · have HV := Lib.hid (brdB_arm (b := b) BrdOk.tk ht1 rfl)
        clear ht1
        go_wp2
        go_ret
        exact ⟨by rw [HV.out]; rfl, F0.out.below⟩
      · have g5 := Lib.hid (ht1.1 rfl)
        clear ht1
        by_cases g6 : b.ds.length ≤ 5000
        rotate_left
        · have d1 : decide (5000 < b.ds.length) = true := by simp; omega
          have d2 : decide ((5000 : Int) < (b.ds.length : Int)) = true := by simp; omega
          have HV := Lib.hid (brdB_no (b := b) (fun h => g6 (h.ds.2)))
          go_wp2
          go_ret
          exact ⟨by rw [HV.out]; rfl, F0.out.below⟩
        have dg61 : decide (5000 < b.ds.length) = false := by simp; omega
        have dg62 : decide ((5000 : Int) < (b.ds.length : Int)) = false := by simp; omega
        have g6 := Lib.hid g6
        by_cases g7 : b.qs.length ≤ 5000
        rotate_left
        · have d1 : decide (5000 < b.qs.length) = true := by simp; omega
          have d2 : decide ((5000 : Int) < (b.qs.length : Int)) = true := by simp; omega
          have HV := Lib.hid (brdB_no (b := b) (fun h => g7 (h.q5)))
          go_wp2
          go_ret
          exact ⟨by rw [HV.out]; rfl, F0.out.below⟩
        have dg71 : decide (5000 < b.qs.length) = false := by simp; omega
        have dg72 : decide ((5000 : Int) < (b.qs.length : Int)) = false := by simp; omega
        have g7 := Lib.hid g7
        go_wp2_with fail
        refine (H8.out _ F0.out.below).mono ?_
        rintro e w1 ⟨t1, rfl, ht1, hb⟩
        have F1 := Lib.hid (F0.out.more hb)
        clear hb F0 dg61 dg62 dg71 dg72 k0 k1 k2 k3 k4 k5 k6 k7 k8 k9 k10 k11
        cases t1
        · have HV := Lib.hid (brdB_arm (b := b) BrdOk.rok ht1 rfl)
          clear ht1
          go_wp2
          go_ret
          exact ⟨by rw [HV.out]; rfl, F1.out.below⟩
        · have g8 := Lib.hid (ht1.1 rfl)
          clear ht1
          have k0 := F1.out.box.cell 0 (by simp)
          have k1 := F1.out.box.cell 1 (by simp)
          have k2 := F1.out.box.cell 2 (by simp)
          have k3 := F1.out.box.cell 3 (by simp)
          have k4 := F1.out.box.cell 4 (by simp)
          have k5 := F1.out.box.cell 5 (by simp)
          have k6 := F1.out.box.cell 6 (by simp)
          have k7 := F1.out.box.cell 7 (by simp)
          have k8 := F1.out.box.cell 8 (by simp)
          have k9 := F1.out.box.cell 9 (by simp)
          have k10 := F1.out.box.cell 10 (by simp)
          have k11 := F1.out.box.cell 11 (by simp)
          go_wp2_with fail
          refine (H9.out g5.out _ F1.out.below).mono ?_
          rintro e w2 ⟨t1, rfl, ht1, hb⟩
          have F2 := Lib.hid (F1.out.more hb)
          clear hb F1 k0 k1 k2 k3 k4 k5 k6 k7 k8 k9 k10 k11
          cases t1
          · have HV := Lib.hid (brdB_arm (b := b) BrdOk.os ht1 rfl)
            clear ht1
            go_wp2
            go_ret
            exact ⟨by rw [HV.out]; rfl, F2.out.below⟩
          · have g9 := Lib.hid (ht1.1 rfl)
            clear ht1
            have k1 := F2.out.box.cell 1 (by simp)
            have hwt : IntKind.i64.wrap (b.tk - 1) = b.tk - 1 := IntWalk.i64_in _ (by have := g5.out; omega)
            have hwt' : wrap64 (b.tk - 1) = b.tk - 1 := by have := g5.out; unfold wrap64; omega
            go_wp2
            clear k1
            go_loopg [3] b.ps.length (fun gh v wx => ∃ k : Nat, k ≤ b.ps.length ∧ gh = b.ps.length - k ∧ v = .int .i64 (k : Int) ∧ (∀ j (hj : j < b.ps.length), j < k → 0 ≤ b.ps[j] ∧ b.ps[j] ≤ 65535) ∧ Fit w wx w.heap.size (bdL b a))
            case atStart => exact ⟨0, by omega, rfl, rfl, fun j _ h => absurd h (Nat.not_lt_zero _), F2.out⟩
            case round =>
              obtain ⟨k, hk, rfl, rfl, hall, hfit⟩ := hrel
              have HA := Lib.hid hall
              have HF := Lib.hid hfit
              have kc := hfit.box.cell 1 (by simp)
              clear hall
              by_cases hlt : k < b.ps.length
              · have hd : decide (k < b.ps.length) = true := by simp; omega
                have hd' : decide ((k : Int) < (b.ps.length : Int)) = true := by simp; omega
                obtain ⟨bb, off, har, hb, hcl⟩ := inCellsI (HAT.out _ hfit.below).ps (by omega)
                replace kc : wr.cell? ⟨w.heap.size, 1, none⟩ = some (.slice (some ⟨bb, off, none⟩) b.ps.length a.cP) := (show wr.cell? ⟨w.heap.size, 1, none⟩ = some (.slice a.aP b.ps.length a.cP) from kc).trans (by rw [har])
                have HAR := Lib.hid har
                have hlz := HZ.out.ps
                have HNX := Lib.hid (show 0 ≤ b.ps[k] ∧ b.ps[k] ≤ 65535 → ∀ j (hj : j < b.ps.length), j < k + 1 → 0 ≤ b.ps[j] ∧ b.ps[j] ≤ 65535 from fun h j hj hjk => by
                  rcases Nat.lt_or_ge j k with h3 | h3
                  · exact HA.out j hj h3
                  · obtain rfl : j = k := by omega
                    exact h)
                have c0 := hcl k hlt
                have HNO := Lib.hid (show ¬ (0 ≤ b.ps[k] ∧ b.ps[k] ≤ 65535) → brdB b = false from fun g => brdB_no (fun h => g (within_at h.ps k hlt)))
                clear hcl hfit har hb
                generalize b.ps[k] = x at *
                go_wp2_with fail
                refine (HIN.out _ _ _ _).mono ?_
                rintro e w' ⟨t1, rfl, ht1, rfl⟩
                cases t1
                · have HV := Lib.hid (HNO.out (fun g => Bool.noConfusion (ht1.2 g)))
                  clear ht1
                  go_wp2
                  go_ret
                  exact ⟨by rw [HV.out]; rfl, HF.out.below⟩
                · have HOK := Lib.hid (ht1.1 rfl)
                  clear ht1
                  go_wp2
                  go_roundg (b.ps.length - (k + 1))
                  case measure => omega
                  case rel => exact ⟨k + 1, by omega, rfl, by go_num, HNX.out (by exact HOK.out), HF.out⟩
              · have hd : decide (k < b.ps.length) = false := by simp; omega
                have hd' : decide ((k : Int) < (b.ps.length : Int)) = false := by simp; omega
                have G1 := Lib.hid (show ∀ j (hj : j < b.ps.length), 0 ≤ b.ps[j] ∧ b.ps[j] ≤ 65535 from fun j hj => HA.out j hj (by omega))
                have G1F := HF
                have n3 := hfit.box.cell 3 (by simp)
                clear hlt hfit HA HF
                go_wp2
                clear kc hd hd' n3
                go_loopg [4] b.ls.length (fun gh v wx => ∃ k : Nat, k ≤ b.ls.length ∧ gh = b.ls.length - k ∧ v = .int .i64 (k : Int) ∧ (∀ j (hj : j < b.ls.length), j < k → LimOk b.ls[j]) ∧ Fit w wx w.heap.size (bdL b a))
                case atStart => exact ⟨0, by omega, rfl, rfl, fun j _ h => absurd h (Nat.not_lt_zero _), G1F.out⟩
                case round =>
                  obtain ⟨k, hk, rfl, rfl, hall, hfit⟩ := hrel
                  have HA := Lib.hid hall
                  have HF := Lib.hid hfit
                  have kc := hfit.box.cell 3 (by simp)
                  clear hall
                  by_cases hlt : k < b.ls.length
                  · have hd : decide (k < b.ls.length) = true := by simp; omega
                    have hd' : decide ((k : Int) < (b.ls.length : Int)) = true := by simp; omega
                    obtain ⟨bb, off, har, hb, hcl⟩ := lmCellsI (b := 0) (off := 0) (HAT.out _ hfit.below).ls (by omega)
                    replace kc : wr.cell? ⟨w.heap.size, 3, none⟩ = some (.slice (some ⟨bb, off, none⟩) b.ls.length a.cL) := (show wr.cell? ⟨w.heap.size, 3, none⟩ = some (.slice a.aL b.ls.length a.cL) from kc).trans (by rw [har])
                    have HAR := Lib.hid har
                    have hlz := HZ.out.ls
                    have HNX := Lib.hid (show LimOk b.ls[k] → ∀ j (hj : j < b.ls.length), j < k + 1 → LimOk b.ls[j] from fun h j hj hjk => by
                      rcases Nat.lt_or_ge j k with h3 | h3
                      · exact HA.out j hj h3
                      · obtain rfl : j = k := by omega
                        exact h)
                    obtain ⟨c0, c1, c2⟩ := hcl k hlt
                    have HNO := Lib.hid (show ¬ ((0 ≤ b.ls[k].1 ∧ b.ls[k].1 ≤ 7) ∧ (0 ≤ b.ls[k].2.1 ∧ b.ls[k].2.1 ≤ 65535) ∧ (0 ≤ b.ls[k].2.2 ∧ b.ls[k].2.2 ≤ 65535)) → brdB b = false from fun g => brdB_no (fun h => g (h.ls.1 k hlt)))
                    have HOKX := Lib.hid (show ((0 ≤ b.ls[k].1 ∧ b.ls[k].1 ≤ 7) ∧ (0 ≤ b.ls[k].2.1 ∧ b.ls[k].2.1 ≤ 65535) ∧ (0 ≤ b.ls[k].2.2 ∧ b.ls[k].2.2 ≤ 65535)) → LimOk b.ls[k] from fun g => g)
                    obtain ⟨q, hq⟩ : ∃ q, q = (LimOk b.ls[k]) := ⟨_, rfl⟩
                    rw [← hq] at HNX HOKX
                    clear hcl har hb hq
                    generalize b.ls[k].1 = x0 at *
                    generalize b.ls[k].2.1 = x1 at *
                    generalize b.ls[k].2.2 = x2 at *
                    have B0 := Box.made wr [.int .i64 x0, .int .i64 x1, .int .i64 x2] 93 wr.heap.size rfl
                    have n0 := B0.cell 0 (by simp)
                    have n1 := B0.cell 1 (by simp)
                    have n2 := B0.cell 2 (by simp)
                    have HF1 := Lib.hid (HF.out.more ((Below.refl _ wr).alloc (Nat.le_refl _) (.cells #[.int .i64 x0, .int .i64 x1, .int .i64 x2] 93)))
                    clear B0 hfit
                    go_wp2_with fail
                    refine (HIN.out _ _ _ _).mono ?_
                    rintro e w' ⟨t1, rfl, ht1, rfl⟩
                    cases t1
                    · have HV := Lib.hid (HNO.out (fun g => Bool.noConfusion (ht1.2 g.1)))
                      clear ht1
                      go_wp2
                      go_ret
                      exact ⟨by rw [HV.out]; rfl, HF1.out.below⟩
                    · have p0 := Lib.hid (ht1.1 rfl)
                      clear ht1
                      go_wp2_with fail
                      refine (HIN.out _ _ _ _).mono ?_
                      rintro e w' ⟨t1, rfl, ht1, rfl⟩
                      cases t1
                      · have HV := Lib.hid (HNO.out (fun g => Bool.noConfusion (ht1.2 g.2.1)))
                        clear ht1
                        go_wp2
                        go_ret
                        exact ⟨by rw [HV.out]; rfl, HF1.out.below⟩
                      · have p1 := Lib.hid (ht1.1 rfl)
                        clear ht1
                        go_wp2_with fail
                        refine (HIN.out _ _ _ _).mono ?_
                        rintro e w' ⟨t1, rfl, ht1, rfl⟩
                        cases t1
                        · have HV := Lib.hid (HNO.out (fun g => Bool.noConfusion (ht1.2 g.2.2)))
                          clear ht1
                          go_wp2
                          go_ret
                          exact ⟨by rw [HV.out]; rfl, HF1.out.below⟩
                        · have p2 := Lib.hid (ht1.1 rfl)
                          clear ht1
                          have HOK := Lib.hid (HOKX.out ⟨p0.out, p1.out, p2.out⟩)
                          go_wp2
                          go_roundg (b.ls.length - (k + 1))
                          case measure => omega
                          case rel => exact ⟨k + 1, by omega, rfl, by go_num, HNX.out (by exact HOK.out), HF1.out⟩
                  · have hd : decide (k < b.ls.length) = false := by simp; omega
                    have hd' : decide ((k : Int) < (b.ls.length : Int)) = false := by simp; omega
                    have G2 := Lib.hid (show ∀ j (hj : j < b.ls.length), LimOk b.ls[j] from fun j hj => HA.out j hj (by omega))
                    have G2F := HF
                    have n5 := hfit.box.cell 5 (by simp)
                    clear hlt hfit HA HF
                    go_wp2
                    clear kc hd hd' n5
                    go_loopg [6] b.ds.length (fun gh v wx => ∃ k : Nat, k ≤ b.ds.length ∧ gh = b.ds.length - k ∧ v = .int .i64 (k : Int) ∧ (∀ j (hj : j < b.ds.length), j < k → DnOk b.tk b.ds[j]) ∧ Fit w wx w.heap.size (bdL b a))
                    case atStart => exact ⟨0, by omega, rfl, rfl, fun j _ h => absurd h (Nat.not_lt_zero _), G2F.out⟩
                    case round =>
                      obtain ⟨k, hk, rfl, rfl, hall, hfit⟩ := hrel
                      have HA := Lib.hid hall
                      have HF := Lib.hid hfit
                      have kc := hfit.box.cell 5 (by simp)
                      clear hall
                      by_cases hlt : k < b.ds.length
                      · have hd : decide (k < b.ds.length) = true := by simp; omega
                        have hd' : decide ((k : Int) < (b.ds.length : Int)) = true := by simp; omega
                        obtain ⟨bb, off, har, hb, hcl⟩ := dnCellsI (b := 0) (off := 0) (HAT.out _ hfit.below).ds (by omega)
                        replace kc : wr.cell? ⟨w.heap.size, 5, none⟩ = some (.slice (some ⟨bb, off, none⟩) b.ds.length a.cD) := (show wr.cell? ⟨w.heap.size, 5, none⟩ = some (.slice a.aD b.ds.length a.cD) from kc).trans (by rw [har])
                        have HAR := Lib.hid har
                        have hlz := HZ.out.ds
                        have HNX := Lib.hid (show DnOk b.tk b.ds[k] → ∀ j (hj : j < b.ds.length), j < k + 1 → DnOk b.tk b.ds[j] from fun h j hj hjk => by
                          rcases Nat.lt_or_ge j k with h3 | h3
                          · exact HA.out j hj h3
                          · obtain rfl : j = k := by omega
                            exact h)
                        obtain ⟨c0, c1, c2⟩ := hcl k hlt
                        have HNO := Lib.hid (show ¬ ((0 ≤ b.ds[k].1 ∧ b.ds[k].1 ≤ b.tk - 1) ∧ (0 ≤ b.ds[k].2.1 ∧ b.ds[k].2.1 ≤ 1000000) ∧ (0 ≤ b.ds[k].2.2 ∧ b.ds[k].2.2 ≤ 1)) → brdB b = false from fun g => brdB_no (fun h => g (h.ds.1 k hlt)))
                        have HOKX := Lib.hid (show ((0 ≤ b.ds[k].1 ∧ b.ds[k].1 ≤ b.tk - 1) ∧ (0 ≤ b.ds[k].2.1 ∧ b.ds[k].2.1 ≤ 1000000) ∧ (0 ≤ b.ds[k].2.2 ∧ b.ds[k].2.2 ≤ 1)) → DnOk b.tk b.ds[k] from fun g => g)
                        obtain ⟨q, hq⟩ : ∃ q, q = (DnOk b.tk b.ds[k]) := ⟨_, rfl⟩
                        rw [← hq] at HNX HOKX
                        clear hcl har hb hq
                        generalize b.ds[k].1 = x0 at *
                        generalize b.ds[k].2.1 = x1 at *
                        generalize b.ds[k].2.2 = x2 at *
                        have B0 := Box.made wr [.int .i64 x0, .int .i64 x1, .int .i64 x2] 95 wr.heap.size rfl
                        have n0 := B0.cell 0 (by simp)
                        have n1 := B0.cell 1 (by simp)
                        have n2 := B0.cell 2 (by simp)
                        have HF1 := Lib.hid (HF.out.more ((Below.refl _ wr).alloc (Nat.le_refl _) (.cells #[.int .i64 x0, .int .i64 x1, .int .i64 x2] 95)))
                        have k10 := HF1.out.box.cell 10 (by simp)
                        clear B0 hfit
                        go_wp2_with fail
                        refine (HIN.out _ _ _ _).mono ?_
                        rintro e w' ⟨t1, rfl, ht1, rfl⟩
                        cases t1
                        · have HV := Lib.hid (HNO.out (fun g => Bool.noConfusion (ht1.2 g.1)))
                          clear ht1
                          go_wp2
                          go_ret
                          exact ⟨by rw [HV.out]; rfl, HF1.out.below⟩
                        · have p0 := Lib.hid (ht1.1 rfl)
                          clear ht1
                          go_wp2_with fail
                          refine (HIN.out _ _ _ _).mono ?_
                          rintro e w' ⟨t1, rfl, ht1, rfl⟩
                          cases t1
                          · have HV := Lib.hid (HNO.out (fun g => Bool.noConfusion (ht1.2 g.2.1)))
                            clear ht1
                            go_wp2
                            go_ret
                            exact ⟨by rw [HV.out]; rfl, HF1.out.below⟩
                          · have p1 := Lib.hid (ht1.1 rfl)
                            clear ht1
                            go_wp2_with fail
                            refine (HIN.out _ _ _ _).mono ?_
                            rintro e w' ⟨t1, rfl, ht1, rfl⟩
                            cases t1
                            · have HV := Lib.hid (HNO.out (fun g => Bool.noConfusion (ht1.2 g.2.2)))
                              clear ht1
                              go_wp2
                              go_ret
                              exact ⟨by rw [HV.out]; rfl, HF1.out.below⟩
                            · have p2 := Lib.hid (ht1.1 rfl)
                              clear ht1
                              have HOK := Lib.hid (HOKX.out ⟨p0.out, p1.out, p2.out⟩)
                              go_wp2
                              go_roundg (b.ds.length - (k + 1))
                              case measure => omega
                              case rel => exact ⟨k + 1, by omega, rfl, by go_num, HNX.out (by exact HOK.out), HF1.out⟩
                      · have hd : decide (k < b.ds.length) = false := by simp; omega
                        have hd' : decide ((k : Int) < (b.ds.length : Int)) = false := by simp; omega
                        have G3 := Lib.hid (show ∀ j (hj : j < b.ds.length), DnOk b.tk b.ds[j] from fun j hj => HA.out j hj (by omega))
                        have G3F := HF
                        have n7 := hfit.box.cell 7 (by simp)
                        clear hlt hfit HA HF
                        go_wp2
                        clear kc hd hd' n7
                        go_loopg [8] b.rs.length (fun gh v wx => ∃ k : Nat, k ≤ b.rs.length ∧ gh = b.rs.length - k ∧ v = .int .i64 (k : Int) ∧ (∀ j (hj : j < b.rs.length), j < k → b.rs[j].1 < b.md) ∧ Fit w wx w.heap.size (bdL b a))
                        case atStart => exact ⟨0, by omega, rfl, rfl, fun j _ h => absurd h (Nat.not_lt_zero _), G3F.out⟩
                        case round =>
                          obtain ⟨k, hk, rfl, rfl, hall, hfit⟩ := hrel
                          have HA := Lib.hid hall
                          have HF := Lib.hid hfit
                          have kc := hfit.box.cell 7 (by simp)
                          clear hall
                          by_cases hlt : k < b.rs.length
                          · have hd : decide (k < b.rs.length) = true := by simp; omega
                            have hd' : decide ((k : Int) < (b.rs.length : Int)) = true := by simp; omega
                            obtain ⟨bb, off, har, hb, hcl⟩ := rcCellsI (b := 0) (off := 0) (HAT.out _ hfit.below).rs (by omega)
                            replace kc : wr.cell? ⟨w.heap.size, 7, none⟩ = some (.slice (some ⟨bb, off, none⟩) b.rs.length a.cR) := (show wr.cell? ⟨w.heap.size, 7, none⟩ = some (.slice a.aR b.rs.length a.cR) from kc).trans (by rw [har])
                            have HAR := Lib.hid har
                            have hlz := HZ.out.rs
                            have HNX := Lib.hid (show b.rs[k].1 < b.md → ∀ j (hj : j < b.rs.length), j < k + 1 → b.rs[j].1 < b.md from fun h j hj hjk => by
                              rcases Nat.lt_or_ge j k with h3 | h3
                              · exact HA.out j hj h3
                              · obtain rfl : j = k := by omega
                                exact h)
                            have hbb : bb < wr.heap.size := hb
                            have c0' := (hcl k hlt).1
                            have hall : ∀ q : Prop, (InW (fun W => Below wr.heap.size wr W) → q) ↔ q := fun q => ⟨fun h => h ⟨_, Below.refl _ _⟩, fun h _ => h⟩
                            have k7 : ∀ p : InW (fun W => Below wr.heap.size wr W), p.W.cell? ⟨w.heap.size, 7, none⟩ = some (.slice (some ⟨bb, off, none⟩) b.rs.length a.cR) := fun p => ((show p.W.cell? ⟨w.heap.size, 7, none⟩ = some (.slice a.aR b.rs.length a.cR) from (HF.out.more p.ok).box.cell 7 (by simp))).trans (by rw [HAR.out])
                            have k9 : ∀ p : InW (fun W => Below wr.heap.size wr W), p.W.cell? ⟨w.heap.size, 9, none⟩ = some (.int .i64 b.md) := fun p => (HF.out.more p.ok).box.cell 9 (by simp)
                            have c0 : ∀ p : InW (fun W => Below wr.heap.size wr W), p.W.cell? ⟨bb, off + k * 4, none⟩ = some (.int .i64 (b.rs[k]'hlt).1) := fun p => (p.ok.cell (p := ⟨bb, off + k * 4, none⟩) hbb).trans c0'
                            clear hcl har hb hfit c0'
                            by_cases g : (b.rs[k]'hlt).1 < b.md
                            · have dg : decide (b.md ≤ (b.rs[k]'hlt).1) = false := by simp; omega
                              have HOK := Lib.hid g
                              clear g
                              generalize (b.rs[k]'hlt).1 = y at *
                              go_wp2
                              refine wp_region_inW (fun W => Below wr.heap.size wr W) (by kernel_rfl) (by kernel_rfl) (Below.refl _ _).drew ?_
                              repeat (go_big_quiet_step (fail))
                              refine wpQuiet_nil ?_
                              rintro _ ⟨⟨W4, hW4⟩, rfl⟩
                              have HF4 := Lib.hid (HF.out.more hW4)
                              clear hW4
                              go_wp2
                              go_roundg (b.rs.length - (k + 1))
                              case measure => omega
                              case rel => exact ⟨k + 1, by omega, rfl, by go_num, HNX.out (by exact HOK.out), HF4.out⟩
                            · have dg : decide (b.md ≤ (b.rs[k]'hlt).1) = true := by simp; omega
                              have HV := Lib.hid (brdB_no (b := b) (fun h => g (h.ids k hlt)))
                              clear g HNX
                              generalize (b.rs[k]'hlt).1 = y at *
                              go_wp2
                              refine wp_region_inW (fun W => Below wr.heap.size wr W) (by kernel_rfl) (by kernel_rfl) (Below.refl _ _).drew ?_
                              repeat (go_big_quiet_step (fail))
                              refine wpQuiet_nil ?_
                              rintro _ ⟨⟨W4, hW4⟩, rfl⟩
                              have HF4 := Lib.hid (HF.out.more hW4)
                              clear hW4
                              go_wp2
                              go_ret
                              exact ⟨by rw [HV.out]; rfl, HF4.out.below⟩
                          · have hd : decide (k < b.rs.length) = false := by simp; omega
                            have hd' : decide ((k : Int) < (b.rs.length : Int)) = false := by simp; omega
                            have G4 := Lib.hid (show ∀ j (hj : j < b.rs.length), b.rs[j].1 < b.md from fun j hj => HA.out j hj (by omega))
                            have G4F := HF
                            have n11 := hfit.box.cell 11 (by simp)
                            clear hlt hfit HA HF
                            go_wp2
                            clear kc hd hd' n11
                            go_loopg [9] b.qs.length (fun gh v wx => ∃ k : Nat, k ≤ b.qs.length ∧ gh = b.qs.length - k ∧ v = .int .i64 (k : Int) ∧ (∀ j (hj : j < b.qs.length), j < k → 0 ≤ b.qs[j] ∧ b.qs[j] ≤ 7) ∧ Fit w wx w.heap.size (bdL b a))
                            case atStart => exact ⟨0, by omega, rfl, rfl, fun j _ h => absurd h (Nat.not_lt_zero _), G4F.out⟩
                            case round =>
                              obtain ⟨k, hk, rfl, rfl, hall, hfit⟩ := hrel
                              have HA := Lib.hid hall
                              have HF := Lib.hid hfit
                              have kc := hfit.box.cell 11 (by simp)
                              clear hall
                              by_cases hlt : k < b.qs.length
                              · have hd : decide (k < b.qs.length) = true := by simp; omega
                                have hd' : decide ((k : Int) < (b.qs.length : Int)) = true := by simp; omega
                                obtain ⟨bb, off, har, hb, hcl⟩ := inCellsI (HAT.out _ hfit.below).qs (by omega)
                                replace kc : wr.cell? ⟨w.heap.size, 11, none⟩ = some (.slice (some ⟨bb, off, none⟩) b.qs.length a.cQ) := (show wr.cell? ⟨w.heap.size, 11, none⟩ = some (.slice a.aQ b.qs.length a.cQ) from kc).trans (by rw [har])
                                have HAR := Lib.hid har
                                have hlz := HZ.out.qs
                                have HNX := Lib.hid (show 0 ≤ b.qs[k] ∧ b.qs[k] ≤ 7 → ∀ j (hj : j < b.qs.length), j < k + 1 → 0 ≤ b.qs[j] ∧ b.qs[j] ≤ 7 from fun h j hj hjk => by
                                  rcases Nat.lt_or_ge j k with h3 | h3
                                  · exact HA.out j hj h3
                                  · obtain rfl : j = k := by omega
                                    exact h)
                                have c0 := hcl k hlt
                                have HNO := Lib.hid (show ¬ (0 ≤ b.qs[k] ∧ b.qs[k] ≤ 7) → brdB b = false from fun g => brdB_no (fun h => g (within_at h.qs k hlt)))
                                clear hcl hfit har hb
                                generalize b.qs[k] = x at *
                                go_wp2_with fail
                                refine (HIN.out _ _ _ _).mono ?_
                                rintro e w' ⟨t1, rfl, ht1, rfl⟩
                                cases t1
                                · have HV := Lib.hid (HNO.out (fun g => Bool.noConfusion (ht1.2 g)))
                                  clear ht1
                                  go_wp2
                                  go_ret
                                  exact ⟨by rw [HV.out]; rfl, HF.out.below⟩
                                · have HOK := Lib.hid (ht1.1 rfl)
                                  clear ht1
                                  go_wp2
                                  go_roundg (b.qs.length - (k + 1))
                                  case measure => omega
                                  case rel => exact ⟨k + 1, by omega, rfl, by go_num, HNX.out (by exact HOK.out), HF.out⟩
                              · have hd : decide (k < b.qs.length) = false := by simp; omega
                                have hd' : decide ((k : Int) < (b.qs.length : Int)) = false := by simp; omega
                                have G5 := Lib.hid (show ∀ j (hj : j < b.qs.length), 0 ≤ b.qs[j] ∧ b.qs[j] ≤ 7 from fun j hj => HA.out j hj (by omega))
                                have G5F := HF
                                clear hlt hfit HA HF
                                have HV := Lib.hid (brdB_yes (b := b) ⟨g1.out, g4.out, g5.out, g2.out, within_all G1.out, g7.out, within_all G5.out, g8.out, G4.out, ⟨G2.out, g3.out⟩, g9.out, ⟨G3.out, g6.out⟩⟩)
                                go_wp2
                                go_ret
                                exact ⟨by rw [HV.out]; rfl, G5F.out.below⟩
end Go.Proofs.Ytebfefkknaalpab
