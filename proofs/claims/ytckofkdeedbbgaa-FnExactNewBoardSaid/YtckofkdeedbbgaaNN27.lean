/- What this text proves: the parts SRo of the proof, each under its own words. -/
import Derived.Test.YtckofkdeedbbgaaNN07
import Derived.Test.YtckofkdeedbbgaaNN10
import Derived.Test.YtckofkdeedbbgaaNN21
/- What this text proves: the contracts of the model's l05Used, RecorderOk and RoomLeft. -/
namespace Go.Proofs.Ytckofkdeedbbgaa
open Go.ChangeShapes Go.WideShapes Go.ChangeAt Go.RowKit
set_option linter.unusedVariables false

set_option maxHeartbeats 1000000 in
theorem used_spec (A : Option Addr) (l : List Rc) (c : Nat) (hl : l.length ≤ 2000000) (hs : totRc l l.length ≤ 4000000) (w : World) (h : LsI 4 w w.heap.size A (l.map rcC)) :
    Calls Try.prog 99 #[.slice A l.length c] w fun e w' => e = .returned (.int .i64 (useR l l.length : Nat)) ∧ w = w' := by
  have HI := Lib.hid h
  have HS := Lib.hid (fun k (hk : k ≤ l.length) => Nat.le_trans (totRc_le l hk) hs)
  clear h hs
  go_enter Try.func99, Try.ntmps99
  go_wp2
  go_loopg [3, 4] l.length (fun gh v3 v4 wx => ∃ k : Nat, k ≤ l.length ∧ gh = l.length - k ∧ v4 = .int .i64 (k : Int) ∧ v3 = .int .i64 ((useR l k : Nat) : Int) ∧ w = wx)
  case atStart => exact ⟨0, by omega, rfl, rfl, by rw [useR_zero]; rfl, rfl⟩
  case round =>
    obtain ⟨k, hk, rfl, rfl, rfl, rfl⟩ := hrel
    by_cases hlt : k < l.length
    · have hd : decide (k < l.length) = true := by simp; omega
      have hd' : decide ((k : Int) < (l.length : Int)) = true := by simp; omega
      obtain ⟨bb, off, rfl, hb, hc⟩ := rcCellsI (b := 0) (off := 0) HI.out (by omega)
      obtain ⟨c0, c1, c2, c3⟩ := hc k hlt
      have HU := useR_succ l k
      rw [getRc_at hlt] at HU
      have ht := HS.out (k + 1) hlt
      have hu : useR l (k + 1) = 6 * (k + 1) + totRc l (k + 1) := rfl
      have hw1 : IntKind.i64.wrap (((useR l k : Nat) : Int) + 6) = ((useR l k : Nat) : Int) + 6 := IntWalk.i64_in _ (by omega)
      have hw2 : IntKind.i64.wrap (((useR l k : Nat) : Int) + 6 + (l[k].2.2.2.size : Int)) = ((useR l (k + 1) : Nat) : Int) := by rw [HU]; exact (IntWalk.i64_in _ (by omega)).trans (by omega)
      clear hc ht hu HU
      generalize l[k].1 = x0 at *
      generalize l[k].2.1 = x1 at *
      generalize l[k].2.2.1 = x2 at *
      generalize l[k].2.2.2 = x3 at *
      generalize useR l k = U at *
      generalize hUV : useR l (k + 1) = V at *
      have HV := Lib.hid hUV
      clear hUV
      go_wp2
      go_roundg (l.length - (k + 1))
      case measure => omega
      case rel => exact ⟨k + 1, by omega, rfl, by go_num, by rw [HV.out], rfl⟩
    · have hd : decide (k < l.length) = false := by simp; omega
      have hd' : decide ((k : Int) < (l.length : Int)) = false := by simp; omega
      obtain rfl : k = l.length := by omega
      clear hlt
      go_wp2
      go_ret
      exact ⟨rfl, rfl⟩

set_option maxHeartbeats 4000000 in
theorem rcr_spec (r : Int) (A A2 : Option Addr) (l : List Rc) (d : List Int) (c c2 : Nat) (hl : l.length ≤ 2000000) (hs : totRc l l.length ≤ 4000000) (hd : d.length ≤ 2000000) (w : World) (h1 : LsI 4 w w.heap.size A (l.map rcC)) (h2 : LsI 1 w w.heap.size A2 (d.map inC)) :
    Calls Try.prog 97 #[roV r (.slice A l.length c) (.slice A2 d.length c2)] w fun e w' => e = .returned (.bool (rcrB r l d)) ∧ Below w.heap.size w w' := by
  have F0 := Lib.hid (Fit.made w (roL r (.slice A l.length c) (.slice A2 d.length c2)) 30)
  have HN := Lib.hid (fun h => rcrB_no (r := r) (l := l) (d := d) h)
  have HY := Lib.hid (fun h => rcrB_yes (r := r) (l := l) (d := d) h)
  by_cases g1 : 0 ≤ r ∧ r ≤ 4000
  · have H1 := Lib.hid (in_yes r 0 4000 g1.1 g1.2)
    by_cases g4 : d.length ≤ 65536
    · have hd4 : decide (65536 < d.length) = false := by simp; omega
      have hd4' : decide ((65536 : Int) < (d.length : Int)) = false := by simp; omega
      have HIN := Lib.hid (fun x W => in_anyP x 0 65535 W)
      have HI1 := Lib.hid (fun W (hb : Below w.heap.size w W) => h1.more hb)
      have HI2 := Lib.hid (fun W (hb : Below w.heap.size w W) => h2.more hb)
      have HU := Lib.hid (fun W (hb : Below w.heap.size w W) => used_spec A l c hl hs W (h1.full hb))
      have HRD := Lib.hid (fun a b e f W => rd_spec a b e f W)
      clear h1 h2 hs
      go_enter Try.func97, Try.ntmps97
      go_wp2_with fail
      refine (H1.out _).mono ?_
      rintro e w' ⟨rfl, rfl⟩
      go_wp2
      go_loopg [3] d.length (fun gh v wx => ∃ k : Nat, k ≤ d.length ∧ gh = d.length - k ∧ v = .int .i64 (k : Int) ∧ (∀ j (hj : j < d.length), j < k → 0 ≤ d[j] ∧ d[j] ≤ 65535) ∧ Fit w wx w.heap.size (roL r (.slice A l.length c) (.slice A2 d.length c2)))
      case atStart => exact ⟨0, by omega, rfl, rfl, fun j _ h => absurd h (Nat.not_lt_zero _), F0.out⟩
      case round =>
        obtain ⟨k, hk, rfl, rfl, hall, hfit⟩ := hrel
        have HA := Lib.hid hall
        have HF := Lib.hid hfit
        obtain ⟨k0, k1, k2⟩ := hfit.box.threeQ
        clear hall
        by_cases hlt : k < d.length
        · have hd : decide (k < d.length) = true := by simp; omega
          have hd' : decide ((k : Int) < (d.length : Int)) = true := by simp; omega
          obtain ⟨bb, off, rfl, hb, hc⟩ := inCellsI (HI2.out _ hfit.below) (by omega)
          have hck := hc k hlt
          clear hc hfit
          by_cases hin : 0 ≤ d[k] ∧ d[k] ≤ 65535
          · have H2 := HIN.out d[k]
            rw [decide_eq_true hin] at H2
            have HA2 := Lib.hid (show ∀ j (hj : j < d.length), j < k + 1 → 0 ≤ d[j] ∧ d[j] ≤ 65535 from fun j hj hjk => by
              rcases Nat.lt_or_ge j k with h3 | h3
              · exact HA.out j hj h3
              · obtain rfl : j = k := by omega
                exact hin)
            have H2 := Lib.hid H2
            generalize d[k] = x at *
            clear hin
            go_wp2_with fail
            refine (H2.out _).mono ?_
            rintro e w' ⟨rfl, rfl⟩
            go_wp2
            go_roundg (d.length - (k + 1))
            case measure => omega
            case rel => exact ⟨k + 1, by omega, rfl, by go_num, HA2.out, HF.out⟩
          · have H2 := HIN.out d[k]
            rw [decide_eq_false hin] at H2
            have HV := Lib.hid (HN.out (fun h => hin (within_at h.2.2.2.2 k hlt)))
            have H2 := Lib.hid H2
            generalize d[k] = x at *
            clear hin
            go_wp2_with fail
            refine (H2.out _).mono ?_
            rintro e w' ⟨rfl, rfl⟩
            go_wp2
            go_ret
            exact ⟨by rw [HV.out]; rfl, HF.out.below⟩
        · have hd : decide (k < d.length) = false := by simp; omega
          have hd' : decide ((k : Int) < (d.length : Int)) = false := by simp; omega
          have HWI := Lib.hid (within_all (d := d) (a := 0) (b := 65535) (fun j hj => HA.out j hj (by omega)))
          clear hlt hfit HA
          go_wp2
          go_loopg [4] l.length (fun gh v wx => ∃ k : Nat, k ≤ l.length ∧ gh = l.length - k ∧ v = .int .i64 (k : Int) ∧ UpTo l k ∧ Fit w wx w.heap.size (roL r (.slice A l.length c) (.slice A2 d.length c2)))
          case atStart => exact ⟨0, by omega, rfl, rfl, UpTo.zero l, HF.out⟩
          case round =>
            obtain ⟨k, hk, rfl, rfl, hup, hfit⟩ := hrel
            have HUP := Lib.hid hup
            have HFF := Lib.hid hfit
            have HBF := Lib.hid hfit.below
            obtain ⟨k0, k1, k2⟩ := hfit.box.threeQ
            clear hup HF
            by_cases hlt : k < l.length
            · have hd : decide (k < l.length) = true := by simp; omega
              have hd' : decide ((k : Int) < (l.length : Int)) = true := by simp; omega
              obtain ⟨bb, off, rfl, hb, hc⟩ := rcCellsI (b := 0) (off := 0) (HI1.out _ hfit.below) (by omega)
              have HC := Lib.hid hc
              have HG := Lib.hid (getRc_at hlt)
              have HX := Lib.hid (show RdC l[k] ↔ RdOk l[k].1 l[k].2.1 l[k].2.2.1 l[k].2.2.2 from Iff.rfl)
              clear hc hfit
              have hall : ∀ q : Prop, (InW (fun W => Below wr.heap.size wr W) → q) ↔ q := fun q => ⟨fun h => h ⟨_, Below.refl _ _⟩, fun h _ => h⟩
              have kp : ∀ p : InW (fun W => Below wr.heap.size wr W), p.W.cell? ⟨w.heap.size, 1, none⟩ = some (.slice (some ⟨bb, off, none⟩) l.length c) := fun p => (HFF.out.more p.ok).box.threeQ.2.1
              have hbb : bb < wr.heap.size := Nat.lt_of_lt_of_le hb HBF.out.size
              have c0 : ∀ p : InW (fun W => Below wr.heap.size wr W), p.W.cell? ⟨bb, off + k * 4, none⟩ = some (.int .i64 l[k].1) := fun p => (p.ok.cell (p := ⟨bb, off + k * 4, none⟩) hbb).trans (HC.out k hlt).1
              have c1 : ∀ p : InW (fun W => Below wr.heap.size wr W), p.W.cell? ⟨bb, off + k * 4 + 1, none⟩ = some (.int .i64 l[k].2.1) := fun p => (p.ok.cell (p := ⟨bb, off + k * 4 + 1, none⟩) hbb).trans (HC.out k hlt).2.1
              have c2 : ∀ p : InW (fun W => Below wr.heap.size wr W), p.W.cell? ⟨bb, off + k * 4 + 2, none⟩ = some (.int .i64 l[k].2.2.1) := fun p => (p.ok.cell (p := ⟨bb, off + k * 4 + 2, none⟩) hbb).trans (HC.out k hlt).2.2.1
              have c3 : ∀ p : InW (fun W => Below wr.heap.size wr W), p.W.cell? ⟨bb, off + k * 4 + 3, none⟩ = some (.string l[k].2.2.2) := fun p => (p.ok.cell (p := ⟨bb, off + k * 4 + 3, none⟩) hbb).trans (HC.out k hlt).2.2.2
              by_cases hok : RdC l[k]
              · have H2 := fun (W : World) (hW : Below wr.heap.size wr W) => (HRD.out l[k].1 l[k].2.1 l[k].2.2.1 l[k].2.2.2 W).mono fun e w' h => (show e = .returned (.bool true) ∧ Below wr.heap.size wr w' from ⟨by rw [h.1, decide_eq_true (HX.out.1 hok)], hW.trans (h.2.mono hW.size)⟩)
                have H2 := Lib.hid H2
                by_cases hk0 : k = 0
                · subst hk0
                  have HNX := Lib.hid (HUP.out.succ (by rw [HG.out]; exact hok) (by rw [HG.out]; have := hok.1.1; exact (show (-1 : Int) < _ by omega)))
                  rw [Nat.zero_mul, Nat.add_zero] at c0 c1 c2 c3
                  clear hok HX
                  generalize l[0].1 = x0 at *
                  generalize l[0].2.1 = x1 at *
                  generalize l[0].2.2.1 = x2 at *
                  generalize l[0].2.2.2 = x3 at *
                  go_wp2
                  refine wp_region_inW (fun W => Below wr.heap.size wr W) (by kernel_rfl) (by kernel_rfl) (Below.refl _ _).drew ?_
                  repeat (go_big_quiet_step ((go_at_call 98; exact calls_inW (C := fun W => Below wr.heap.size wr W) (H2.out _ (InW.ok (C := fun W => Below wr.heap.size wr W) _)))))
                  refine wpQuiet_nil ?_
                  rintro _ ⟨⟨W2, hW2⟩, rfl⟩
                  have HF2 := Lib.hid (HFF.out.more hW2)
                  clear hW2
                  go_wp2
                  go_roundg (l.length - (0 + 1))
                  case measure => omega
                  case rel => exact ⟨0 + 1, by omega, rfl, by go_num, HNX.out, HF2.out⟩
                · obtain ⟨m, rfl⟩ : ∃ m, k = m + 1 := ⟨k - 1, by omega⟩
                  have hm : m < l.length := by omega
                  have HBM := Lib.hid (show befR l (m + 1) = l[m].1 by simp only [befR]; rw [getRc_at hm])
                  have hd0 : decide (0 < m + 1) = true := by simp
                  have hd0' : decide ((0 : Int) < ((m + 1 : Nat) : Int)) = true := decide_eq_true (by omega)
                  have hw : IntKind.i64.wrap (((m + 1 : Nat) : Int) - 1) = (m : Int) := (IntWalk.i64_in _ (by omega)).trans (by omega)
                  have hw' : IntKind.i64.wrap ((m : Int) + 1 - 1) = (m : Int) := (IntWalk.i64_in _ (by omega)).trans (by omega)
                  have e0 : ∀ p : InW (fun W => Below wr.heap.size wr W), p.W.cell? ⟨bb, off + m * 4, none⟩ = some (.int .i64 l[m].1) := fun p => (p.ok.cell (p := ⟨bb, off + m * 4, none⟩) hbb).trans (HC.out m hm).1
                  by_cases hlt2 : l[m].1 < l[m + 1].1
                  · have hd2 : decide (l[m + 1].1 ≤ l[m].1) = false := by simp; omega
                    have HNX := Lib.hid (HUP.out.succ (by rw [HG.out]; exact hok) (by rw [HG.out, HBM.out]; exact hlt2))
                    clear hok HX hlt2 hk0
                    generalize l[m].1 = y0 at *
                    generalize l[m + 1].1 = x0 at *
                    generalize l[m + 1].2.1 = x1 at *
                    generalize l[m + 1].2.2.1 = x2 at *
                    generalize l[m + 1].2.2.2 = x3 at *
                    go_wp2
                    refine wp_region_inW (fun W => Below wr.heap.size wr W) (by kernel_rfl) (by kernel_rfl) (Below.refl _ _).drew ?_
                    repeat (go_big_quiet_step ((go_at_call 98; exact calls_inW (C := fun W => Below wr.heap.size wr W) (H2.out _ (InW.ok (C := fun W => Below wr.heap.size wr W) _)))))
                    refine wpQuiet_nil ?_
                    rintro _ ⟨⟨W2, hW2⟩, rfl⟩
                    have HF2 := Lib.hid (HFF.out.more hW2)
                    clear hW2
                    go_wp2
                    go_roundg (l.length - (m + 1 + 1))
                    case measure => omega
                    case rel => exact ⟨m + 1 + 1, by omega, rfl, by go_num, HNX.out, HF2.out⟩
                  · have hd2 : decide (l[m + 1].1 ≤ l[m].1) = true := by simp; omega
                    have HV := Lib.hid (HN.out (fun h => hlt2 (by have := (upTo_at h.2.1 hlt hlt).2; rwa [HBM.out] at this)))
                    clear hok HX hlt2 hk0
                    generalize l[m].1 = y0 at *
                    generalize l[m + 1].1 = x0 at *
                    generalize l[m + 1].2.1 = x1 at *
                    generalize l[m + 1].2.2.1 = x2 at *
                    generalize l[m + 1].2.2.2 = x3 at *
                    go_wp2
                    refine wp_region_inW (fun W => Below wr.heap.size wr W) (by kernel_rfl) (by kernel_rfl) (Below.refl _ _).drew ?_
                    repeat (go_big_quiet_step ((go_at_call 98; exact calls_inW (C := fun W => Below wr.heap.size wr W) (H2.out _ (InW.ok (C := fun W => Below wr.heap.size wr W) _)))))
                    refine wpQuiet_nil ?_
                    rintro _ ⟨⟨W2, hW2⟩, rfl⟩
                    have HF2 := Lib.hid (HFF.out.more hW2)
                    clear hW2
                    go_wp2
                    go_ret
                    exact ⟨by rw [HV.out]; rfl, HF2.out.below⟩
              · have H2 := fun (W : World) (hW : Below wr.heap.size wr W) => (HRD.out l[k].1 l[k].2.1 l[k].2.2.1 l[k].2.2.2 W).mono fun e w' h => (show e = .returned (.bool false) ∧ Below wr.heap.size wr w' from ⟨by rw [h.1, decide_eq_false (fun hh => hok (HX.out.2 hh))], hW.trans (h.2.mono hW.size)⟩)
                have H2 := Lib.hid H2
                have HV := Lib.hid (HN.out (fun h => hok (upTo_at h.2.1 hlt hlt).1))
                clear hok HX
                generalize l[k].1 = x0 at *
                generalize l[k].2.1 = x1 at *
                generalize l[k].2.2.1 = x2 at *
                generalize l[k].2.2.2 = x3 at *
                go_wp2
                refine wp_region_inW (fun W => Below wr.heap.size wr W) (by kernel_rfl) (by kernel_rfl) (Below.refl _ _).drew ?_
                repeat (go_big_quiet_step ((go_at_call 98; exact calls_inW (C := fun W => Below wr.heap.size wr W) (H2.out _ (InW.ok (C := fun W => Below wr.heap.size wr W) _)))))
                refine wpQuiet_nil ?_
                rintro _ ⟨⟨W2, hW2⟩, rfl⟩
                have HF2 := Lib.hid (HFF.out.more hW2)
                clear hW2
                go_wp2
                go_ret
                exact ⟨by rw [HV.out]; rfl, HF2.out.below⟩
            · have hd : decide (k < l.length) = false := by simp; omega
              have hd' : decide ((k : Int) < (l.length : Int)) = false := by simp; omega
              obtain rfl : k = l.length := by omega
              have HUW := Lib.hid (fun n => HU.out (wr.drewN n) (below_draws HBF.out n))
              by_cases g3 : (useR l l.length : Int) ≤ r
              · have hd3 : decide ((useR l l.length : Int) ≤ r) = true := decide_eq_true g3
                have HV := Lib.hid (HY.out ⟨g1, HUP.out, g3, g4, HWI.out⟩)
                clear hlt hfit g1 g4
                go_wp2
                go_quiet ((go_at_call 99; exact Calls.quiet_of_same ((HUW.out _).mono fun _ _ h => ⟨h.1, h.2.symm⟩)))
                go_wp2
                go_ret
                exact ⟨by rw [HV.out]; rfl, below_draws HBF.out _⟩
              · have hd3 : decide ((useR l l.length : Int) ≤ r) = false := decide_eq_false g3
                have HV := Lib.hid (HN.out (fun h => g3 h.2.2.1))
                clear hlt hfit g1 g4
                go_wp2
                go_quiet ((go_at_call 99; exact Calls.quiet_of_same ((HUW.out _).mono fun _ _ h => ⟨h.1, h.2.symm⟩)))
                go_wp2
                go_ret
                exact ⟨by rw [HV.out]; rfl, below_draws HBF.out _⟩
    · have hd4 : decide (65536 < d.length) = true := by simp; omega
      have hd4' : decide ((65536 : Int) < (d.length : Int)) = true := by simp; omega
      have HV := Lib.hid (HN.out (fun h => g4 h.2.2.2.1))
      clear g1 g4 h1 h2 hs
      go_enter Try.func97, Try.ntmps97
      go_wp2_with fail
      refine (H1.out _).mono ?_
      rintro e w' ⟨rfl, rfl⟩
      go_wp2
      go_ret
      exact ⟨by rw [HV.out]; rfl, F0.out.below⟩
  · have H1 := Lib.hid (in_no r 0 4000 g1)
    have HV := Lib.hid (HN.out (fun h => g1 h.1))
    clear g1 h1 h2 hs
    go_enter Try.func97, Try.ntmps97
    go_wp2_with fail
    refine (H1.out _).mono ?_
    rintro e w' ⟨rfl, rfl⟩
    go_wp2
    go_ret
    exact ⟨by rw [HV.out]; rfl, F0.out.below⟩

end Go.Proofs.Ytckofkdeedbbgaa
