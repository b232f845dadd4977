/- What this text proves: the contracts of FileOutOk and of the copies of a sender, of the program and the model. -/
import Derived.Test.YtjcdekonidekcafFo
import Derived.Test.YtjcdekonidekcafSg
import Derived.Test.YtjcdekonidekcafInC
import Derived.Deep.LoopGhost
import Derived.Deep.QuietTactic
import Derived.BigQuiet
namespace Go.Proofs.Ytjcdekonidekcaf
open Go.ChangeShapes Go.WideShapes Go.ChangeAt Go.RowKit
set_option linter.unusedVariables false

/-- All numbers are -1 or that of a segment. -/
def AllSeg (n : Int) (l : List Int) : Prop := ∀ k (hk : k < l.length), -1 ≤ l[k] ∧ l[k] ≤ cntS n - 1
def FoOk (f : Int) (d : ByteArray) (l : List Int) : Prop := (0 ≤ f ∧ f ≤ 7) ∧ d.size ≤ 600 ∧ l.length ≤ 1000 ∧ AllSeg d.size l
noncomputable def foB (f : Int) (d : ByteArray) (l : List Int) : Bool := @decide (FoOk f d l) (Classical.propDecidable _)
theorem foB_yes {f : Int} {d : ByteArray} {l : List Int} (h : FoOk f d l) : foB f d l = true := by unfold foB; exact @decide_eq_true _ (Classical.propDecidable _) h
theorem foB_no {f : Int} {d : ByteArray} {l : List Int} (h : ¬ FoOk f d l) : foB f d l = false := by unfold foB; exact @decide_eq_false _ (Classical.propDecidable _) h

set_option maxRecDepth 20000 in
set_option maxHeartbeats 4000000 in
theorem fook_impl (f : Int) (d : ByteArray) (A : Option Addr) (l : List Int) (q : Nat) (b : Bool) (hd : d.size ≤ 1048576) (hl : l.length ≤ 2000000) (w : World) (h : LsI 1 w w.heap.size A (l.map inC)) :
    Calls Try.prog 30 #[foV f d b (.slice A l.length q)] w fun e w' => e = .returned (.bool (foB f d l)) ∧ Below w.heap.size w w' := by
  have S1 := Lib.hid ((St.start w).made (foL f d b (.slice A l.length q)) 46)
  obtain ⟨k0, k1, k2, k3⟩ := (S1.out.box 0 _ _ rfl).fourFo
  have HI := Lib.hid (h.full S1.out.below)
  have HF := Lib.hid (fl_impl f)
  have HS := Lib.hid (fun x => isg_impl x d.size)
  have HB := Lib.hid (cntS_bd d.size)
  have HY := Lib.hid (fun (g1 : 0 ≤ f ∧ f ≤ 7) (g2 : d.size ≤ 600) (g3 : l.length ≤ 1000) (g4 : AllSeg d.size l) => foB_yes ⟨g1, g2, g3, g4⟩)
  have HN := Lib.hid (fun (g : ¬ FoOk f d l) => foB_no g)
  clear h
  by_cases g1 : 0 ≤ f ∧ f ≤ 7
  · rw [decide_eq_true g1] at HF
    by_cases g2 : d.size ≤ 600
    · by_cases g3 : l.length ≤ 1000
      · have HV := Lib.hid (HY.out g1 g2 g3)
        have n0 : decide ((600 : Int) < (d.size : Int)) = false := by simp; omega
        have m0 : decide (600 < d.size) = false := by simp; omega
        have n1 : decide ((1000 : Int) < (l.length : Int)) = false := by simp; omega
        have m1 : decide (1000 < l.length) = false := by simp; omega
        clear g1 HY
        go_enter Try.func30, Try.ntmps30
        go_wp2_with fail
        refine (HF.out _).mono ?_
        rintro e w' ⟨rfl, rfl⟩
        go_wp2
        go_loopg [24] l.length (fun gh v wx => ∃ k : Nat, k ≤ l.length ∧ gh = l.length - k ∧ v = .int .i64 (k : Int) ∧ (∀ j (hj : j < l.length), j < k → -1 ≤ l[j] ∧ l[j] ≤ cntS d.size - 1) ∧ (w.alloc (.cells (foL f d b (.slice A l.length q)).toArray 46)) = wx)
        case atStart => exact ⟨0, by omega, rfl, rfl, fun j _ h => absurd h (Nat.not_lt_zero _), rfl⟩
        case round =>
          obtain ⟨k, hk, rfl, rfl, hall, rfl⟩ := hrel
          have HA := Lib.hid hall
          clear hall
          by_cases hlt : k < l.length
          · have hdd : decide (k < l.length) = true := by simp; omega
            have hdd' : decide ((k : Int) < (l.length : Int)) = true := by simp; omega
            obtain ⟨bb, off, rfl, hbb, hc⟩ := inCellsI HI.out (by omega)
            have hck := hc k hlt
            clear hc
            have hs := HS.out l[k]
            by_cases hin : -1 ≤ l[k] ∧ l[k] ≤ cntS d.size - 1
            · have HA2 := Lib.hid (show ∀ j (hj : j < l.length), j < k + 1 → -1 ≤ l[j] ∧ l[j] ≤ cntS d.size - 1 from fun j hj hjk => by
                rcases Nat.lt_or_ge j k with h3 | h3
                · exact HA.out j hj h3
                · obtain rfl : j = k := by omega
                  exact hin)
              by_cases hm : l[k] = -1
              · have e1 : (l[k] != -1) = false := by rw [hm]; rfl
                have e2 : (l[k] == -1) = true := by rw [hm]; rfl
                clear hs hin hm
                generalize l[k] = x at *
                go_wp2
                go_roundg (l.length - (k + 1))
                case measure => omega
                case rel => exact ⟨k + 1, by omega, rfl, by go_num, HA2.out, rfl⟩
              · have e1 : (l[k] != -1) = true := by simpa using hm
                have e2 : (l[k] == -1) = false := by simpa using hm
                rw [decide_eq_true (show SegOk l[k] d.size from ⟨by omega, hin.2⟩)] at hs
                have HSS := Lib.hid hs
                clear hs hin hm
                generalize l[k] = x at *
                go_wp2_with fail
                refine (HSS.out _).mono ?_
                rintro e w' ⟨rfl, rfl⟩
                go_wp2
                go_roundg (l.length - (k + 1))
                case measure => omega
                case rel => exact ⟨k + 1, by omega, rfl, by go_num, HA2.out, rfl⟩
            · have HV := Lib.hid (HN.out (fun g => hin (g.2.2.2 k hlt)))
              have hm : l[k] ≠ -1 := fun h => hin (by have := HB.out; omega)
              have e1 : (l[k] != -1) = true := by simpa using hm
              have e2 : (l[k] == -1) = false := by simpa using hm
              rw [decide_eq_false (show ¬ SegOk l[k] d.size from fun h => hin ⟨by have := h.1; omega, h.2⟩)] at hs
              have HSS := Lib.hid hs
              clear hs hin hm
              generalize l[k] = x at *
              go_wp2_with fail
              refine (HSS.out _).mono ?_
              rintro e w' ⟨rfl, rfl⟩
              go_wp2
              go_ret
              exact ⟨by rw [HV.out]; rfl, S1.out.below⟩
          · have hdd : decide (k < l.length) = false := by simp; omega
            have hdd' : decide ((k : Int) < (l.length : Int)) = false := by simp; omega
            have HW := Lib.hid (show AllSeg d.size l from fun j hj => HA.out j hj (by omega))
            clear hlt HA
            have HG := Lib.hid (HV.out HW.out)
            go_wp2
            go_ret
            exact ⟨by rw [HG.out]; rfl, S1.out.below⟩
      · have HV := Lib.hid (HN.out (fun g => g3 g.2.2.1))
        have n0 : decide ((600 : Int) < (d.size : Int)) = false := by simp; omega
        have m0 : decide (600 < d.size) = false := by simp; omega
        have n1 : decide ((1000 : Int) < (l.length : Int)) = true := by simp; omega
        have m1 : decide (1000 < l.length) = true := by simp; omega
        clear g1 g2 g3 HY
        go_enter Try.func30, Try.ntmps30
        go_wp2_with fail
        refine (HF.out _).mono ?_
        rintro e w' ⟨rfl, rfl⟩
        go_wp2
        go_ret
        exact ⟨by rw [HV.out]; rfl, S1.out.below⟩
    · have HV := Lib.hid (HN.out (fun g => g2 g.2.1))
      have n0 : decide ((600 : Int) < (d.size : Int)) = true := by simp; omega
      have m0 : decide (600 < d.size) = true := by simp; omega
      clear g1 g2 HY
      go_enter Try.func30, Try.ntmps30
      go_wp2_with fail
      refine (HF.out _).mono ?_
      rintro e w' ⟨rfl, rfl⟩
      go_wp2
      go_ret
      exact ⟨by rw [HV.out]; rfl, S1.out.below⟩
  · rw [decide_eq_false g1] at HF
    have HV := Lib.hid (HN.out (fun g => g1 g.1))
    clear g1 HY
    go_enter Try.func30, Try.ntmps30
    go_wp2_with fail
    refine (HF.out _).mono ?_
    rintro e w' ⟨rfl, rfl⟩
    go_wp2
    go_ret
    exact ⟨by rw [HV.out]; rfl, S1.out.below⟩

set_option maxRecDepth 20000 in
set_option maxHeartbeats 4000000 in
theorem fook_spec (f : Int) (d : ByteArray) (A : Option Addr) (l : List Int) (q : Nat) (b : Bool) (hd : d.size ≤ 1048576) (hl : l.length ≤ 2000000) (w : World) (h : LsI 1 w w.heap.size A (l.map inC)) :
    Calls Try.prog 28 #[foV f d b (.slice A l.length q)] w fun e w' => e = .returned (.bool (foB f d l)) ∧ Below w.heap.size w w' := by
  have S1 := Lib.hid ((St.start w).made (foL f d b (.slice A l.length q)) 46)
  obtain ⟨k0, k1, k2, k3⟩ := (S1.out.box 0 _ _ rfl).fourFo
  have HI := Lib.hid (fun W (hb : Below w.heap.size w W) => h.full hb)
  have HF := Lib.hid (in_anyP f 0 7)
  have HS := Lib.hid (fun x => in_anyP x (-1) (cntS d.size - 1))
  have HC := Lib.hid (cnt_spec d.size)
  have HB := Lib.hid (cntS_bd d.size)
  have HY := Lib.hid (fun (g1 : 0 ≤ f ∧ f ≤ 7) (g2 : d.size ≤ 600) (g3 : l.length ≤ 1000) (g4 : AllSeg d.size l) => foB_yes ⟨g1, g2, g3, g4⟩)
  have HN := Lib.hid (fun (g : ¬ FoOk f d l) => foB_no g)
  clear h
  go_enter Try.func28, Try.ntmps28
  go_wp2
  go_loopg [3] l.length (fun gh v wx => ∃ k : Nat, k ≤ l.length ∧ gh = l.length - k ∧ v = .int .i64 (k : Int) ∧ (∀ j (hj : j < l.length), j < k → -1 ≤ l[j] ∧ l[j] ≤ cntS d.size - 1) ∧ St w wx [boxT w.heap.size (foL f d b (.slice A l.length q))])
  case atStart => exact ⟨0, by omega, rfl, rfl, fun j _ h => absurd h (Nat.not_lt_zero _), S1.out⟩
  case round =>
    obtain ⟨k, hk, rfl, rfl, hall, hst⟩ := hrel
    have SX := Lib.hid hst
    obtain ⟨k0, k1, k2, k3⟩ := (SX.out.box 0 _ _ rfl).fourFo
    clear hst
    have HA := Lib.hid hall
    clear hall
    by_cases hlt : k < l.length
    · have hdd : decide (k < l.length) = true := by simp; omega
      have hdd' : decide ((k : Int) < (l.length : Int)) = true := by simp; omega
      obtain ⟨bb, off, rfl, hbb, hc⟩ := inCellsI (HI.out _ SX.out.below) (by omega)
      have hck := hc k hlt
      clear hc
      have hs := HS.out l[k]
      by_cases hin : -1 ≤ l[k] ∧ l[k] ≤ cntS d.size - 1
      · have HA2 := Lib.hid (show ∀ j (hj : j < l.length), j < k + 1 → -1 ≤ l[j] ∧ l[j] ≤ cntS d.size - 1 from fun j hj hjk => by
          rcases Nat.lt_or_ge j k with h3 | h3
          · exact HA.out j hj h3
          · obtain rfl : j = k := by omega
            exact hin)
        rw [decide_eq_true hin] at hs
        have HSS := Lib.hid hs
        have hbd := HB.out
        clear hs hin
        generalize l[k] = x at *
        have wv : IntKind.i64.wrap (cntS d.size - 1) = cntS d.size - 1 := IntWalk.i64_in _ (by omega)
        go_wp2
        go_quiet ((first | (go_at_call 46; (exact Calls.quiet_of_same ((HC.out _).mono fun _ _ h => ⟨h.1, h.2.symm⟩))) | (go_at_call 33; (exact Calls.quiet_of_same ((HSS.out _).mono fun _ _ h => ⟨h.1, h.2.symm⟩)))))
        go_wp2
        go_roundg (l.length - (k + 1))
        case measure => omega
        case rel => exact ⟨k + 1, by omega, rfl, by go_num, HA2.out, SX.out.drewN _⟩
      · have HV := Lib.hid (HN.out (fun g => hin (g.2.2.2 k hlt)))
        rw [decide_eq_false hin] at hs
        have HSS := Lib.hid hs
        have hbd := HB.out
        clear hs hin
        generalize l[k] = x at *
        have wv : IntKind.i64.wrap (cntS d.size - 1) = cntS d.size - 1 := IntWalk.i64_in _ (by omega)
        go_wp2
        go_quiet ((first | (go_at_call 46; (exact Calls.quiet_of_same ((HC.out _).mono fun _ _ h => ⟨h.1, h.2.symm⟩))) | (go_at_call 33; (exact Calls.quiet_of_same ((HSS.out _).mono fun _ _ h => ⟨h.1, h.2.symm⟩)))))
        go_wp2
        go_ret
        exact ⟨by rw [HV.out]; rfl, (by first | exact SX.out.below | exact below_draws SX.out.below _)⟩
    · have hdd : decide (k < l.length) = false := by simp; omega
      have hdd' : decide ((k : Int) < (l.length : Int)) = false := by simp; omega
      have HW := Lib.hid (show AllSeg d.size l from fun j hj => HA.out j hj (by omega))
      clear hlt HA
      by_cases g1 : 0 ≤ f ∧ f ≤ 7
      · rw [decide_eq_true g1] at HF
        by_cases g2 : d.size ≤ 600
        · by_cases g3 : l.length ≤ 1000
          · have HV := Lib.hid (HY.out g1 g2 g3 HW.out)
            have n0 : decide ((d.size : Int) ≤ (600 : Int)) = true := by simp; omega
            have m0 : decide (d.size ≤ 600) = true := by simp; omega
            have n1 : decide ((l.length : Int) ≤ (1000 : Int)) = true := by simp; omega
            have m1 : decide (l.length ≤ 1000) = true := by simp; omega
            clear g1 g2 g3 HY HN
            go_wp2_with fail
            refine (HF.out _).mono ?_
            rintro e w' ⟨rfl, rfl⟩
            go_wp2
            go_ret
            exact ⟨by rw [HV.out]; rfl, (by first | exact SX.out.below | exact below_draws SX.out.below _)⟩
          · have HV := Lib.hid (HN.out (fun g => g3 g.2.2.1))
            have n0 : decide ((d.size : Int) ≤ (600 : Int)) = true := by simp; omega
            have m0 : decide (d.size ≤ 600) = true := by simp; omega
            have n1 : decide ((l.length : Int) ≤ (1000 : Int)) = false := by simp; omega
            have m1 : decide (l.length ≤ 1000) = false := by simp; omega
            clear g1 g2 g3 HY HN
            go_wp2_with fail
            refine (HF.out _).mono ?_
            rintro e w' ⟨rfl, rfl⟩
            go_wp2
            go_ret
            exact ⟨by rw [HV.out]; rfl, (by first | exact SX.out.below | exact below_draws SX.out.below _)⟩
        · have HV := Lib.hid (HN.out (fun g => g2 g.2.1))
          have n0 : decide ((d.size : Int) ≤ (600 : Int)) = false := by simp; omega
          have m0 : decide (d.size ≤ 600) = false := by simp; omega
          clear g1 g2 HY HN
          go_wp2_with fail
          refine (HF.out _).mono ?_
          rintro e w' ⟨rfl, rfl⟩
          go_wp2
          go_ret
          exact ⟨by rw [HV.out]; rfl, (by first | exact SX.out.below | exact below_draws SX.out.below _)⟩
      · rw [decide_eq_false g1] at HF
        have HV := Lib.hid (HN.out (fun g => g1 g.1))
        clear g1 HY HN
        go_wp2_with fail
        refine (HF.out _).mono ?_
        rintro e w' ⟨rfl, rfl⟩
        go_wp2
        go_ret
        exact ⟨by rw [HV.out]; rfl, (by first | exact SX.out.below | exact below_draws SX.out.below _)⟩

theorem foT_of {W : World} {f : Int} {d : ByteArray} {b : Bool} {l : List Int} {A : Option Addr} {q : Nat} (h : OwnR 3 1 W 0 (.slice A l.length q) (l.map inC)) : (foT (foV f d b (.slice A l.length q)) f d b l).P W := ⟨A, q, rfl, h.toO⟩
def FoEnd (w : World) (r : Int × ByteArray × List Int × Bool) (e : Ending) (w' : World) : Prop := Gives w (fun v => foT v r.1 r.2.1 r.2.2.2 r.2.2.1) e w'
end Go.Proofs.Ytjcdekonidekcaf
