/- What this text proves: the parts FoK, CtB of the proof, each under its own words. -/
import Derived.Test.YtckofkdeedbbgaaV17
import Derived.Test.YtckofkdeedbbgaaV04
import Derived.Deep.LoopGhost
import Derived.Deep.QuietTactic
import Derived.BigQuiet
import Derived.Test.YtckofkdeedbbgaaV00
import Derived.Lib.AppendZeros
/- What this text proves: the contracts of FileOutOk and of the copies of a sender, of the program and the model. -/
namespace Go.Proofs.Ytckofkdeedbbgaa
open Go.ChangeShapes Go.WideShapes Go.ChangeAt Go.RowKit
set_option linter.unusedVariables false

/-- All numbers are -1 or that of a segment. -/
def AllSeg (n : Int) (l : List Int) : Prop := ∀ k (hk : k < l.length), -1 ≤ l[k] ∧ l[k] ≤ cntS n - 1
def FoOk (f : Int) (d : ByteArray) (l : List Int) : Prop := (0 ≤ f ∧ f ≤ 7) ∧ d.size ≤ 600 ∧ l.length ≤ 1000 ∧ AllSeg d.size l
noncomputable def foB (f : Int) (d : ByteArray) (l : List Int) : Bool := @decide (FoOk f d l) (Classical.propDecidable _)
theorem foB_yes {f : Int} {d : ByteArray} {l : List Int} (h : FoOk f d l) : foB f d l = true := by unfold foB; exact @decide_eq_true _ (Classical.propDecidable _) h
theorem foB_no {f : Int} {d : ByteArray} {l : List Int} (h : ¬ FoOk f d l) : foB f d l = false := by unfold foB; exact @decide_eq_false _ (Classical.propDecidable _) h

set_option maxRecDepth 20000 in
set_option maxHeartbeats 4000000 in
theorem fook_impl (f : Int) (d : ByteArray) (A : Option Addr) (l : List Int) (q : Nat) (b : Bool) (hd : d.size ≤ 1048576) (hl : l.length ≤ 2000000) (w : World) (h : LsI 1 w w.heap.size A (l.map inC)) :
    Calls Try.prog 34 #[foV f d b (.slice A l.length q)] w fun e w' => e = .returned (.bool (foB f d l)) ∧ Below w.heap.size w w' := by
  have S1 := Lib.hid ((St.start w).made (foL f d b (.slice A l.length q)) 62)
  obtain ⟨k0, k1, k2, k3⟩ := (S1.out.box 0 _ _ rfl).fourFo
  have HI := Lib.hid (h.full S1.out.below)
  have HF := Lib.hid (fl_impl f)
  have HS := Lib.hid (fun x => isg_impl x d.size)
  have HB := Lib.hid (cntS_bd d.size)
  have HY := Lib.hid (fun (g1 : 0 ≤ f ∧ f ≤ 7) (g2 : d.size ≤ 600) (g3 : l.length ≤ 1000) (g4 : AllSeg d.size l) => foB_yes ⟨g1, g2, g3, g4⟩)
  have HN := Lib.hid (fun (g : ¬ FoOk f d l) => foB_no g)
  clear h
  by_cases g1 : 0 ≤ f ∧ f ≤ 7
  · rw [decide_eq_true g1] at HF
    by_cases g2 : d.size ≤ 600
    · by_cases g3 : l.length ≤ 1000
      · have HV := Lib.hid (HY.out g1 g2 g3)
        have n0 : decide ((600 : Int) < (d.size : Int)) = false := by simp; omega
        have m0 : decide (600 < d.size) = false := by simp; omega
        have n1 : decide ((1000 : Int) < (l.length : Int)) = false := by simp; omega
        have m1 : decide (1000 < l.length) = false := by simp; omega
        clear g1 HY
        go_enter Try.func34, Try.ntmps34
        go_wp2_with fail
        refine (HF.out _).mono ?_
        rintro e w' ⟨rfl, rfl⟩
        go_wp2
        go_loopg [24] l.length (fun gh v wx => ∃ k : Nat, k ≤ l.length ∧ gh = l.length - k ∧ v = .int .i64 (k : Int) ∧ (∀ j (hj : j < l.length), j < k → -1 ≤ l[j] ∧ l[j] ≤ cntS d.size - 1) ∧ (w.alloc (.cells (foL f d b (.slice A l.length q)).toArray 62)) = wx)
        case atStart => exact ⟨0, by omega, rfl, rfl, fun j _ h => absurd h (Nat.not_lt_zero _), rfl⟩
        case round =>
          obtain ⟨k, hk, rfl, rfl, hall, rfl⟩ := hrel
          have HA := Lib.hid hall
          clear hall
          by_cases hlt : k < l.length
          · have hdd : decide (k < l.length) = true := by simp; omega
            have hdd' : decide ((k : Int) < (l.length : Int)) = true := by simp; omega
            obtain ⟨bb, off, rfl, hbb, hc⟩ := inCellsI HI.out (by omega)
            have hck := hc k hlt
            clear hc
            have hs := HS.out l[k]
            by_cases hin : -1 ≤ l[k] ∧ l[k] ≤ cntS d.size - 1
            · have HA2 := Lib.hid (show ∀ j (hj : j < l.length), j < k + 1 → -1 ≤ l[j] ∧ l[j] ≤ cntS d.size - 1 from fun j hj hjk => by
                rcases Nat.lt_or_ge j k with h3 | h3
                · exact HA.out j hj h3
                · obtain rfl : j = k := by omega
                  exact hin)
              by_cases hm : l[k] = -1
              · have e1 : (l[k] != -1) = false := by rw [hm]; rfl
                have e2 : (l[k] == -1) = true := by rw [hm]; rfl
                clear hs hin hm
                generalize l[k] = x at *
                go_wp2
                go_roundg (l.length - (k + 1))
                case measure => omega
                case rel => exact ⟨k + 1, by omega, rfl, by go_num, HA2.out, rfl⟩
              · have e1 : (l[k] != -1) = true := by simpa using hm
                have e2 : (l[k] == -1) = false := by simpa using hm
                rw [decide_eq_true (show SegOk l[k] d.size from ⟨by omega, hin.2⟩)] at hs
                have HSS := Lib.hid hs
                clear hs hin hm
                generalize l[k] = x at *
                go_wp2_with fail
                refine (HSS.out _).mono ?_
                rintro e w' ⟨rfl, rfl⟩
                go_wp2
                go_roundg (l.length - (k + 1))
                case measure => omega
                case rel => exact ⟨k + 1, by omega, rfl, by go_num, HA2.out, rfl⟩
            · have HV := Lib.hid (HN.out (fun g => hin (g.2.2.2 k hlt)))
              have hm : l[k] ≠ -1 := fun h => hin (by have := HB.out; omega)
              have e1 : (l[k] != -1) = true := by simpa using hm
              have e2 : (l[k] == -1) = false := by simpa using hm
              rw [decide_eq_false (show ¬ SegOk l[k] d.size from fun h => hin ⟨by have := h.1; omega, h.2⟩)] at hs
              have HSS := Lib.hid hs
              clear hs hin hm
              generalize l[k] = x at *
              go_wp2_with fail
              refine (HSS.out _).mono ?_
              rintro e w' ⟨rfl, rfl⟩
              go_wp2
              go_ret
              exact ⟨by rw [HV.out]; rfl, S1.out.below⟩
          · have hdd : decide (k < l.length) = false := by simp; omega
            have hdd' : decide ((k : Int) < (l.length : Int)) = false := by simp; omega
            have HW := Lib.hid (show AllSeg d.size l from fun j hj => HA.out j hj (by omega))
            clear hlt HA
            have HG := Lib.hid (HV.out HW.out)
            go_wp2
            go_ret
            exact ⟨by rw [HG.out]; rfl, S1.out.below⟩
      · have HV := Lib.hid (HN.out (fun g => g3 g.2.2.1))
        have n0 : decide ((600 : Int) < (d.size : Int)) = false := by simp; omega
        have m0 : decide (600 < d.size) = false := by simp; omega
        have n1 : decide ((1000 : Int) < (l.length : Int)) = true := by simp; omega
        have m1 : decide (1000 < l.length) = true := by simp; omega
        clear g1 g2 g3 HY
        go_enter Try.func34, Try.ntmps34
        go_wp2_with fail
        refine (HF.out _).mono ?_
        rintro e w' ⟨rfl, rfl⟩
        go_wp2
        go_ret
        exact ⟨by rw [HV.out]; rfl, S1.out.below⟩
    · have HV := Lib.hid (HN.out (fun g => g2 g.2.1))
      have n0 : decide ((600 : Int) < (d.size : Int)) = true := by simp; omega
      have m0 : decide (600 < d.size) = true := by simp; omega
      clear g1 g2 HY
      go_enter Try.func34, Try.ntmps34
      go_wp2_with fail
      refine (HF.out _).mono ?_
      rintro e w' ⟨rfl, rfl⟩
      go_wp2
      go_ret
      exact ⟨by rw [HV.out]; rfl, S1.out.below⟩
  · rw [decide_eq_false g1] at HF
    have HV := Lib.hid (HN.out (fun g => g1 g.1))
    clear g1 HY
    go_enter Try.func34, Try.ntmps34
    go_wp2_with fail
    refine (HF.out _).mono ?_
    rintro e w' ⟨rfl, rfl⟩
    go_wp2
    go_ret
    exact ⟨by rw [HV.out]; rfl, S1.out.below⟩

set_option maxRecDepth 20000 in
set_option maxHeartbeats 2000000 in
theorem cpfo_impl (f : Int) (d : ByteArray) (A : Option Addr) (l : List Int) (q : Nat) (b : Bool) (hl : l.length ≤ 1099511) (w : World) (h : LsI 1 w w.heap.size A (l.map inC)) :
    Calls Try.prog 79 #[foV f d b (.slice A l.length q)] w fun e w' => ∃ v A1 q1, e = .returned v ∧ v = foV f d b (.slice A1 l.length q1) ∧ OwnR 3 1 w' 0 (.slice A1 l.length q1) (l.map inC) ∧ (∀ k, (Value.slice A1 l.length q1).ownBlock = some k → w.heap.size ≤ k) ∧ Below w.heap.size w w' := by
  have S0 := (((St.start w).made (foL f d b (.slice A l.length q)) 62).made [.int .i64 0, .string ⟨#[]⟩, .slice none 0 0, .bool false] 62)
  have S1 := Lib.hid (show St w ((w.alloc (.cells (foL f d b (.slice A l.length q)).toArray 62)).alloc (.cells [.int .i64 0, .string ⟨#[]⟩, .slice none 0 0, .bool false].toArray 62)) [boxT (w.heap.size + 1) [.int .i64 0, .string ⟨#[]⟩, .slice none 0 0, .bool false], boxT w.heap.size (foL f d b (.slice A l.length q))] from by simpa using S0)
  have HT := Lib.hid (clone_ins A l q hl ((w.alloc (.cells (foL f d b (.slice A l.length q)).toArray 62)).alloc (.cells [.int .i64 0, .string ⟨#[]⟩, .slice none 0 0, .bool false].toArray 62)) (h.full S1.out.below))
  clear S0 h
  go_enter Try.func79, Try.ntmps79
  go_wp2_with fail
  refine HT.out.mono ?_
  rintro e w4 ⟨A1, q1, rfl, hu, hb⟩
  have hup := fun k hk => (OwnR.upto hu k hk).1
  have S2 := S1.out.add (rowT 3 1 (.slice A1 l.length q1) (l.map inC)) hb (OwnR.lower hu (Nat.zero_le _)) hup
  have HQ := Lib.hid hup
  have HZ := Lib.hid (show w.heap.size ≤ ((w.alloc (.cells (foL f d b (.slice A l.length q)).toArray 62)).alloc (.cells [.int .i64 0, .string ⟨#[]⟩, .slice none 0 0, .bool false].toArray 62)).heap.size from S1.out.below.size)
  have S3 : St w (w4.setCell ⟨w.heap.size, 2, none⟩ (.slice A1 l.length q1)) [rowT 3 1 (.slice A1 l.length q1) (l.map inC), boxT (w.heap.size + 1) [.int .i64 0, .string ⟨#[]⟩, .slice none 0 0, .bool false], boxT w.heap.size (foL f d b (.slice A1 l.length q1))] := S2.setBox 2 _ _ rfl 2 (by simp) (.slice A1 l.length q1)
  have S5 := Lib.hid (show St w ((w4.setCell ⟨w.heap.size, 2, none⟩ (.slice A1 l.length q1)).setCells (w.heap.size + 1) 0 (foL f d b (.slice A1 l.length q1))) [rowT 3 1 (.slice A1 l.length q1) (l.map inC), boxT (w.heap.size + 1) (foL f d b (.slice A1 l.length q1)), boxT w.heap.size (foL f d b (.slice A1 l.length q1))] from S3.setAll 1 _ _ rfl (foL f d b (.slice A1 l.length q1)) rfl)
  obtain ⟨m0, m1, m2, m3⟩ := (S2.box 2 _ _ rfl).fourFo
  have mi := (S2.box 2 _ _ rfl).ice
  obtain ⟨p0, p1, p2, p3⟩ := (S3.box 2 _ _ rfl).fourFo
  obtain ⟨r0, r1, r2, r3⟩ := (S3.box 1 _ _ rfl).fourFo
  have ri := (S3.box 1 _ _ rfl).ice
  clear S2 S3 hb hu hup HT
  go_wp2
  show bodyPost Try.prog Try.f79 _ Exit.ret _ ((w4.setCell ⟨w.heap.size, 2, none⟩ (.slice A1 l.length q1)).setCells (w.heap.size + 1) 0 (foL f d b (.slice A1 l.length q1)))
  generalize ((w4.setCell ⟨w.heap.size, 2, none⟩ (.slice A1 l.length q1)).setCells (w.heap.size + 1) 0 (foL f d b (.slice A1 l.length q1))) = WE at *
  obtain ⟨c0, c1, c2, c3⟩ := (S5.out.box 1 _ _ rfl).fourFo
  refine bodyPost_ret_by (v := foV f d b (.slice A1 l.length q1)) ?_ rfl ⟨_, A1, q1, rfl, rfl, S5.out.row 0 _ _ _ _ rfl, fun k hk => ?_, S5.out.below⟩
  · simp [results, Try.f79, go_sem, c0, c1, c2, c3]
  · have h1 := HQ.out k hk
    have h2 := HZ.out
    omega

theorem foT_of {W : World} {f : Int} {d : ByteArray} {b : Bool} {l : List Int} {A : Option Addr} {q : Nat} (h : OwnR 3 1 W 0 (.slice A l.length q) (l.map inC)) : (foT (foV f d b (.slice A l.length q)) f d b l).P W := ⟨A, q, rfl, h.toO⟩
def FoEnd (w : World) (r : Int × ByteArray × List Int × Bool) (e : Ending) (w' : World) : Prop := Gives w (fun v => foT v r.1 r.2.1 r.2.2.2 r.2.2.1) e w'
end Go.Proofs.Ytckofkdeedbbgaa
/- What this text proves: sums of lengths and joins of lists, for slices.Concat. -/
namespace Go.Proofs.Ytckofkdeedbbgaa
open Go.ChangeShapes Go.WideShapes Go.ChangeAt Go.RowKit
set_option linter.unusedVariables false

theorem zc_size (xs : Array Value) (n : Nat) : (Builtin.zeroCells xs n).size = n * xs.size := by
  unfold Builtin.zeroCells
  simp

/-- The sum of the lengths of the first k. -/
def sumL (ss : List (Option Addr × List (List Value) × Nat)) : Nat → Nat
  | 0 => 0
  | k + 1 => sumL ss k + (ss.getD k (none, [], 0)).2.1.length
def catL (ss : List (Option Addr × List (List Value) × Nat)) : Nat → List (List Value)
  | 0 => []
  | k + 1 => catL ss k ++ (ss.getD k (none, [], 0)).2.1
theorem catL_len (ss : List (Option Addr × List (List Value) × Nat)) (k : Nat) : (catL ss k).length = sumL ss k := by
  induction k with
  | zero => rfl
  | succ k ih => simp only [catL, sumL, List.length_append, ih]
theorem sumL_le (ss : List (Option Addr × List (List Value) × Nat)) {j k : Nat} (h : j ≤ k) : sumL ss j ≤ sumL ss k := by
  induction k with
  | zero => obtain rfl : j = 0 := by omega
            exact Nat.le_refl _
  | succ k ih =>
    rcases Nat.lt_or_ge j (k + 1) with h1 | h1
    · exact Nat.le_trans (ih (by omega)) (Nat.le_add_right _ _)
    · obtain rfl : j = k + 1 := by omega
      exact Nat.le_refl _
theorem getC_at {ss : List (Option Addr × List (List Value) × Nat)} {k : Nat} (h : k < ss.length) : ss.getD k (none, [], 0) = ss[k] := by
  rw [List.getD_eq_getElem?_getD, List.getElem?_eq_getElem h]
  rfl
end Go.Proofs.Ytckofkdeedbbgaa
