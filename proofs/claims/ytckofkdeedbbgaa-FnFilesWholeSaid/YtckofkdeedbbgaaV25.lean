/- What this text proves: the parts FiK of the proof, each under its own words. -/
import Derived.Test.YtckofkdeedbbgaaV24
import Derived.Test.YtckofkdeedbbgaaV04
import Derived.Deep.LoopGhost
/- What this text proves: the contracts of FileInOk and NewFileIn and of the copies of a receiver, of the program and the model. -/
namespace Go.Proofs.Ytckofkdeedbbgaa
open Go.ChangeShapes Go.WideShapes Go.ChangeAt Go.RowKit
set_option linter.unusedVariables false

/-- All texts have at most 24 bytes. -/
def Few (l : List ByteArray) : Prop := ∀ k (hk : k < l.length), (l[k].size : Int) ≤ 24
def FiOk (f s c : Int) (l : List ByteArray) : Prop := (0 ≤ f ∧ f ≤ 7) ∧ (-1 ≤ s ∧ s ≤ 600) ∧ (-1 ≤ c ∧ c ≤ 65535) ∧ (s == -1) = (c == -1) ∧ l.length = 25 ∧ Few l
noncomputable def fiB (f s c : Int) (l : List ByteArray) : Bool := @decide (FiOk f s c l) (Classical.propDecidable _)
theorem fiB_yes {f s c : Int} {l : List ByteArray} (h : FiOk f s c l) : fiB f s c l = true := by unfold fiB; exact @decide_eq_true _ (Classical.propDecidable _) h
theorem fiB_no {f s c : Int} {l : List ByteArray} (h : ¬ FiOk f s c l) : fiB f s c l = false := by unfold fiB; exact @decide_eq_false _ (Classical.propDecidable _) h

set_option maxRecDepth 20000 in
set_option maxHeartbeats 2000000 in
theorem fok_impl (f s c : Int) (A : Option Addr) (l : List ByteArray) (q : Nat) (hl : l.length ≤ 2000000) (w : World) (h : LsI 1 w w.heap.size A (l.map txC)) :
    Calls Try.prog 33 #[fiV f s c (.slice A l.length q)] w fun e w' => e = .returned (.bool (fiB f s c l)) ∧ Below w.heap.size w w' := by
  have S1 := Lib.hid ((St.start w).made (fiL f s c (.slice A l.length q)) 67)
  obtain ⟨k0, k1, k2, k3⟩ := (S1.out.box 0 _ _ rfl).fourFi
  have HI := Lib.hid (h.full S1.out.below)
  have HF := Lib.hid (fl_impl f)
  have HS := Lib.hid (iw_any s (-1) 600)
  have HC := Lib.hid (iw_any c (-1) 65535)
  have HY := Lib.hid (fun (g1 : 0 ≤ f ∧ f ≤ 7) (g2 : -1 ≤ s ∧ s ≤ 600) (g3 : -1 ≤ c ∧ c ≤ 65535) (g4 : (s == -1) = (c == -1)) (g5 : l.length = 25) (g6 : Few l) => fiB_yes ⟨g1, g2, g3, g4, g5, g6⟩)
  have HN := Lib.hid (fun (g : ¬ FiOk f s c l) => fiB_no g)
  clear h
  by_cases g1 : 0 ≤ f ∧ f ≤ 7
  · rw [decide_eq_true g1] at HF
    by_cases g2 : -1 ≤ s ∧ s ≤ 600
    · rw [decide_eq_true g2] at HS
      by_cases g3 : -1 ≤ c ∧ c ≤ 65535
      · rw [decide_eq_true g3] at HC
        by_cases g4 : (s == -1) = (c == -1)
        · have n4 : ((s == -1) != (c == -1)) = false := by rw [g4]; simp
          by_cases g5 : l.length = 25
          · have d5 : ((l.length : Int) != 25) = false := by simp; omega
            have d6 : ((l.length : Int) == 25) = true := by simp; omega
            have HV := Lib.hid (HY.out g1 g2 g3 g4 g5)
            clear g1 g2 g3 g5 HY
            go_enter Try.func33, Try.ntmps33
            go_wp2_with fail
            refine (HF.out _).mono ?_
            rintro e w' ⟨rfl, rfl⟩
            go_wp2_with fail
            refine (HS.out _).mono ?_
            rintro e w' ⟨rfl, rfl⟩
            go_wp2_with fail
            refine (HC.out _).mono ?_
            rintro e w' ⟨rfl, rfl⟩
            go_wp2
            go_loopg [37] l.length (fun gh v wx => ∃ k : Nat, k ≤ l.length ∧ gh = l.length - k ∧ v = .int .i64 (k : Int) ∧ (∀ j (hj : j < l.length), j < k → (l[j].size : Int) ≤ 24) ∧ (w.alloc (.cells (fiL f s c (.slice A l.length q)).toArray 67)) = wx)
            case atStart => exact ⟨0, by omega, rfl, rfl, fun j _ h => absurd h (Nat.not_lt_zero _), rfl⟩
            case round =>
              obtain ⟨k, hk, rfl, rfl, hall, rfl⟩ := hrel
              have HA := Lib.hid hall
              clear hall
              by_cases hlt : k < l.length
              · have hd : decide (k < l.length) = true := by simp; omega
                have hd' : decide ((k : Int) < (l.length : Int)) = true := by simp; omega
                obtain ⟨bb, off, rfl, hb, hc⟩ := txCellsI HI.out (by omega)
                have hck := hc k hlt
                clear hc
                by_cases hin : (l[k].size : Int) ≤ 24
                · have HA2 := Lib.hid (show ∀ j (hj : j < l.length), j < k + 1 → (l[j].size : Int) ≤ 24 from fun j hj hjk => by
                    rcases Nat.lt_or_ge j k with h3 | h3
                    · exact HA.out j hj h3
                    · obtain rfl : j = k := by omega
                      exact hin)
                  have d1 : decide ((24 : Int) < (l[k].size : Int)) = false := by simp; omega
                  have d2 : decide (24 < l[k].size) = false := by simp; omega
                  generalize l[k] = x at *
                  clear hin
                  go_wp2
                  go_roundg (l.length - (k + 1))
                  case measure => omega
                  case rel => exact ⟨k + 1, by omega, rfl, by go_num, HA2.out, rfl⟩
                · have HV := Lib.hid (HN.out (fun g => hin (g.2.2.2.2.2 k hlt)))
                  have d1 : decide ((24 : Int) < (l[k].size : Int)) = true := by simp; omega
                  have d2 : decide (24 < l[k].size) = true := by simp; omega
                  generalize l[k] = x at *
                  clear hin
                  go_wp2
                  go_ret
                  exact ⟨by rw [HV.out]; rfl, S1.out.below⟩
              · have hd : decide (k < l.length) = false := by simp; omega
                have hd' : decide ((k : Int) < (l.length : Int)) = false := by simp; omega
                have HW := Lib.hid (show Few l from fun j hj => HA.out j hj (by omega))
                clear hlt HA
                have HG := Lib.hid (HV.out HW.out)
                go_wp2
                go_ret
                exact ⟨by rw [HG.out]; rfl, S1.out.below⟩
          · have d5 : ((l.length : Int) != 25) = true := by simp; omega
            have d6 : ((l.length : Int) == 25) = false := by simp; omega
            have HV := Lib.hid (HN.out (fun g => g5 g.2.2.2.2.1))
            clear g1 g2 g3 g5 HY
            go_enter Try.func33, Try.ntmps33
            go_wp2_with fail
            refine (HF.out _).mono ?_
            rintro e w' ⟨rfl, rfl⟩
            go_wp2_with fail
            refine (HS.out _).mono ?_
            rintro e w' ⟨rfl, rfl⟩
            go_wp2_with fail
            refine (HC.out _).mono ?_
            rintro e w' ⟨rfl, rfl⟩
            go_wp2
            go_ret
            exact ⟨by rw [HV.out]; rfl, S1.out.below⟩
        · have n4 : ((s == -1) != (c == -1)) = true := by simpa using g4
          have HV := Lib.hid (HN.out (fun g => g4 g.2.2.2.1))
          clear g1 g2 g3 HY
          go_enter Try.func33, Try.ntmps33
          go_wp2_with fail
          refine (HF.out _).mono ?_
          rintro e w' ⟨rfl, rfl⟩
          go_wp2_with fail
          refine (HS.out _).mono ?_
          rintro e w' ⟨rfl, rfl⟩
          go_wp2_with fail
          refine (HC.out _).mono ?_
          rintro e w' ⟨rfl, rfl⟩
          go_wp2
          go_ret
          exact ⟨by rw [HV.out]; rfl, S1.out.below⟩
      · rw [decide_eq_false g3] at HC
        have HV := Lib.hid (HN.out (fun g => g3 g.2.2.1))
        clear HY g1 g2 g3
        go_enter Try.func33, Try.ntmps33
        go_wp2_with fail
        refine (HF.out _).mono ?_
        rintro e w' ⟨rfl, rfl⟩
        go_wp2_with fail
        refine (HS.out _).mono ?_
        rintro e w' ⟨rfl, rfl⟩
        go_wp2_with fail
        refine (HC.out _).mono ?_
        rintro e w' ⟨rfl, rfl⟩
        go_wp2
        go_ret
        exact ⟨by rw [HV.out]; rfl, S1.out.below⟩
    · rw [decide_eq_false g2] at HS
      have HV := Lib.hid (HN.out (fun g => g2 g.2.1))
      clear HY g1 g2
      go_enter Try.func33, Try.ntmps33
      go_wp2_with fail
      refine (HF.out _).mono ?_
      rintro e w' ⟨rfl, rfl⟩
      go_wp2_with fail
      refine (HS.out _).mono ?_
      rintro e w' ⟨rfl, rfl⟩
      go_wp2
      go_ret
      exact ⟨by rw [HV.out]; rfl, S1.out.below⟩
  · rw [decide_eq_false g1] at HF
    have HV := Lib.hid (HN.out (fun g => g1 g.1))
    clear HY g1
    go_enter Try.func33, Try.ntmps33
    go_wp2_with fail
    refine (HF.out _).mono ?_
    rintro e w' ⟨rfl, rfl⟩
    go_wp2
    go_ret
    exact ⟨by rw [HV.out]; rfl, S1.out.below⟩

set_option maxRecDepth 20000 in
set_option maxHeartbeats 2000000 in
theorem cpfi_impl (f s c : Int) (A : Option Addr) (l : List ByteArray) (q : Nat) (hl : l.length ≤ 1099511) (w : World) (h : LsI 1 w w.heap.size A (l.map txC)) :
    Calls Try.prog 85 #[fiV f s c (.slice A l.length q)] w (Gives w fun v => fiT v f s c l) := by
  have S0 := (((St.start w).made (fiL f s c (.slice A l.length q)) 67).made [.int .i64 0, .int .i64 0, .int .i64 0, .slice none 0 0] 67)
  have S1 := Lib.hid (show St w ((w.alloc (.cells (fiL f s c (.slice A l.length q)).toArray 67)).alloc (.cells [.int .i64 0, .int .i64 0, .int .i64 0, .slice none 0 0].toArray 67)) [boxT (w.heap.size + 1) [.int .i64 0, .int .i64 0, .int .i64 0, .slice none 0 0], boxT w.heap.size (fiL f s c (.slice A l.length q))] from by simpa using S0)
  have HT := Lib.hid (clone_txs A l q hl ((w.alloc (.cells (fiL f s c (.slice A l.length q)).toArray 67)).alloc (.cells [.int .i64 0, .int .i64 0, .int .i64 0, .slice none 0 0].toArray 67)) (h.full S1.out.below))
  clear S0 h
  go_enter Try.func85, Try.ntmps85
  go_wp2_with fail
  refine HT.out.mono ?_
  rintro e w4 ⟨A1, q1, rfl, hu0, hb⟩
  have hu := hu0.toO
  have S2 := S1.out.add (lsT 1 (.slice A1 l.length q1) (l.map txC)) hb (LsO.lower hu (Nat.zero_le _)) (fun k hk => (hu.up k hk).1)
  have HQ := Lib.hid (fun k hk => (hu.up k hk).1)
  have HZ := Lib.hid (show w.heap.size ≤ ((w.alloc (.cells (fiL f s c (.slice A l.length q)).toArray 67)).alloc (.cells [.int .i64 0, .int .i64 0, .int .i64 0, .slice none 0 0].toArray 67)).heap.size from S1.out.below.size)
  have S3 : St w (w4.setCell ⟨w.heap.size, 3, none⟩ (.slice A1 l.length q1)) [lsT 1 (.slice A1 l.length q1) (l.map txC), boxT (w.heap.size + 1) [.int .i64 0, .int .i64 0, .int .i64 0, .slice none 0 0], boxT w.heap.size (fiL f s c (.slice A1 l.length q1))] := S2.setBox 2 _ _ rfl 3 (by simp) (.slice A1 l.length q1)
  have S5 := Lib.hid (show St w ((w4.setCell ⟨w.heap.size, 3, none⟩ (.slice A1 l.length q1)).setCells (w.heap.size + 1) 0 (fiL f s c (.slice A1 l.length q1))) [lsT 1 (.slice A1 l.length q1) (l.map txC), boxT (w.heap.size + 1) (fiL f s c (.slice A1 l.length q1)), boxT w.heap.size (fiL f s c (.slice A1 l.length q1))] from S3.setAll 1 _ _ rfl (fiL f s c (.slice A1 l.length q1)) rfl)
  obtain ⟨m0, m1, m2, m3⟩ := (S2.box 2 _ _ rfl).fourFi
  have mi := (S2.box 2 _ _ rfl).ice
  obtain ⟨p0, p1, p2, p3⟩ := (S3.box 2 _ _ rfl).fourFi
  obtain ⟨r0, r1, r2, r3⟩ := (S3.box 1 _ _ rfl).fourFi
  have ri := (S3.box 1 _ _ rfl).ice
  clear S2 S3 hb hu hu0 HT
  go_wp2
  show bodyPost Try.prog Try.f85 _ Exit.ret _ ((w4.setCell ⟨w.heap.size, 3, none⟩ (.slice A1 l.length q1)).setCells (w.heap.size + 1) 0 (fiL f s c (.slice A1 l.length q1)))
  generalize ((w4.setCell ⟨w.heap.size, 3, none⟩ (.slice A1 l.length q1)).setCells (w.heap.size + 1) 0 (fiL f s c (.slice A1 l.length q1))) = WE at *
  obtain ⟨c0, c1, c2, c3⟩ := (S5.out.box 1 _ _ rfl).fourFi
  refine bodyPost_ret_by (v := fiV f s c (.slice A1 l.length q1)) ?_ rfl ⟨_, rfl, ⟨A1, q1, rfl, S5.out.ls 0 _ _ _ rfl⟩, fun k hk => ?_, S5.out.below⟩
  · simp [results, Try.f85, go_sem, c0, c1, c2, c3]
  · have h1 := HQ.out k (blkFi_iff.1 hk)
    have h2 := HZ.out
    omega

set_option maxRecDepth 20000 in
set_option maxHeartbeats 2000000 in
theorem nfi_impl (f : Int) (w : World) :
    Calls Try.prog 26 #[.int .i64 f] w (Gives w fun v => fiT v f (-1) (-1) (List.replicate 25 ⟨#[]⟩)) := by
  have hmk : ∀ W : World, (Instr.makeSlice 65 (.int .i64 25) (.int .i64 25)).run Try.prog W = .ok (.slice (some ⟨W.heap.size, 0, none⟩) 25 25) (W.alloc (.cells (madeCells (Value.string ⟨#[]⟩).cells 25) 9)) := fun W => make_fullX W 25 (by omega)
  have HR := Lib.hid ((make_rowX (w.alloc (.cells (fiL f (-1) (-1) (.slice (some ⟨w.heap.size + 1, 0, none⟩) 25 25)).toArray 67)) 25 (by omega)).own)
  have S1 := Lib.hid ((St.start w).made (fiL f (-1) (-1) (.slice (some ⟨w.heap.size + 1, 0, none⟩) 25 25)) 67)
  generalize madeCells (Value.string ⟨#[]⟩).cells 25 = MC at *
  have hz : (w.alloc (.cells (fiL f (-1) (-1) (.slice (some ⟨w.heap.size + 1, 0, none⟩) 25 25)).toArray 67)).heap.size = w.heap.size + 1 := by simp
  rw [hz] at HR
  have hu := HR.out.toO
  have S5 : Hid (St w ((w.alloc (.cells (fiL f (-1) (-1) (.slice (some ⟨w.heap.size + 1, 0, none⟩) 25 25)).toArray 67)).alloc (.cells MC 9)) [lsT 1 (.slice (some ⟨w.heap.size + 1, 0, none⟩) 25 25) ((List.replicate 25 (⟨#[]⟩ : ByteArray)).map txC), boxT w.heap.size (fiL f (-1) (-1) (.slice (some ⟨w.heap.size + 1, 0, none⟩) 25 25))]) := Lib.hid (S1.out.add _ ((Below.refl _ _).alloc (Nat.le_refl _) (.cells MC 9)) (LsO.lower hu (Nat.zero_le _)) (fun k hk => by have h1 := (hu.up k hk).1; rw [hz]; exact h1))
  have HQ := Lib.hid (fun k hk => (show w.heap.size + 1 ≤ k from (hu.up k hk).1))
  clear S1 HR hu hz
  go_enter Try.func26, Try.ntmps26
  go_wp2
  show bodyPost Try.prog Try.f26 _ Exit.ret _ ((w.alloc (.cells (fiL f (-1) (-1) (.slice (some ⟨w.heap.size + 1, 0, none⟩) 25 25)).toArray 67)).alloc (.cells MC 9))
  clear hmk
  generalize ((w.alloc (.cells (fiL f (-1) (-1) (.slice (some ⟨w.heap.size + 1, 0, none⟩) 25 25)).toArray 67)).alloc (.cells MC 9)) = WE at *
  obtain ⟨c0, c1, c2, c3⟩ := (S5.out.box 1 _ _ rfl).fourFi
  refine bodyPost_ret_by (v := fiV f (-1) (-1) (.slice (some ⟨w.heap.size + 1, 0, none⟩) 25 25)) ?_ rfl ⟨_, rfl, ⟨some ⟨w.heap.size + 1, 0, none⟩, 25, rfl, S5.out.ls 0 _ _ _ rfl⟩, fun k hk => ?_, S5.out.below⟩
  · simp [results, Try.f26, go_sem, c0, c1, c2, c3]
  · have h1 := HQ.out k (blkFi_iff.1 hk)
    omega

def nfiR (f : Int) : Int × Int × Int × List ByteArray := (f, -1, -1, List.replicate 25 ⟨#[]⟩)
theorem nfiR_len (f : Int) : (nfiR f).2.2.2.length ≤ 1048576 := by show (List.replicate 25 _).length ≤ _; simp
def FiEnd (w : World) (r : Int × Int × Int × List ByteArray) (e : Ending) (w' : World) : Prop := Gives w (fun v => fiT v r.1 r.2.1 r.2.2.1 r.2.2.2) e w'
end Go.Proofs.Ytckofkdeedbbgaa
