/- What this text proves: the parts SgD of the proof, each under its own words. -/
import Derived.Test.YtckofkdeedbbgaaV08
import Derived.Test.YtckofkdeedbbgaaV04
import Derived.BigRegion
import Derived.RegionTactic
import Derived.Deep.RegionHeld3
import Derived.Deep.QuietTactic
import Derived.BigQuiet
import Derived.Outline
/- What this text proves: the contracts of DecodeSegment and DecodeEnd, of the program and the model; the laws of both. -/
namespace Go.Proofs.Ytckofkdeedbbgaa
open Go.ChangeShapes Go.WideShapes Go.ChangeAt Go.RowKit
set_option linter.unusedVariables false

theorem results_tmp4' {fn : Func} {t u v x : Tmp} (h : fn.results = #[.tmp t, .tmp u, .tmp v, .tmp x]) (tmps : Array Value) (P : Program) (w : World) :
    (results fn tmps).run P w = .ok (.tuple #[tmps.getD t undef, tmps.getD u undef, tmps.getD v undef, tmps.getD x undef]) w := by
  simp [results, h]
theorem putS01 : putS 0 1 = ⟨#[0]⟩ := by
  unfold putS
  rw [if_pos (by unfold PutOk; decide)]
  rfl
theorem putS11 : putS 1 1 = ⟨#[1]⟩ := by
  unfold putS
  rw [if_pos (by unfold PutOk; decide)]
  rfl
/-- The first byte of a segment is 0. -/
theorem esT_first {f k : Int} {d s : ByteArray} (h : ((esT f k d).toList == s.toList) = true) (hs : 3 ≤ s.size) : byteAt s 0 = 0 := by
  have h1 : (esT f k d).data.toList = s.data.toList := by
    rw [← ByteArray.toList_eq, ← ByteArray.toList_eq]; exact eq_of_beq h
  unfold byteAt
  rw [← h1]
  unfold esT at h1 ⊢
  by_cases g : EsOk f k d
  · rw [if_pos g, putS01, ByteArray.append_assoc, ByteArray.append_assoc, ByteArray.data_append, Array.toList_append]
    rfl
  · rw [if_neg g] at h1
    have h2 : s.data.toList.length = 0 := by rw [← h1]; rfl
    have h3 : s.size = s.data.toList.length := by simp
    omega
/-- Whether a text is a segment. -/
def DsOk (s : ByteArray) : Prop := 3 ≤ s.size ∧ ((esT (byteAt s 1 : Nat) (byteAt s 2 : Nat) (s.extract 3 s.size)).toList == s.toList) = true
/-- What DecodeSegment returns. -/
noncomputable def decS (s : ByteArray) : Int × Int × ByteArray × Bool := open Classical in
  if DsOk s then (((byteAt s 1 : Nat) : Int), ((byteAt s 2 : Nat) : Int), s.extract 3 s.size, true) else (0, 0, ⟨#[]⟩, false)
theorem decS_yes {s : ByteArray} (h : DsOk s) : decS s = (((byteAt s 1 : Nat) : Int), ((byteAt s 2 : Nat) : Int), s.extract 3 s.size, true) := by unfold decS; rw [if_pos h]
theorem decS_no {s : ByteArray} (h : ¬ DsOk s) : decS s = (0, 0, ⟨#[]⟩, false) := by unfold decS; rw [if_neg h]
def retSg (r : Int × Int × ByteArray × Bool) : Ending := .returned (.tuple #[.int .i64 r.1, .int .i64 r.2.1, .string r.2.2.1, .bool r.2.2.2])

set_option maxHeartbeats 4000000 in
theorem decS_impl (s : ByteArray) (hs : s.size ≤ 1048576) (w : World) :
    Calls Try.prog 86 #[.string s] w fun e w' => e = retSg (decS s) ∧ Below w.heap.size w w' := by
  by_cases hz : 3 ≤ s.size
  · have d2 : decide (s.size < 3) = false := by simp; omega
    have d2' : decide ((s.size : Int) < 3) = false := by simp; omega
    have e0 := byteAt_of s 0 (by omega)
    have l0 := byteAt_lt s 0
    have e1 := byteAt_of s 1 (by omega)
    have l1 := byteAt_lt s 1
    have e2 := byteAt_of s 2 (by omega)
    have l2 := byteAt_lt s 2
    have hsl : ∀ W : World, (Instr.slice 9 (.string s) (some (.int .i64 3)) none none).run Try.prog W = .ok (.string (s.extract 3 s.size)) W := slice_tail s 3 hz
    have HDY := Lib.hid (fun h => decS_yes (s := s) h)
    have HDN := Lib.hid (fun h => decS_no (s := s) h)
    have hDS : (s.extract 3 s.size).size ≤ 1048576 := by rw [ByteArray.size_extract]; omega
    have HDF := Lib.hid (show DsOk s ↔ ((esT (byteAt s 1 : Nat) (byteAt s 2 : Nat) (s.extract 3 s.size)).toList == s.toList) = true from ⟨fun h => h.2, fun h => ⟨hz, h⟩⟩)
    have HZ := Lib.hid (fun h => esT_first (f := (byteAt s 1 : Nat)) (k := (byteAt s 2 : Nat)) (d := s.extract 3 s.size) (s := s) h hz)
    have hc := fun W => es_impl (byteAt s 1 : Nat) (byteAt s 2 : Nat) (s.extract 3 s.size) hDS W
    clear hDS
    generalize s.extract 3 s.size = DD at *
    generalize byteAt s 0 = Z at *
    generalize byteAt s 1 = X at *
    generalize byteAt s 2 = Y at *
    generalize esT (X : Int) (Y : Int) DD = E at *
    have HC := Lib.hid hc
    clear hc
    have w0 : IntKind.i64.wrap (Z : Int) = (Z : Int) := IntWalk.i64_in _ (by omega)
    have w1 : IntKind.i64.wrap (X : Int) = (X : Int) := IntWalk.i64_in _ (by omega)
    have w2 : IntKind.i64.wrap (Y : Int) = (Y : Int) := IntWalk.i64_in _ (by omega)
    by_cases hE : (E.toList == s.toList) = true
    · have hE' : (E.toList != s.toList) = false := by rw [bne, hE]; rfl
      have HV := Lib.hid (HDY.out (HDF.out.2 hE))
      go_enter Try.func86, Try.ntmps86
      go_wp2
      go_region
      all_goals go_wp2_with fail
      all_goals refine (HC.out _).mono ?_
      all_goals rintro e v2 ⟨rfl, hb2⟩
      all_goals have BW := (Below.refl w.heap.size w).drew.trans (hb2.mono (Below.refl w.heap.size w).drew.size)
      all_goals clear hb2
      all_goals go_wp2
      all_goals (try simp only [Exit.inBlock, Exit.then])
      all_goals refine bodyPost_ret (results_tmp4' rfl _ _ _) rfl ?_
      all_goals exact ⟨by rw [HV.out]; rfl, by first | exact BW | exact BW.drew⟩
    · have hE' : (E.toList != s.toList) = true := by rw [bne]; simpa using hE
      have hE2 : (E.toList == s.toList) = false := by simpa using hE
      have HV := Lib.hid (HDN.out (fun h => hE (HDF.out.1 h)))
      go_enter Try.func86, Try.ntmps86
      go_wp2
      go_region
      all_goals go_wp2_with fail
      all_goals refine (HC.out _).mono ?_
      all_goals rintro e v2 ⟨rfl, hb2⟩
      all_goals have BW := (Below.refl w.heap.size w).drew.trans (hb2.mono (Below.refl w.heap.size w).drew.size)
      all_goals clear hb2
      all_goals go_wp2
      all_goals (try simp only [Exit.inBlock, Exit.then])
      all_goals refine bodyPost_ret (results_tmp4' rfl _ _ _) rfl ?_
      all_goals exact ⟨by rw [HV.out]; rfl, by first | exact BW | exact BW.drew⟩
  · have HV := Lib.hid (decS_no (s := s) (fun h => hz h.1))
    have d2 : decide (s.size < 3) = true := by simp; omega
    have d2' : decide ((s.size : Int) < 3) = true := by simp; omega
    clear hz
    go_enter Try.func86, Try.ntmps86
    go_wp2
    all_goals (try simp only [Exit.inBlock, Exit.then])
    all_goals refine bodyPost_ret (results_tmp4' rfl _ _ _) rfl ?_
    all_goals exact ⟨by rw [HV.out]; rfl, by first | exact Below.refl _ _ | exact below_draws (Below.refl _ _) _⟩

/-- Whether a text is an end. -/
def DeOk (s : ByteArray) : Prop := s.size = 6 ∧ byteAt s 0 = 1 ∧ byteAt s 1 ≤ 7 ∧ valW s 2 2 ≤ 600
instance (s : ByteArray) : Decidable (DeOk s) := by unfold DeOk; infer_instance
/-- What DecodeEnd returns. -/
noncomputable def decE (s : ByteArray) : Int × Int × Int × Bool := if DeOk s then (((byteAt s 1 : Nat) : Int), ((valW s 2 2 : Nat) : Int), ((valW s 4 2 : Nat) : Int), true) else (0, 0, 0, false)
theorem decE_yes {s : ByteArray} (h : DeOk s) : decE s = (((byteAt s 1 : Nat) : Int), ((valW s 2 2 : Nat) : Int), ((valW s 4 2 : Nat) : Int), true) := if_pos h
theorem decE_no {s : ByteArray} (h : ¬ DeOk s) : decE s = (0, 0, 0, false) := if_neg h
def retSe (r : Int × Int × Int × Bool) : Ending := .returned (.tuple #[.int .i64 r.1, .int .i64 r.2.1, .int .i64 r.2.2.1, .bool r.2.2.2])
theorem valW_one (s : ByteArray) (i : Nat) : valW s i 1 = byteAt s i := by simp [valW]

set_option maxHeartbeats 4000000 in
theorem decE_impl (s : ByteArray) (hs : s.size ≤ 1048576) (w : World) :
    Calls Try.prog 87 #[.string s] w fun e w' => e = retSe (decE s) ∧ Below w.heap.size w w' := by
  have hm : s.size ≤ maxLen := by unfold maxLen; omega
  by_cases hz : s.size = 6
  · have d2 : ((s.size : Int) != 6) = false := by simp; omega
    have d2' : ((s.size : Int) == 6) = true := by simp; omega
    have h6 : 6 ≤ s.size := by omega
    have e0 := byteAt_of s 0 (Nat.lt_of_lt_of_le (by decide) h6)
    have l0 := byteAt_lt s 0
    have e1 := byteAt_of s 1 (Nat.lt_of_lt_of_le (by decide) h6)
    have l1 := byteAt_lt s 1
    have HY := Lib.hid (fun (h1 : byteAt s 0 = 1) (h2 : byteAt s 1 ≤ 7) (h3 : valW s 2 2 ≤ 600) => decE_yes (s := s) ⟨hz, h1, h2, h3⟩)
    have HN := Lib.hid (fun (h : ¬ (byteAt s 0 = 1 ∧ byteAt s 1 ≤ 7 ∧ valW s 2 2 ≤ 600)) => decE_no (s := s) (fun g => h g.2))
    have G0 := Lib.hid (show ∀ W, Calls Try.prog 141 #[.string s, .int .i64 0, .int .i64 1] W fun e w' => e = .returned (.tuple #[.int .i64 (byteAt s 0 : Nat), .bool true]) ∧ W = w' from fun W => by have h := get_yes_impl s 0 1 (by decide) (by decide) (by omega) hm W; rwa [valW_one] at h)
    have G1 := Lib.hid (show ∀ W, Calls Try.prog 141 #[.string s, .int .i64 1, .int .i64 1] W fun e w' => e = .returned (.tuple #[.int .i64 (byteAt s 1 : Nat), .bool true]) ∧ W = w' from fun W => by have h := get_yes_impl s 1 1 (by decide) (by decide) (by omega) hm W; rwa [valW_one] at h)
    have G2 := Lib.hid (show ∀ W, Calls Try.prog 141 #[.string s, .int .i64 2, .int .i64 2] W fun e w' => e = .returned (.tuple #[.int .i64 (valW s 2 2 : Nat), .bool true]) ∧ W = w' from fun W => get_yes_impl s 2 2 (by decide) (by decide) (by omega) hm W)
    have G3 := Lib.hid (show ∀ W, Calls Try.prog 141 #[.string s, .int .i64 4, .int .i64 2] W fun e w' => e = .returned (.tuple #[.int .i64 (valW s 4 2 : Nat), .bool true]) ∧ W = w' from fun W => get_yes_impl s 4 2 (by decide) (by decide) (by omega) hm W)
    have l2 := valW_small s 2 2 (by decide)
    have l3 := valW_small s 4 2 (by decide)
    generalize byteAt s 0 = Z at *
    generalize byteAt s 1 = X at *
    generalize valW s 2 2 = Y at *
    generalize valW s 4 2 = U at *
    have HF := Lib.hid (fl_impl (X : Int))
    have w0 : IntKind.i64.wrap (Z : Int) = (Z : Int) := IntWalk.i64_in _ (by omega)
    have w1 : IntKind.i64.wrap (X : Int) = (X : Int) := IntWalk.i64_in _ (by omega)
    clear hz hm
    by_cases h1 : Z = 1
    · have z1 : ((Z : Int) != 1) = false := by simp; omega
      have z2 : ((Z : Int) == 1) = true := by simp; omega
      by_cases h2 : X ≤ 7
      · have x1 : decide ((7 : Int) < (X : Int)) = false := by simp; omega
        have x2 : decide (7 < X) = false := by simp; omega
        rw [decide_eq_true (by omega)] at HF
        by_cases h3 : Y ≤ 600
        · have HV := Lib.hid (HY.out h1 h2 h3)
          have y1 : decide ((600 : Int) < (Y : Int)) = false := by simp; omega
          have y2 : decide (600 < Y) = false := by simp; omega
          clear h1 h2 h3 HY HN
          go_enter Try.func87, Try.ntmps87
          go_wp2_with fail
          refine (G0.out _).mono ?_
          rintro e w' ⟨rfl, rfl⟩
          go_wp2_with fail
          refine (G1.out _).mono ?_
          rintro e w' ⟨rfl, rfl⟩
          go_wp2_with fail
          refine (G2.out _).mono ?_
          rintro e w' ⟨rfl, rfl⟩
          go_wp2_with fail
          refine (G3.out _).mono ?_
          rintro e w' ⟨rfl, rfl⟩
          go_wp2_with fail
          refine (HF.out _).mono ?_
          rintro e w' ⟨rfl, rfl⟩
          go_wp2
          all_goals (try simp only [Exit.inBlock, Exit.then])
          all_goals refine bodyPost_ret (results_tmp4' rfl _ _ _) rfl ?_
          all_goals exact ⟨by rw [HV.out]; rfl, Below.refl _ _⟩
        · have HV := Lib.hid (HN.out (fun g => h3 g.2.2))
          have y1 : decide ((600 : Int) < (Y : Int)) = true := by simp; omega
          have y2 : decide (600 < Y) = true := by simp; omega
          clear h1 h2 h3 HY HN
          go_enter Try.func87, Try.ntmps87
          go_wp2_with fail
          refine (G0.out _).mono ?_
          rintro e w' ⟨rfl, rfl⟩
          go_wp2_with fail
          refine (G1.out _).mono ?_
          rintro e w' ⟨rfl, rfl⟩
          go_wp2_with fail
          refine (G2.out _).mono ?_
          rintro e w' ⟨rfl, rfl⟩
          go_wp2_with fail
          refine (G3.out _).mono ?_
          rintro e w' ⟨rfl, rfl⟩
          go_wp2_with fail
          refine (HF.out _).mono ?_
          rintro e w' ⟨rfl, rfl⟩
          go_wp2
          all_goals (try simp only [Exit.inBlock, Exit.then])
          all_goals refine bodyPost_ret (results_tmp4' rfl _ _ _) rfl ?_
          all_goals exact ⟨by rw [HV.out]; rfl, Below.refl _ _⟩
      · have HV := Lib.hid (HN.out (fun g => h2 g.2.1))
        have x1 : decide ((7 : Int) < (X : Int)) = true := by simp; omega
        have x2 : decide (7 < X) = true := by simp; omega
        rw [decide_eq_false (by omega)] at HF
        clear h1 h2 HY HN
        go_enter Try.func87, Try.ntmps87
        go_wp2_with fail
        refine (G0.out _).mono ?_
        rintro e w' ⟨rfl, rfl⟩
        go_wp2_with fail
        refine (G1.out _).mono ?_
        rintro e w' ⟨rfl, rfl⟩
        go_wp2_with fail
        refine (G2.out _).mono ?_
        rintro e w' ⟨rfl, rfl⟩
        go_wp2_with fail
        refine (G3.out _).mono ?_
        rintro e w' ⟨rfl, rfl⟩
        go_wp2_with fail
        refine (HF.out _).mono ?_
        rintro e w' ⟨rfl, rfl⟩
        go_wp2
        all_goals (try simp only [Exit.inBlock, Exit.then])
        all_goals refine bodyPost_ret (results_tmp4' rfl _ _ _) rfl ?_
        all_goals exact ⟨by rw [HV.out]; rfl, Below.refl _ _⟩
    · have HV := Lib.hid (HN.out (fun g => h1 g.1))
      have z1 : ((Z : Int) != 1) = true := by simp; omega
      have z2 : ((Z : Int) == 1) = false := by simp; omega
      clear h1 HY HN
      go_enter Try.func87, Try.ntmps87
      go_wp2_with fail
      refine (G0.out _).mono ?_
      rintro e w' ⟨rfl, rfl⟩
      go_wp2_with fail
      refine (G1.out _).mono ?_
      rintro e w' ⟨rfl, rfl⟩
      go_wp2_with fail
      refine (G2.out _).mono ?_
      rintro e w' ⟨rfl, rfl⟩
      go_wp2_with fail
      refine (G3.out _).mono ?_
      rintro e w' ⟨rfl, rfl⟩
      go_wp2
      all_goals (try simp only [Exit.inBlock, Exit.then])
      all_goals refine bodyPost_ret (results_tmp4' rfl _ _ _) rfl ?_
      all_goals exact ⟨by rw [HV.out]; rfl, Below.refl _ _⟩
  · have HV := Lib.hid (decE_no (s := s) (fun h => hz h.1))
    have d2 : ((s.size : Int) != 6) = true := by simp; omega
    have d2' : ((s.size : Int) == 6) = false := by simp; omega
    clear hz hm
    go_enter Try.func87, Try.ntmps87
    go_wp2
    all_goals (try simp only [Exit.inBlock, Exit.then])
    all_goals refine bodyPost_ret (results_tmp4' rfl _ _ _) rfl ?_
    all_goals exact ⟨by rw [HV.out]; rfl, Below.refl _ _⟩

end Go.Proofs.Ytckofkdeedbbgaa
