/- What this text proves: the contracts of the model's and the program's DecodeRecord. -/
import Derived.Test.YtebfefkknaalpaaRcdE
import Derived.Test.YtebfefkknaalpaaBytes
import Derived.Laws.Strings2
namespace Go.Proofs.Ytebfefkknaalpaa
open Go.ChangeShapes Go.WideShapes Go.ChangeAt Go.RowKit
set_option linter.unusedVariables false


def decROk (s : ByteArray) : Prop := 6 ≤ s.size ∧ RdOk (((valW s 0 2 : Nat) : Int)) (((valW s 2 1 : Nat) : Int)) (((valW s 3 3 : Nat) : Int)) (s.extract 6 s.size)
noncomputable def decR (s : ByteArray) : Int × Int × Int × ByteArray × Bool := open Classical in
  if decROk s then (((valW s 0 2 : Nat) : Int), ((valW s 2 1 : Nat) : Int), ((valW s 3 3 : Nat) : Int), s.extract 6 s.size, true) else (0, 0, 0, ⟨#[]⟩, false)
theorem decR_yes {s : ByteArray} (h : decROk s) : decR s = (((valW s 0 2 : Nat) : Int), ((valW s 2 1 : Nat) : Int), ((valW s 3 3 : Nat) : Int), s.extract 6 s.size, true) := by unfold decR; rw [if_pos h]
theorem decR_no {s : ByteArray} (h : ¬ decROk s) : decR s = (0, 0, 0, ⟨#[]⟩, false) := by unfold decR; rw [if_neg h]
def retdecR (r : Int × Int × Int × ByteArray × Bool) : Ending := .returned (.tuple #[rdV (r.1) (r.2.1) (r.2.2.1) (r.2.2.2.1), .bool r.2.2.2.2])
theorem ext_size (s : ByteArray) (a : Nat) (h : a ≤ s.size) : (s.extract a s.size).size = s.size - a := by rw [ByteArray.size_extract]; omega

set_option maxHeartbeats 4000000 in
theorem decR_spec (s : ByteArray) (hs : s.size ≤ 1048576) (w : World) :
    Calls Try.prog 45 #[.string s] w fun e w' => e = retdecR (decR s) ∧ Below w.heap.size w w' := by
  have hm : s.size ≤ maxLen := by unfold maxLen; omega
  by_cases h7 : 6 ≤ s.size
  · have H0 := Lib.hid (show ∀ W, Calls Try.prog 80 #[.string s, .int .i64 0, .int .i64 2] W fun e w' => e = .returned (.tuple #[.int .i64 (valW s 0 2 : Nat), .bool true]) ∧ W = w' from fun W => get_yes_spec s 0 2 (by decide) (by decide) (by omega) hm W)
    have H1 := Lib.hid (show ∀ W, Calls Try.prog 80 #[.string s, .int .i64 2, .int .i64 1] W fun e w' => e = .returned (.tuple #[.int .i64 (valW s 2 1 : Nat), .bool true]) ∧ W = w' from fun W => get_yes_spec s 2 1 (by decide) (by decide) (by omega) hm W)
    have H2 := Lib.hid (show ∀ W, Calls Try.prog 80 #[.string s, .int .i64 3, .int .i64 3] W fun e w' => e = .returned (.tuple #[.int .i64 (valW s 3 3 : Nat), .bool true]) ∧ W = w' from fun W => get_yes_spec s 3 3 (by decide) (by decide) (by omega) hm W)
    have HDY := Lib.hid (fun h => decR_yes (s := s) h)
    have HDN := Lib.hid (fun h => decR_no (s := s) h)
    have HOK := Lib.hid (show decROk s ↔ RdOk (((valW s 0 2 : Nat) : Int)) (((valW s 2 1 : Nat) : Int)) (((valW s 3 3 : Nat) : Int)) (s.extract 6 s.size) from ⟨fun h => h.2, fun h => ⟨h7, h⟩⟩)
    have hd : decide ((s.size : Int) < 6) = false := by simp; omega
    have hd2 : decide (s.size < 6) = false := by simp; omega
    have hsl : ∀ W : World, (Instr.slice 9 (.string s) (some (.int .i64 6)) none none).run Try.prog W = .ok (.string (s.extract 6 s.size)) W := fun W => by
      have h := run_slice_string_from_if W 9 s .i64 6 Try.underlying9
      rw [if_pos (by omega)] at h
      exact h
    generalize s.extract 6 s.size = DD at *
    generalize valW s 0 2 = A at *
    generalize valW s 2 1 = B at *
    generalize valW s 3 3 = C at *
    have HP := Lib.hid (rd_spec (A : Int) (B : Int) (C : Int) DD)
    clear h7
    by_cases hk : RdOk (A : Int) (B : Int) (C : Int) DD
    · rw [decide_eq_true hk] at HP
      have HV := Lib.hid (HDY.out (HOK.out.2 hk))
      clear HDY HDN HOK hk
      go_enter Try.func45, Try.ntmps45
      go_wp2_with fail
      refine (H0.out _).mono ?_
      rintro e w' ⟨rfl, rfl⟩
      go_wp2_with fail
      refine (H1.out _).mono ?_
      rintro e w' ⟨rfl, rfl⟩
      go_wp2_with fail
      refine (H2.out _).mono ?_
      rintro e w' ⟨rfl, rfl⟩
      have BR := (Box.made w (rdL 0 0 0 ⟨#[]⟩) 35 _ rfl).alloc (.cells (rdL (A : Int) (B : Int) (C : Int) DD).toArray 35)
      have BP := Box.made (w.alloc (.cells (rdL 0 0 0 ⟨#[]⟩).toArray 35)) (rdL (A : Int) (B : Int) (C : Int) DD) 35 (w.heap.size + 1) (by simp)
      have BB : Below w.heap.size w ((w.alloc (.cells (rdL 0 0 0 ⟨#[]⟩).toArray 35)).alloc (.cells (rdL (A : Int) (B : Int) (C : Int) DD).toArray 35)) := ((Below.refl _ w).alloc (Nat.le_refl _) _).alloc (by simp) _
      have hz := BB.size
      go_wp2_with fail
      refine (HP.out _).mono ?_
      rintro e w1 ⟨rfl, hb1⟩
      have BR1 := BR.more hb1
      have BP1 := BP.more hb1
      have BW := Lib.hid (BB.trans (hb1.mono hz))
      obtain ⟨k0, k1, k2, k3⟩ := BP1.four4
      obtain ⟨m0, m1, m2, m3⟩ := BR1.four4
      have mi := BR1.ice
      have BF := Lib.hid (BR1.all (us := rdL (A : Int) (B : Int) (C : Int) DD) rfl)
      have BWF := Lib.hid (below_setCells (Nat.le_refl w.heap.size) (rdL (A : Int) (B : Int) (C : Int) DD) 0 w1 BW.out)
      clear BR BP BB BR1 BP1 hb1
      go_wp2
      show bodyPost Try.prog Try.f45 _ Exit.ret _ (w1.setCells w.heap.size 0 (rdL (A : Int) (B : Int) (C : Int) DD))
      generalize w1.setCells w.heap.size 0 (rdL (A : Int) (B : Int) (C : Int) DD) = WE at *
      obtain ⟨c0, c1, c2, c3⟩ := BF.out.four4
      refine bodyPost_ret_by (v := .tuple #[rdV (A : Int) (B : Int) (C : Int) DD, .bool true]) ?_ rfl ⟨by rw [HV.out]; rfl, BWF.out⟩
      simp [results, Try.f45, go_sem, c0, c1, c2, c3]
    · rw [decide_eq_false hk] at HP
      have HV := Lib.hid (HDN.out (fun h => hk (HOK.out.1 h)))
      clear HDY HDN HOK hk
      go_enter Try.func45, Try.ntmps45
      go_wp2_with fail
      refine (H0.out _).mono ?_
      rintro e w' ⟨rfl, rfl⟩
      go_wp2_with fail
      refine (H1.out _).mono ?_
      rintro e w' ⟨rfl, rfl⟩
      go_wp2_with fail
      refine (H2.out _).mono ?_
      rintro e w' ⟨rfl, rfl⟩
      have BR := (Box.made w (rdL 0 0 0 ⟨#[]⟩) 35 _ rfl).alloc (.cells (rdL (A : Int) (B : Int) (C : Int) DD).toArray 35)
      have BP := Box.made (w.alloc (.cells (rdL 0 0 0 ⟨#[]⟩).toArray 35)) (rdL (A : Int) (B : Int) (C : Int) DD) 35 (w.heap.size + 1) (by simp)
      have BB : Below w.heap.size w ((w.alloc (.cells (rdL 0 0 0 ⟨#[]⟩).toArray 35)).alloc (.cells (rdL (A : Int) (B : Int) (C : Int) DD).toArray 35)) := ((Below.refl _ w).alloc (Nat.le_refl _) _).alloc (by simp) _
      have hz := BB.size
      go_wp2_with fail
      refine (HP.out _).mono ?_
      rintro e w1 ⟨rfl, hb1⟩
      have BR1 := BR.more hb1
      have BP1 := BP.more hb1
      have BW := Lib.hid (BB.trans (hb1.mono hz))
      obtain ⟨k0, k1, k2, k3⟩ := BP1.four4
      obtain ⟨m0, m1, m2, m3⟩ := BR1.four4
      have mi := BR1.ice
      have BF := Lib.hid (BR1.all (us := rdL 0 0 0 ⟨#[]⟩) rfl)
      have BWF := Lib.hid (below_setCells (Nat.le_refl w.heap.size) (rdL 0 0 0 ⟨#[]⟩) 0 w1 BW.out)
      clear BR BP BB BR1 BP1 hb1
      go_wp2
      show bodyPost Try.prog Try.f45 _ Exit.ret _ (w1.setCells w.heap.size 0 (rdL 0 0 0 ⟨#[]⟩))
      generalize w1.setCells w.heap.size 0 (rdL 0 0 0 ⟨#[]⟩) = WE at *
      obtain ⟨c0, c1, c2, c3⟩ := BF.out.four4
      refine bodyPost_ret_by (v := .tuple #[rdV 0 0 0 ⟨#[]⟩, .bool false]) ?_ rfl ⟨by rw [HV.out]; rfl, BWF.out⟩
      simp [results, Try.f45, go_sem, c0, c1, c2, c3]
  · have HV := Lib.hid (decR_no (s := s) (fun h => h7 h.1))
    have hd : decide ((s.size : Int) < 6) = true := by simp; omega
    have hd2 : decide (s.size < 6) = true := by simp; omega
    clear h7
    go_enter Try.func45, Try.ntmps45
    go_wp2
    refine bodyPost_ret_by (v := .tuple #[rdV 0 0 0 ⟨#[]⟩, .bool false]) ?_ rfl ⟨by rw [HV.out]; rfl, (Below.refl _ w).alloc (Nat.le_refl _) _⟩
    simp [results, Try.f45, go_sem]

set_option maxHeartbeats 4000000 in
theorem decR_impl (s : ByteArray) (hs : s.size ≤ 1048576) (w : World) :
    Calls Try.prog 21 #[.string s] w fun e w' => e = retdecR (decR s) ∧ Below w.heap.size w w' := by
  have hm : s.size ≤ maxLen := by unfold maxLen; omega
  by_cases h7 : 6 ≤ s.size
  · have H0 := Lib.hid (show ∀ W, Calls Try.prog 54 #[.string s, .int .i64 0, .int .i64 2] W fun e w' => e = .returned (.tuple #[.int .i64 (valW s 0 2 : Nat), .bool true]) ∧ W = w' from fun W => get_yes_impl s 0 2 (by decide) (by decide) (by omega) hm W)
    have H1 := Lib.hid (show ∀ W, Calls Try.prog 54 #[.string s, .int .i64 2, .int .i64 1] W fun e w' => e = .returned (.tuple #[.int .i64 (valW s 2 1 : Nat), .bool true]) ∧ W = w' from fun W => get_yes_impl s 2 1 (by decide) (by decide) (by omega) hm W)
    have H2 := Lib.hid (show ∀ W, Calls Try.prog 54 #[.string s, .int .i64 3, .int .i64 3] W fun e w' => e = .returned (.tuple #[.int .i64 (valW s 3 3 : Nat), .bool true]) ∧ W = w' from fun W => get_yes_impl s 3 3 (by decide) (by decide) (by omega) hm W)
    have HDY := Lib.hid (fun h => decR_yes (s := s) h)
    have HDN := Lib.hid (fun h => decR_no (s := s) h)
    have HOK := Lib.hid (show decROk s ↔ RdOk (((valW s 0 2 : Nat) : Int)) (((valW s 2 1 : Nat) : Int)) (((valW s 3 3 : Nat) : Int)) (s.extract 6 s.size) from ⟨fun h => h.2, fun h => ⟨h7, h⟩⟩)
    have hd : decide ((s.size : Int) < 6) = false := by simp; omega
    have hd2 : decide (s.size < 6) = false := by simp; omega
    have hsl : ∀ W : World, (Instr.slice 9 (.string s) (some (.int .i64 6)) none none).run Try.prog W = .ok (.string (s.extract 6 s.size)) W := fun W => by
      have h := run_slice_string_from_if W 9 s .i64 6 Try.underlying9
      rw [if_pos (by omega)] at h
      exact h
    generalize s.extract 6 s.size = DD at *
    generalize valW s 0 2 = A at *
    generalize valW s 2 1 = B at *
    generalize valW s 3 3 = C at *
    have HP := Lib.hid (rd_impl (A : Int) (B : Int) (C : Int) DD)
    clear h7
    by_cases hk : RdOk (A : Int) (B : Int) (C : Int) DD
    · rw [decide_eq_true hk] at HP
      have HV := Lib.hid (HDY.out (HOK.out.2 hk))
      clear HDY HDN HOK hk
      go_enter Try.func21, Try.ntmps21
      go_wp2_with fail
      refine (H0.out _).mono ?_
      rintro e w' ⟨rfl, rfl⟩
      go_wp2_with fail
      refine (H1.out _).mono ?_
      rintro e w' ⟨rfl, rfl⟩
      go_wp2_with fail
      refine (H2.out _).mono ?_
      rintro e w' ⟨rfl, rfl⟩
      have BR := (Box.made w (rdL 0 0 0 ⟨#[]⟩) 35 _ rfl).alloc (.cells (rdL (A : Int) (B : Int) (C : Int) DD).toArray 35)
      have BP := Box.made (w.alloc (.cells (rdL 0 0 0 ⟨#[]⟩).toArray 35)) (rdL (A : Int) (B : Int) (C : Int) DD) 35 (w.heap.size + 1) (by simp)
      have BB : Below w.heap.size w ((w.alloc (.cells (rdL 0 0 0 ⟨#[]⟩).toArray 35)).alloc (.cells (rdL (A : Int) (B : Int) (C : Int) DD).toArray 35)) := ((Below.refl _ w).alloc (Nat.le_refl _) _).alloc (by simp) _
      have hz := BB.size
      go_wp2_with fail
      refine (HP.out _).mono ?_
      rintro e w1 ⟨rfl, hb1⟩
      have BR1 := BR.more hb1
      have BP1 := BP.more hb1
      have BW := Lib.hid (BB.trans (hb1.mono hz))
      obtain ⟨k0, k1, k2, k3⟩ := BP1.four4
      obtain ⟨m0, m1, m2, m3⟩ := BR1.four4
      have mi := BR1.ice
      have BF := Lib.hid (BR1.all (us := rdL (A : Int) (B : Int) (C : Int) DD) rfl)
      have BWF := Lib.hid (below_setCells (Nat.le_refl w.heap.size) (rdL (A : Int) (B : Int) (C : Int) DD) 0 w1 BW.out)
      clear BR BP BB BR1 BP1 hb1
      go_wp2
      show bodyPost Try.prog Try.f21 _ Exit.ret _ (w1.setCells w.heap.size 0 (rdL (A : Int) (B : Int) (C : Int) DD))
      generalize w1.setCells w.heap.size 0 (rdL (A : Int) (B : Int) (C : Int) DD) = WE at *
      obtain ⟨c0, c1, c2, c3⟩ := BF.out.four4
      refine bodyPost_ret_by (v := .tuple #[rdV (A : Int) (B : Int) (C : Int) DD, .bool true]) ?_ rfl ⟨by rw [HV.out]; rfl, BWF.out⟩
      simp [results, Try.f21, go_sem, c0, c1, c2, c3]
    · rw [decide_eq_false hk] at HP
      have HV := Lib.hid (HDN.out (fun h => hk (HOK.out.1 h)))
      clear HDY HDN HOK hk
      go_enter Try.func21, Try.ntmps21
      go_wp2_with fail
      refine (H0.out _).mono ?_
      rintro e w' ⟨rfl, rfl⟩
      go_wp2_with fail
      refine (H1.out _).mono ?_
      rintro e w' ⟨rfl, rfl⟩
      go_wp2_with fail
      refine (H2.out _).mono ?_
      rintro e w' ⟨rfl, rfl⟩
      have BR := (Box.made w (rdL 0 0 0 ⟨#[]⟩) 35 _ rfl).alloc (.cells (rdL (A : Int) (B : Int) (C : Int) DD).toArray 35)
      have BP := Box.made (w.alloc (.cells (rdL 0 0 0 ⟨#[]⟩).toArray 35)) (rdL (A : Int) (B : Int) (C : Int) DD) 35 (w.heap.size + 1) (by simp)
      have BB : Below w.heap.size w ((w.alloc (.cells (rdL 0 0 0 ⟨#[]⟩).toArray 35)).alloc (.cells (rdL (A : Int) (B : Int) (C : Int) DD).toArray 35)) := ((Below.refl _ w).alloc (Nat.le_refl _) _).alloc (by simp) _
      have hz := BB.size
      go_wp2_with fail
      refine (HP.out _).mono ?_
      rintro e w1 ⟨rfl, hb1⟩
      have BR1 := BR.more hb1
      have BP1 := BP.more hb1
      have BW := Lib.hid (BB.trans (hb1.mono hz))
      obtain ⟨k0, k1, k2, k3⟩ := BP1.four4
      obtain ⟨m0, m1, m2, m3⟩ := BR1.four4
      have mi := BR1.ice
      have BF := Lib.hid (BR1.all (us := rdL 0 0 0 ⟨#[]⟩) rfl)
      have BWF := Lib.hid (below_setCells (Nat.le_refl w.heap.size) (rdL 0 0 0 ⟨#[]⟩) 0 w1 BW.out)
      clear BR BP BB BR1 BP1 hb1
      go_wp2
      show bodyPost Try.prog Try.f21 _ Exit.ret _ (w1.setCells w.heap.size 0 (rdL 0 0 0 ⟨#[]⟩))
      generalize w1.setCells w.heap.size 0 (rdL 0 0 0 ⟨#[]⟩) = WE at *
      obtain ⟨c0, c1, c2, c3⟩ := BF.out.four4
      refine bodyPost_ret_by (v := .tuple #[rdV 0 0 0 ⟨#[]⟩, .bool false]) ?_ rfl ⟨by rw [HV.out]; rfl, BWF.out⟩
      simp [results, Try.f21, go_sem, c0, c1, c2, c3]
  · have HV := Lib.hid (decR_no (s := s) (fun h => h7 h.1))
    have hd : decide ((s.size : Int) < 6) = true := by simp; omega
    have hd2 : decide (s.size < 6) = true := by simp; omega
    clear h7
    go_enter Try.func21, Try.ntmps21
    go_wp2
    refine bodyPost_ret_by (v := .tuple #[rdV 0 0 0 ⟨#[]⟩, .bool false]) ?_ rfl ⟨by rw [HV.out]; rfl, (Below.refl _ w).alloc (Nat.le_refl _) _⟩
    simp [results, Try.f21, go_sem]

end Go.Proofs.Ytebfefkknaalpaa
