/- What this text proves: the contracts of the model's and the program's DecodeOrder. -/
import Derived.Test.YtebfefkknaalpaaOrdE
import Derived.Test.YtebfefkknaalpaaBytes
import Derived.Laws.Strings2
namespace Go.Proofs.Ytebfefkknaalpaa
open Go.ChangeShapes Go.WideShapes Go.ChangeAt Go.RowKit
set_option linter.unusedVariables false


def decOOk (s : ByteArray) : Prop := s.size = 7 ∧ OrOk (((valW s 0 1 : Nat) : Int)) (((valW s 1 3 : Nat) : Int)) (((valW s 4 1 : Nat) : Int)) (((valW s 5 2 : Nat) : Int))
noncomputable def decO (s : ByteArray) : Int × Int × Int × Int × Bool := open Classical in
  if decOOk s then (((valW s 0 1 : Nat) : Int), ((valW s 1 3 : Nat) : Int), ((valW s 4 1 : Nat) : Int), ((valW s 5 2 : Nat) : Int), true) else (0, 0, 0, 0, false)
theorem decO_yes {s : ByteArray} (h : decOOk s) : decO s = (((valW s 0 1 : Nat) : Int), ((valW s 1 3 : Nat) : Int), ((valW s 4 1 : Nat) : Int), ((valW s 5 2 : Nat) : Int), true) := by unfold decO; rw [if_pos h]
theorem decO_no {s : ByteArray} (h : ¬ decOOk s) : decO s = (0, 0, 0, 0, false) := by unfold decO; rw [if_neg h]
def retdecO (r : Int × Int × Int × Int × Bool) : Ending := .returned (.tuple #[orV (r.1) (r.2.1) (r.2.2.1) (r.2.2.2.1), .bool r.2.2.2.2])

set_option maxHeartbeats 4000000 in
theorem decO_spec (s : ByteArray) (hs : s.size ≤ 1048576) (w : World) :
    Calls Try.prog 39 #[.string s] w fun e w' => e = retdecO (decO s) ∧ Below w.heap.size w w' := by
  have hm : s.size ≤ maxLen := by unfold maxLen; omega
  by_cases h7 : s.size = 7
  · have H0 := Lib.hid (show ∀ W, Calls Try.prog 80 #[.string s, .int .i64 0, .int .i64 1] W fun e w' => e = .returned (.tuple #[.int .i64 (valW s 0 1 : Nat), .bool true]) ∧ W = w' from fun W => get_yes_spec s 0 1 (by decide) (by decide) (by omega) hm W)
    have H1 := Lib.hid (show ∀ W, Calls Try.prog 80 #[.string s, .int .i64 1, .int .i64 3] W fun e w' => e = .returned (.tuple #[.int .i64 (valW s 1 3 : Nat), .bool true]) ∧ W = w' from fun W => get_yes_spec s 1 3 (by decide) (by decide) (by omega) hm W)
    have H2 := Lib.hid (show ∀ W, Calls Try.prog 80 #[.string s, .int .i64 4, .int .i64 1] W fun e w' => e = .returned (.tuple #[.int .i64 (valW s 4 1 : Nat), .bool true]) ∧ W = w' from fun W => get_yes_spec s 4 1 (by decide) (by decide) (by omega) hm W)
    have H3 := Lib.hid (show ∀ W, Calls Try.prog 80 #[.string s, .int .i64 5, .int .i64 2] W fun e w' => e = .returned (.tuple #[.int .i64 (valW s 5 2 : Nat), .bool true]) ∧ W = w' from fun W => get_yes_spec s 5 2 (by decide) (by decide) (by omega) hm W)
    have HDY := Lib.hid (fun h => decO_yes (s := s) h)
    have HDN := Lib.hid (fun h => decO_no (s := s) h)
    have HOK := Lib.hid (show decOOk s ↔ OrOk (((valW s 0 1 : Nat) : Int)) (((valW s 1 3 : Nat) : Int)) (((valW s 4 1 : Nat) : Int)) (((valW s 5 2 : Nat) : Int)) from ⟨fun h => h.2, fun h => ⟨h7, h⟩⟩)
    have hd : ((s.size : Int) != 7) = false := by simp; omega
    have hd2 : (s.size != 7) = false := by simp; omega
    generalize valW s 0 1 = A at *
    generalize valW s 1 3 = B at *
    generalize valW s 4 1 = C at *
    generalize valW s 5 2 = E at *
    have HP := Lib.hid (or_spec (A : Int) (B : Int) (C : Int) (E : Int))
    clear h7
    by_cases hk : OrOk (A : Int) (B : Int) (C : Int) (E : Int)
    · rw [decide_eq_true hk] at HP
      have HV := Lib.hid (HDY.out (HOK.out.2 hk))
      clear HDY HDN HOK hk
      go_enter Try.func39, Try.ntmps39
      go_wp2_with fail
      refine (H0.out _).mono ?_
      rintro e w' ⟨rfl, rfl⟩
      go_wp2_with fail
      refine (H1.out _).mono ?_
      rintro e w' ⟨rfl, rfl⟩
      go_wp2_with fail
      refine (H2.out _).mono ?_
      rintro e w' ⟨rfl, rfl⟩
      go_wp2_with fail
      refine (H3.out _).mono ?_
      rintro e w' ⟨rfl, rfl⟩
      have BR := (Box.made w (orL 0 0 0 0) 27 _ rfl).alloc (.cells (orL (A : Int) (B : Int) (C : Int) (E : Int)).toArray 27)
      have BP := Box.made (w.alloc (.cells (orL 0 0 0 0).toArray 27)) (orL (A : Int) (B : Int) (C : Int) (E : Int)) 27 (w.heap.size + 1) (by simp)
      have BB : Below w.heap.size w ((w.alloc (.cells (orL 0 0 0 0).toArray 27)).alloc (.cells (orL (A : Int) (B : Int) (C : Int) (E : Int)).toArray 27)) := ((Below.refl _ w).alloc (Nat.le_refl _) _).alloc (by simp) _
      have hz := BB.size
      go_wp2_with fail
      refine (HP.out _).mono ?_
      rintro e w1 ⟨rfl, hb1⟩
      have BR1 := BR.more hb1
      have BP1 := BP.more hb1
      have BW := Lib.hid (BB.trans (hb1.mono hz))
      obtain ⟨k0, k1, k2, k3⟩ := BP1.four4
      obtain ⟨m0, m1, m2, m3⟩ := BR1.four4
      have mi := BR1.ice
      have BF := Lib.hid (BR1.all (us := orL (A : Int) (B : Int) (C : Int) (E : Int)) rfl)
      have BWF := Lib.hid (below_setCells (Nat.le_refl w.heap.size) (orL (A : Int) (B : Int) (C : Int) (E : Int)) 0 w1 BW.out)
      clear BR BP BB BR1 BP1 hb1
      go_wp2
      show bodyPost Try.prog Try.f39 _ Exit.ret _ (w1.setCells w.heap.size 0 (orL (A : Int) (B : Int) (C : Int) (E : Int)))
      generalize w1.setCells w.heap.size 0 (orL (A : Int) (B : Int) (C : Int) (E : Int)) = WE at *
      obtain ⟨c0, c1, c2, c3⟩ := BF.out.four4
      refine bodyPost_ret_by (v := .tuple #[orV (A : Int) (B : Int) (C : Int) (E : Int), .bool true]) ?_ rfl ⟨by rw [HV.out]; rfl, BWF.out⟩
      simp [results, Try.f39, go_sem, c0, c1, c2, c3]
    · rw [decide_eq_false hk] at HP
      have HV := Lib.hid (HDN.out (fun h => hk (HOK.out.1 h)))
      clear HDY HDN HOK hk
      go_enter Try.func39, Try.ntmps39
      go_wp2_with fail
      refine (H0.out _).mono ?_
      rintro e w' ⟨rfl, rfl⟩
      go_wp2_with fail
      refine (H1.out _).mono ?_
      rintro e w' ⟨rfl, rfl⟩
      go_wp2_with fail
      refine (H2.out _).mono ?_
      rintro e w' ⟨rfl, rfl⟩
      go_wp2_with fail
      refine (H3.out _).mono ?_
      rintro e w' ⟨rfl, rfl⟩
      have BR := (Box.made w (orL 0 0 0 0) 27 _ rfl).alloc (.cells (orL (A : Int) (B : Int) (C : Int) (E : Int)).toArray 27)
      have BP := Box.made (w.alloc (.cells (orL 0 0 0 0).toArray 27)) (orL (A : Int) (B : Int) (C : Int) (E : Int)) 27 (w.heap.size + 1) (by simp)
      have BB : Below w.heap.size w ((w.alloc (.cells (orL 0 0 0 0).toArray 27)).alloc (.cells (orL (A : Int) (B : Int) (C : Int) (E : Int)).toArray 27)) := ((Below.refl _ w).alloc (Nat.le_refl _) _).alloc (by simp) _
      have hz := BB.size
      go_wp2_with fail
      refine (HP.out _).mono ?_
      rintro e w1 ⟨rfl, hb1⟩
      have BR1 := BR.more hb1
      have BP1 := BP.more hb1
      have BW := Lib.hid (BB.trans (hb1.mono hz))
      obtain ⟨k0, k1, k2, k3⟩ := BP1.four4
      obtain ⟨m0, m1, m2, m3⟩ := BR1.four4
      have mi := BR1.ice
      have BF := Lib.hid (BR1.all (us := orL 0 0 0 0) rfl)
      have BWF := Lib.hid (below_setCells (Nat.le_refl w.heap.size) (orL 0 0 0 0) 0 w1 BW.out)
      clear BR BP BB BR1 BP1 hb1
      go_wp2
      show bodyPost Try.prog Try.f39 _ Exit.ret _ (w1.setCells w.heap.size 0 (orL 0 0 0 0))
      generalize w1.setCells w.heap.size 0 (orL 0 0 0 0) = WE at *
      obtain ⟨c0, c1, c2, c3⟩ := BF.out.four4
      refine bodyPost_ret_by (v := .tuple #[orV 0 0 0 0, .bool false]) ?_ rfl ⟨by rw [HV.out]; rfl, BWF.out⟩
      simp [results, Try.f39, go_sem, c0, c1, c2, c3]
  · have HV := Lib.hid (decO_no (s := s) (fun h => h7 h.1))
    have hd : ((s.size : Int) != 7) = true := by simp; omega
    have hd2 : (s.size != 7) = true := by simp; omega
    clear h7
    go_enter Try.func39, Try.ntmps39
    go_wp2
    refine bodyPost_ret_by (v := .tuple #[orV 0 0 0 0, .bool false]) ?_ rfl ⟨by rw [HV.out]; rfl, (Below.refl _ w).alloc (Nat.le_refl _) _⟩
    simp [results, Try.f39, go_sem]

set_option maxHeartbeats 4000000 in
theorem decO_impl (s : ByteArray) (hs : s.size ≤ 1048576) (w : World) :
    Calls Try.prog 16 #[.string s] w fun e w' => e = retdecO (decO s) ∧ Below w.heap.size w w' := by
  have hm : s.size ≤ maxLen := by unfold maxLen; omega
  by_cases h7 : s.size = 7
  · have H0 := Lib.hid (show ∀ W, Calls Try.prog 54 #[.string s, .int .i64 0, .int .i64 1] W fun e w' => e = .returned (.tuple #[.int .i64 (valW s 0 1 : Nat), .bool true]) ∧ W = w' from fun W => get_yes_impl s 0 1 (by decide) (by decide) (by omega) hm W)
    have H1 := Lib.hid (show ∀ W, Calls Try.prog 54 #[.string s, .int .i64 1, .int .i64 3] W fun e w' => e = .returned (.tuple #[.int .i64 (valW s 1 3 : Nat), .bool true]) ∧ W = w' from fun W => get_yes_impl s 1 3 (by decide) (by decide) (by omega) hm W)
    have H2 := Lib.hid (show ∀ W, Calls Try.prog 54 #[.string s, .int .i64 4, .int .i64 1] W fun e w' => e = .returned (.tuple #[.int .i64 (valW s 4 1 : Nat), .bool true]) ∧ W = w' from fun W => get_yes_impl s 4 1 (by decide) (by decide) (by omega) hm W)
    have H3 := Lib.hid (show ∀ W, Calls Try.prog 54 #[.string s, .int .i64 5, .int .i64 2] W fun e w' => e = .returned (.tuple #[.int .i64 (valW s 5 2 : Nat), .bool true]) ∧ W = w' from fun W => get_yes_impl s 5 2 (by decide) (by decide) (by omega) hm W)
    have HDY := Lib.hid (fun h => decO_yes (s := s) h)
    have HDN := Lib.hid (fun h => decO_no (s := s) h)
    have HOK := Lib.hid (show decOOk s ↔ OrOk (((valW s 0 1 : Nat) : Int)) (((valW s 1 3 : Nat) : Int)) (((valW s 4 1 : Nat) : Int)) (((valW s 5 2 : Nat) : Int)) from ⟨fun h => h.2, fun h => ⟨h7, h⟩⟩)
    have hd : ((s.size : Int) != 7) = false := by simp; omega
    have hd2 : (s.size != 7) = false := by simp; omega
    generalize valW s 0 1 = A at *
    generalize valW s 1 3 = B at *
    generalize valW s 4 1 = C at *
    generalize valW s 5 2 = E at *
    have HP := Lib.hid (or_impl (A : Int) (B : Int) (C : Int) (E : Int))
    clear h7
    by_cases hk : OrOk (A : Int) (B : Int) (C : Int) (E : Int)
    · rw [decide_eq_true hk] at HP
      have HV := Lib.hid (HDY.out (HOK.out.2 hk))
      clear HDY HDN HOK hk
      go_enter Try.func16, Try.ntmps16
      go_wp2_with fail
      refine (H0.out _).mono ?_
      rintro e w' ⟨rfl, rfl⟩
      go_wp2_with fail
      refine (H1.out _).mono ?_
      rintro e w' ⟨rfl, rfl⟩
      go_wp2_with fail
      refine (H2.out _).mono ?_
      rintro e w' ⟨rfl, rfl⟩
      go_wp2_with fail
      refine (H3.out _).mono ?_
      rintro e w' ⟨rfl, rfl⟩
      have BR := (Box.made w (orL 0 0 0 0) 27 _ rfl).alloc (.cells (orL (A : Int) (B : Int) (C : Int) (E : Int)).toArray 27)
      have BP := Box.made (w.alloc (.cells (orL 0 0 0 0).toArray 27)) (orL (A : Int) (B : Int) (C : Int) (E : Int)) 27 (w.heap.size + 1) (by simp)
      have BB : Below w.heap.size w ((w.alloc (.cells (orL 0 0 0 0).toArray 27)).alloc (.cells (orL (A : Int) (B : Int) (C : Int) (E : Int)).toArray 27)) := ((Below.refl _ w).alloc (Nat.le_refl _) _).alloc (by simp) _
      have hz := BB.size
      go_wp2_with fail
      refine (HP.out _).mono ?_
      rintro e w1 ⟨rfl, hb1⟩
      have BR1 := BR.more hb1
      have BP1 := BP.more hb1
      have BW := Lib.hid (BB.trans (hb1.mono hz))
      obtain ⟨k0, k1, k2, k3⟩ := BP1.four4
      obtain ⟨m0, m1, m2, m3⟩ := BR1.four4
      have mi := BR1.ice
      have BF := Lib.hid (BR1.all (us := orL (A : Int) (B : Int) (C : Int) (E : Int)) rfl)
      have BWF := Lib.hid (below_setCells (Nat.le_refl w.heap.size) (orL (A : Int) (B : Int) (C : Int) (E : Int)) 0 w1 BW.out)
      clear BR BP BB BR1 BP1 hb1
      go_wp2
      show bodyPost Try.prog Try.f16 _ Exit.ret _ (w1.setCells w.heap.size 0 (orL (A : Int) (B : Int) (C : Int) (E : Int)))
      generalize w1.setCells w.heap.size 0 (orL (A : Int) (B : Int) (C : Int) (E : Int)) = WE at *
      obtain ⟨c0, c1, c2, c3⟩ := BF.out.four4
      refine bodyPost_ret_by (v := .tuple #[orV (A : Int) (B : Int) (C : Int) (E : Int), .bool true]) ?_ rfl ⟨by rw [HV.out]; rfl, BWF.out⟩
      simp [results, Try.f16, go_sem, c0, c1, c2, c3]
    · rw [decide_eq_false hk] at HP
      have HV := Lib.hid (HDN.out (fun h => hk (HOK.out.1 h)))
      clear HDY HDN HOK hk
      go_enter Try.func16, Try.ntmps16
      go_wp2_with fail
      refine (H0.out _).mono ?_
      rintro e w' ⟨rfl, rfl⟩
      go_wp2_with fail
      refine (H1.out _).mono ?_
      rintro e w' ⟨rfl, rfl⟩
      go_wp2_with fail
      refine (H2.out _).mono ?_
      rintro e w' ⟨rfl, rfl⟩
      go_wp2_with fail
      refine (H3.out _).mono ?_
      rintro e w' ⟨rfl, rfl⟩
      have BR := (Box.made w (orL 0 0 0 0) 27 _ rfl).alloc (.cells (orL (A : Int) (B : Int) (C : Int) (E : Int)).toArray 27)
      have BP := Box.made (w.alloc (.cells (orL 0 0 0 0).toArray 27)) (orL (A : Int) (B : Int) (C : Int) (E : Int)) 27 (w.heap.size + 1) (by simp)
      have BB : Below w.heap.size w ((w.alloc (.cells (orL 0 0 0 0).toArray 27)).alloc (.cells (orL (A : Int) (B : Int) (C : Int) (E : Int)).toArray 27)) := ((Below.refl _ w).alloc (Nat.le_refl _) _).alloc (by simp) _
      have hz := BB.size
      go_wp2_with fail
      refine (HP.out _).mono ?_
      rintro e w1 ⟨rfl, hb1⟩
      have BR1 := BR.more hb1
      have BP1 := BP.more hb1
      have BW := Lib.hid (BB.trans (hb1.mono hz))
      obtain ⟨k0, k1, k2, k3⟩ := BP1.four4
      obtain ⟨m0, m1, m2, m3⟩ := BR1.four4
      have mi := BR1.ice
      have BF := Lib.hid (BR1.all (us := orL 0 0 0 0) rfl)
      have BWF := Lib.hid (below_setCells (Nat.le_refl w.heap.size) (orL 0 0 0 0) 0 w1 BW.out)
      clear BR BP BB BR1 BP1 hb1
      go_wp2
      show bodyPost Try.prog Try.f16 _ Exit.ret _ (w1.setCells w.heap.size 0 (orL 0 0 0 0))
      generalize w1.setCells w.heap.size 0 (orL 0 0 0 0) = WE at *
      obtain ⟨c0, c1, c2, c3⟩ := BF.out.four4
      refine bodyPost_ret_by (v := .tuple #[orV 0 0 0 0, .bool false]) ?_ rfl ⟨by rw [HV.out]; rfl, BWF.out⟩
      simp [results, Try.f16, go_sem, c0, c1, c2, c3]
  · have HV := Lib.hid (decO_no (s := s) (fun h => h7 h.1))
    have hd : ((s.size : Int) != 7) = true := by simp; omega
    have hd2 : (s.size != 7) = true := by simp; omega
    clear h7
    go_enter Try.func16, Try.ntmps16
    go_wp2
    refine bodyPost_ret_by (v := .tuple #[orV 0 0 0 0, .bool false]) ?_ rfl ⟨by rw [HV.out]; rfl, (Below.refl _ w).alloc (Nat.le_refl _) _⟩
    simp [results, Try.f16, go_sem]

end Go.Proofs.Ytebfefkknaalpaa
