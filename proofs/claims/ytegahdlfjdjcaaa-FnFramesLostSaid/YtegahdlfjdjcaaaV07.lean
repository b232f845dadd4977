/- What this text proves: the parts PktD of the proof, each under its own words. -/
import Derived.Test.YtegahdlfjdjcaaaV06
import Derived.Test.YtegahdlfjdjcaaaV02
import Derived.Laws.Strings2
/- What this text proves: the contract of the model's DecodePacket. -/
namespace Go.Proofs.Ytegahdlfjdjcaaa
open Go.ChangeShapes Go.WideShapes Go.ChangeAt Go.RowKit
set_option linter.unusedVariables false

/-- Whether a packet stands at a place of a text. -/
def DcOk (s : ByteArray) (a : Int) : Prop := 0 ≤ a ∧ a + 4 ≤ s.size ∧ a + 4 + valW s (a.toNat + 3) 1 ≤ s.size ∧ valW s a.toNat 1 ≤ 15 ∧ valW s (a.toNat + 3) 1 ≤ 40
/-- What DecodePacket returns: Apid, Seq, Data, the number of bytes, whether there is one. -/
noncomputable def decP (s : ByteArray) (a : Int) : Int × Int × ByteArray × Int × Bool := open Classical in
  if DcOk s a then (((valW s a.toNat 1 : Nat) : Int), ((valW s (a.toNat + 1) 2 : Nat) : Int), s.extract (a.toNat + 4) (a.toNat + 4 + valW s (a.toNat + 3) 1), 4 + ((valW s (a.toNat + 3) 1 : Nat) : Int), true) else (0, 0, ⟨#[]⟩, 0, false)
theorem decP_yes {s : ByteArray} {a : Int} (h : DcOk s a) : decP s a = (((valW s a.toNat 1 : Nat) : Int), ((valW s (a.toNat + 1) 2 : Nat) : Int), s.extract (a.toNat + 4) (a.toNat + 4 + valW s (a.toNat + 3) 1), 4 + ((valW s (a.toNat + 3) 1 : Nat) : Int), true) := by unfold decP; rw [if_pos h]
theorem decP_no {s : ByteArray} {a : Int} (h : ¬ DcOk s a) : decP s a = (0, 0, ⟨#[]⟩, 0, false) := by unfold decP; rw [if_neg h]
def retD (r : Int × Int × ByteArray × Int × Bool) : Ending := .returned (.tuple #[pkV r.1 r.2.1 r.2.2.1, .int .i64 r.2.2.2.1, .bool r.2.2.2.2])
theorem slice_part (s : ByteArray) (a b : Nat) (hab : a ≤ b) (hb : b ≤ s.size) : ∀ W : World, (Instr.slice 9 (.string s) (some (.int .i64 (a : Int))) (some (.int .i64 (b : Int))) none).run Try.prog W = .ok (.string (s.extract a b)) W := fun W => by
  have h := run_slice_string W 9 s .i64 .i64 (a : Int) (b : Int) Try.underlying9 (by omega) (by omega) (by omega)
  simpa using h

set_option maxHeartbeats 4000000 in
theorem dec_spec (s : ByteArray) (hs : s.size ≤ 1048576) (a : Int) (ha : -9223372036854775808 ≤ a ∧ a ≤ 9223372036854775807) (w : World) :
    Calls Try.prog 38 #[.string s, .int .i64 a] w fun e w' => e = retD (decP s a) ∧ Below w.heap.size w w' := by
  have hm : s.size ≤ maxLen := by unfold maxLen; omega
  by_cases h1 : 0 ≤ a ∧ a + 1 ≤ s.size
  · obtain ⟨i, rfl⟩ := Int.eq_ofNat_of_zero_le h1.1
    have H1 := Lib.hid (get_yes_spec s i 1 (by decide) (by decide) (by omega) hm)
    by_cases h4 : i + 4 ≤ s.size
    · have H2 := Lib.hid (show ∀ W, _ from fun W => get_yes_spec s (i + 1) 2 (by decide) (by decide) (by omega) hm W)
      have H3 := Lib.hid (show ∀ W, _ from fun W => get_yes_spec s (i + 3) 1 (by decide) (by decide) (by omega) hm W)
      rw [show ((i + 1 : Nat) : Int) = (i : Int) + 1 by omega] at H2
      rw [show ((i + 3 : Nat) : Int) = (i : Int) + 3 by omega] at H3
      have v1 := valW_lt s i 1
      have v2 := valW_lt s (i + 1) 2
      have v3 := valW_lt s (i + 3) 1
      by_cases h5 : i + 4 + valW s (i + 3) 1 ≤ s.size
      · have HDY := Lib.hid (fun h => decP_yes (s := s) (a := (i : Int)) h)
        have HDN := Lib.hid (fun h => decP_no (s := s) (a := (i : Int)) h)
        have HOK := Lib.hid (show DcOk s (i : Int) ↔ (valW s i 1 ≤ 15 ∧ valW s (i + 3) 1 ≤ 40) from ⟨fun h => ⟨h.2.2.2.1, h.2.2.2.2⟩, fun h => ⟨by omega, by omega, by simpa using (show (i : Int) + 4 + (valW s (i + 3) 1 : Nat) ≤ s.size by omega), h.1, h.2⟩⟩)
        have hsl := slice_part s (i + 4) (i + 4 + valW s (i + 3) 1) (by omega) h5
        have hzs : (s.extract (i + 4) (i + 4 + valW s (i + 3) 1)).size = valW s (i + 3) 1 := by rw [ByteArray.size_extract]; omega
        rw [show (((i : Nat) : Int)).toNat = i from rfl] at HDY
        rw [show ((i + 4 + valW s (i + 3) 1 : Nat) : Int) = (i : Int) + 4 + (valW s (i + 3) 1 : Nat) by omega, show ((i + 4 : Nat) : Int) = (i : Int) + 4 by omega] at hsl
        generalize s.extract (i + 4) (i + 4 + valW s (i + 3) 1) = D at *
        generalize valW s i 1 = A at *
        generalize valW s (i + 1) 2 = Q at *
        generalize valW s (i + 3) 1 = N at *
        have hA : A < 256 := by simpa using v1
        have hQ : Q < 65536 := by simpa using v2
        have hN : N < 256 := by simpa using v3
        have dgt : decide ((s.size : Int) - (i : Int) - 4 < (N : Int)) = false := by simp; omega
        have HP := Lib.hid (pk_spec (A : Int) (Q : Int) D)
        clear v1 v2 v3
        by_cases hk : PkOk (A : Int) (Q : Int) D
        · rw [decide_eq_true hk] at HP
          have HV := Lib.hid (HDY.out (HOK.out.2 ⟨by have := hk.1.2; omega, by have := hk.2.2; omega⟩))
          go_enter Try.func38, Try.ntmps38
          go_wp2_with fail
          refine (H1.out _).mono ?_
          rintro e w' ⟨rfl, rfl⟩
          go_wp2_with fail
          refine (H2.out _).mono ?_
          rintro e w' ⟨rfl, rfl⟩
          go_wp2_with fail
          refine (H3.out _).mono ?_
          rintro e w' ⟨rfl, rfl⟩
          have BR := (Box.made w (pkL 0 0 ⟨#[]⟩) 28 _ rfl).alloc (.cells (pkL (A : Int) (Q : Int) D).toArray 28)
          have BP := Box.made (w.alloc (.cells (pkL 0 0 ⟨#[]⟩).toArray 28)) (pkL (A : Int) (Q : Int) D) 28 (w.heap.size + 1) (by simp)
          have BB : Below w.heap.size w ((w.alloc (.cells (pkL 0 0 ⟨#[]⟩).toArray 28)).alloc (.cells (pkL (A : Int) (Q : Int) D).toArray 28)) := ((Below.refl _ w).alloc (Nat.le_refl _) _).alloc (by simp) _
          have hz := BB.size
          go_wp2_with fail
          refine (HP.out _).mono ?_
          rintro e w1 ⟨rfl, hb1⟩
          have BR1 := BR.more hb1
          have BP1 := BP.more hb1
          have BW := Lib.hid (BB.trans (hb1.mono hz))
          obtain ⟨k0, k1, k2⟩ := BP1.three
          obtain ⟨m0, m1, m2⟩ := BR1.three
          have mi := BR1.ice
          have BF := Lib.hid (BR1.all (us := pkL (A : Int) (Q : Int) D) rfl)
          have BWF := Lib.hid (below_setCells (Nat.le_refl w.heap.size) (pkL (A : Int) (Q : Int) D) 0 w1 BW.out)
          clear BR BP BB BR1 BP1 hb1
          go_wp2
          show bodyPost Try.prog Try.f38 _ Exit.ret _ (w1.setCells w.heap.size 0 (pkL (A : Int) (Q : Int) D))
          generalize w1.setCells w.heap.size 0 (pkL (A : Int) (Q : Int) D) = WE at *
          obtain ⟨c0, c1, c2⟩ := BF.out.three
          refine bodyPost_ret_by (v := .tuple #[pkV (A : Int) (Q : Int) D, .int .i64 (4 + (N : Int)), .bool true]) ?_ rfl ⟨by rw [HV.out]; rfl, BWF.out⟩
          simp [results, Try.f38, go_sem, c0, c1, c2]
        · rw [decide_eq_false hk] at HP
          have HV := Lib.hid (HDN.out (fun h => hk (by have h2 := HOK.out.1 h; exact ⟨⟨by omega, by omega⟩, ⟨by omega, by omega⟩, by omega⟩)))
          go_enter Try.func38, Try.ntmps38
          go_wp2_with fail
          refine (H1.out _).mono ?_
          rintro e w' ⟨rfl, rfl⟩
          go_wp2_with fail
          refine (H2.out _).mono ?_
          rintro e w' ⟨rfl, rfl⟩
          go_wp2_with fail
          refine (H3.out _).mono ?_
          rintro e w' ⟨rfl, rfl⟩
          have BR := (Box.made w (pkL 0 0 ⟨#[]⟩) 28 _ rfl).alloc (.cells (pkL (A : Int) (Q : Int) D).toArray 28)
          have BP := Box.made (w.alloc (.cells (pkL 0 0 ⟨#[]⟩).toArray 28)) (pkL (A : Int) (Q : Int) D) 28 (w.heap.size + 1) (by simp)
          have BB : Below w.heap.size w ((w.alloc (.cells (pkL 0 0 ⟨#[]⟩).toArray 28)).alloc (.cells (pkL (A : Int) (Q : Int) D).toArray 28)) := ((Below.refl _ w).alloc (Nat.le_refl _) _).alloc (by simp) _
          have hz := BB.size
          go_wp2_with fail
          refine (HP.out _).mono ?_
          rintro e w1 ⟨rfl, hb1⟩
          have BR1 := BR.more hb1
          have BP1 := BP.more hb1
          have BW := Lib.hid (BB.trans (hb1.mono hz))
          obtain ⟨k0, k1, k2⟩ := BP1.three
          obtain ⟨m0, m1, m2⟩ := BR1.three
          have mi := BR1.ice
          have BF := Lib.hid (BR1.all (us := pkL 0 0 ⟨#[]⟩) rfl)
          have BWF := Lib.hid (below_setCells (Nat.le_refl w.heap.size) (pkL 0 0 ⟨#[]⟩) 0 w1 BW.out)
          clear BR BP BB BR1 BP1 hb1
          go_wp2
          show bodyPost Try.prog Try.f38 _ Exit.ret _ (w1.setCells w.heap.size 0 (pkL 0 0 ⟨#[]⟩))
          generalize w1.setCells w.heap.size 0 (pkL 0 0 ⟨#[]⟩) = WE at *
          obtain ⟨c0, c1, c2⟩ := BF.out.three
          refine bodyPost_ret_by (v := .tuple #[pkV 0 0 ⟨#[]⟩, .int .i64 0, .bool false]) ?_ rfl ⟨by rw [HV.out]; rfl, BWF.out⟩
          simp [results, Try.f38, go_sem, c0, c1, c2]
      · have HV := Lib.hid (decP_no (s := s) (a := (i : Int)) (fun h => h5 (by have h6 := h.2.2.1; simp only [Int.toNat_natCast] at h6; omega)))
        generalize valW s i 1 = A at *
        generalize valW s (i + 1) 2 = Q at *
        generalize valW s (i + 3) 1 = N at *
        have dgt : decide ((s.size : Int) - (i : Int) - 4 < (N : Int)) = true := by simp; omega
        go_enter Try.func38, Try.ntmps38
        go_wp2_with fail
        refine (H1.out _).mono ?_
        rintro e w' ⟨rfl, rfl⟩
        go_wp2_with fail
        refine (H2.out _).mono ?_
        rintro e w' ⟨rfl, rfl⟩
        go_wp2_with fail
        refine (H3.out _).mono ?_
        rintro e w' ⟨rfl, rfl⟩
        go_wp2
        refine bodyPost_ret_by (v := .tuple #[pkV 0 0 ⟨#[]⟩, .int .i64 0, .bool false]) ?_ rfl ⟨by rw [HV.out]; rfl, (Below.refl _ w).alloc (Nat.le_refl _) _⟩
        simp [results, Try.f38, go_sem]
    · have HV := Lib.hid (decP_no (s := s) (a := (i : Int)) (fun h => h4 (by have := h.2.1; omega)))
      have H3 := Lib.hid (fun W => get_no_spec s ((i : Int) + 3) 1 (by omega) hm (fun h => h4 (by have := h.2.2.2; omega)) W)
      generalize valW s i 1 = A at *
      by_cases h3 : i + 3 ≤ s.size
      · have H2 := Lib.hid (show ∀ W, _ from fun W => get_yes_spec s (i + 1) 2 (by decide) (by decide) (by omega) hm W)
        rw [show ((i + 1 : Nat) : Int) = (i : Int) + 1 by omega] at H2
        generalize valW s (i + 1) 2 = Q at *
        go_enter Try.func38, Try.ntmps38
        go_wp2_with fail
        refine (H1.out _).mono ?_
        rintro e w' ⟨rfl, rfl⟩
        go_wp2_with fail
        refine (H2.out _).mono ?_
        rintro e w' ⟨rfl, rfl⟩
        go_wp2_with fail
        refine (H3.out _).mono ?_
        rintro e w' ⟨rfl, rfl⟩
        go_wp2
        refine bodyPost_ret_by (v := .tuple #[pkV 0 0 ⟨#[]⟩, .int .i64 0, .bool false]) ?_ rfl ⟨by rw [HV.out]; rfl, (Below.refl _ w).alloc (Nat.le_refl _) _⟩
        simp [results, Try.f38, go_sem]
      · have H2 := Lib.hid (fun W => get_no_spec s ((i : Int) + 1) 2 (by omega) hm (fun h => h3 (by have := h.2.2.2; omega)) W)
        go_enter Try.func38, Try.ntmps38
        go_wp2_with fail
        refine (H1.out _).mono ?_
        rintro e w' ⟨rfl, rfl⟩
        go_wp2_with fail
        refine (H2.out _).mono ?_
        rintro e w' ⟨rfl, rfl⟩
        go_wp2_with fail
        refine (H3.out _).mono ?_
        rintro e w' ⟨rfl, rfl⟩
        go_wp2
        refine bodyPost_ret_by (v := .tuple #[pkV 0 0 ⟨#[]⟩, .int .i64 0, .bool false]) ?_ rfl ⟨by rw [HV.out]; rfl, (Below.refl _ w).alloc (Nat.le_refl _) _⟩
        simp [results, Try.f38, go_sem]
  · have HV := Lib.hid (decP_no (s := s) (a := a) (fun h => h1 ⟨h.1, by have := h.2.1; omega⟩))
    have H1 := Lib.hid (get_no_spec s a 1 ha hm (fun h => h1 ⟨h.2.2.1, h.2.2.2⟩))
    go_enter Try.func38, Try.ntmps38
    go_wp2_with fail
    refine (H1.out _).mono ?_
    rintro e w' ⟨rfl, rfl⟩
    go_wp2
    refine bodyPost_ret_by (v := .tuple #[pkV 0 0 ⟨#[]⟩, .int .i64 0, .bool false]) ?_ rfl ⟨by rw [HV.out]; rfl, (Below.refl _ w).alloc (Nat.le_refl _) _⟩
    simp [results, Try.f38, go_sem]
end Go.Proofs.Ytegahdlfjdjcaaa
