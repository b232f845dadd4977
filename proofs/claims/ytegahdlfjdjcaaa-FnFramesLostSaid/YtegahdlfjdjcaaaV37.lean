/- What this text proves: the parts IPd of the proof, each under its own words. -/
import Derived.Test.YtegahdlfjdjcaaaV07
import Derived.Test.YtegahdlfjdjcaaaV22
/- What this text proves: the contract of the program's DecodePacket. -/
namespace Go.Proofs.Ytegahdlfjdjcaaa
open Go.ChangeShapes Go.WideShapes Go.ChangeAt Go.RowKit
set_option linter.unusedVariables false

theorem slice_tail (s : ByteArray) (a : Nat) (ha : a ≤ s.size) : ∀ W : World, (Instr.slice 9 (.string s) (some (.int .i64 (a : Int))) none none).run Try.prog W = .ok (.string (s.extract a s.size)) W := fun W => by
  have h := run_slice_string_from_if W 9 s .i64 (a : Int) Try.underlying9
  rw [if_pos (by omega)] at h
  exact h
theorem slice_head (s : ByteArray) (b : Nat) (hb : b ≤ s.size) : ∀ W : World, (Instr.slice 9 (.string s) none (some (.int .i64 (b : Int))) none).run Try.prog W = .ok (.string (s.extract 0 b)) W := fun W => by
  have h := run_slice_string_to_if W 9 s .i64 (b : Int) Try.underlying9
  rw [if_pos (by omega)] at h
  exact h
theorem extract_extract (s : ByteArray) (a n : Nat) (h : a + n ≤ s.size) : (s.extract a s.size).extract 0 n = s.extract a (a + n) := by
  rw [ByteArray.extract_extract]
  congr 1 <;> omega

set_option maxHeartbeats 4000000 in
theorem dec_impl (s : ByteArray) (hs : s.size ≤ 1048576) (a : Int) (ha : -9223372036854775808 ≤ a ∧ a ≤ 9223372036854775807) (w : World) :
    Calls Try.prog 18 #[.string s, .int .i64 a] w fun e w' => e = retD (decP s a) ∧ Below w.heap.size w w' := by
  have hm : s.size ≤ maxLen := by unfold maxLen; omega
  have BR0 := Box.made w (pkL 0 0 ⟨#[]⟩) 28 _ rfl
  have BB0 : Below w.heap.size w (w.alloc (.cells (pkL 0 0 ⟨#[]⟩).toArray 28)) := (Below.refl _ w).alloc (Nat.le_refl _) _
  by_cases h1 : 0 ≤ a ∧ a + 4 ≤ s.size
  · obtain ⟨i, rfl⟩ := Int.eq_ofNat_of_zero_le h1.1
    have h4 : i + 4 ≤ s.size := by omega
    have H1 := Lib.hid (get_yes_impl s i 1 (by decide) (by decide) (by omega) hm)
    have H2 := Lib.hid (show ∀ W, _ from fun W => get_yes_impl s (i + 1) 2 (by decide) (by decide) (by omega) hm W)
    have H3 := Lib.hid (show ∀ W, _ from fun W => get_yes_impl s (i + 3) 1 (by decide) (by decide) (by omega) hm W)
    rw [show ((i + 1 : Nat) : Int) = (i : Int) + 1 by omega] at H2
    rw [show ((i + 3 : Nat) : Int) = (i : Int) + 3 by omega] at H3
    have v1 := valW_lt s i 1
    have v2 := valW_lt s (i + 1) 2
    have v3 := valW_lt s (i + 3) 1
    have hd0 : decide ((i : Int) < 0) = false := by simp
    have hd1 : decide ((s.size : Int) - 4 < (i : Int)) = false := by simp; omega
    have hsl := slice_tail s (i + 4) h4
    rw [show ((i + 4 : Nat) : Int) = (i : Int) + 4 by omega] at hsl
    have hzs : (s.extract (i + 4) s.size).size = s.size - (i + 4) := by rw [ByteArray.size_extract]; omega
    by_cases h5 : i + 4 + valW s (i + 3) 1 ≤ s.size
    · have HDY := Lib.hid (fun h => decP_yes (s := s) (a := (i : Int)) h)
      have HDN := Lib.hid (fun h => decP_no (s := s) (a := (i : Int)) h)
      have HOK := Lib.hid (show DcOk s (i : Int) ↔ (valW s i 1 ≤ 15 ∧ valW s (i + 3) 1 ≤ 40) from ⟨fun h => ⟨h.2.2.2.1, h.2.2.2.2⟩, fun h => ⟨by omega, by omega, by simpa using (show (i : Int) + 4 + (valW s (i + 3) 1 : Nat) ≤ s.size by omega), h.1, h.2⟩⟩)
      have hhd := slice_head (s.extract (i + 4) s.size) (valW s (i + 3) 1) (by rw [hzs]; omega)
      rw [extract_extract s (i + 4) _ h5] at hhd
      have hzd : (s.extract (i + 4) (i + 4 + valW s (i + 3) 1)).size = valW s (i + 3) 1 := by rw [ByteArray.size_extract]; omega
      rw [show (((i : Nat) : Int)).toNat = i from rfl] at HDY
      generalize s.extract (i + 4) (i + 4 + valW s (i + 3) 1) = D at *
      generalize s.extract (i + 4) s.size = T at *
      generalize valW s i 1 = A at *
      generalize valW s (i + 1) 2 = Q at *
      generalize valW s (i + 3) 1 = N at *
      have hA : A < 256 := by simpa using v1
      have hQ : Q < 65536 := by simpa using v2
      have hN : N < 256 := by simpa using v3
      have dgt : decide (T.size < N) = false := by simp; omega
      have HP := Lib.hid (pk_impl (A : Int) (Q : Int) D)
      have BR := Lib.hid (BR0.alloc (.cells (pkL (A : Int) (Q : Int) D).toArray 28))
      have BP := Lib.hid (Box.made (w.alloc (.cells (pkL 0 0 ⟨#[]⟩).toArray 28)) (pkL (A : Int) (Q : Int) D) 28 (w.heap.size + 1) (by simp))
      have BB := Lib.hid (BB0.alloc (by simp) (.cells (pkL (A : Int) (Q : Int) D).toArray 28))
      clear v1 v2 v3 BR0 BB0 hzs
      by_cases hk : PkOk (A : Int) (Q : Int) D
      · rw [decide_eq_true hk] at HP
        have HV := Lib.hid (HDY.out (HOK.out.2 ⟨by have := hk.1.2; omega, by have := hk.2.2; omega⟩))
        go_enter Try.func18, Try.ntmps18
        go_wp2_with fail
        refine (H1.out _).mono ?_
        rintro e w' ⟨rfl, rfl⟩
        go_wp2_with fail
        refine (H2.out _).mono ?_
        rintro e w' ⟨rfl, rfl⟩
        go_wp2_with fail
        refine (H3.out _).mono ?_
        rintro e w' ⟨rfl, rfl⟩
        go_wp2_with fail
        refine (HP.out _).mono ?_
        rintro e w1 ⟨rfl, hb1⟩
        have BR1 := BR.out.more hb1
        have BP1 := BP.out.more hb1
        have BW := Lib.hid (BB.out.trans (hb1.mono BB.out.size))
        obtain ⟨k0, k1, k2⟩ := BP1.three
        obtain ⟨m0, m1, m2⟩ := BR1.three
        have mi := BR1.ice
        have BF := Lib.hid (BR1.all (us := pkL (A : Int) (Q : Int) D) rfl)
        have BWF := Lib.hid (below_setCells (Nat.le_refl w.heap.size) (pkL (A : Int) (Q : Int) D) 0 w1 BW.out)
        clear BR1 BP1 hb1
        go_wp2
        show bodyPost Try.prog Try.f18 _ Exit.ret _ (w1.setCells w.heap.size 0 (pkL (A : Int) (Q : Int) D))
        generalize w1.setCells w.heap.size 0 (pkL (A : Int) (Q : Int) D) = WE at *
        obtain ⟨c0, c1, c2⟩ := BF.out.three
        refine bodyPost_ret_by (v := .tuple #[pkV (A : Int) (Q : Int) D, .int .i64 (4 + (N : Int)), .bool true]) ?_ rfl ⟨by rw [HV.out]; rfl, BWF.out⟩
        simp [results, Try.f18, go_sem, c0, c1, c2]
      · rw [decide_eq_false hk] at HP
        have HV := Lib.hid (HDN.out (fun h => hk (by have h2 := HOK.out.1 h; exact ⟨⟨by omega, by omega⟩, ⟨by omega, by omega⟩, by omega⟩)))
        go_enter Try.func18, Try.ntmps18
        go_wp2_with fail
        refine (H1.out _).mono ?_
        rintro e w' ⟨rfl, rfl⟩
        go_wp2_with fail
        refine (H2.out _).mono ?_
        rintro e w' ⟨rfl, rfl⟩
        go_wp2_with fail
        refine (H3.out _).mono ?_
        rintro e w' ⟨rfl, rfl⟩
        go_wp2_with fail
        refine (HP.out _).mono ?_
        rintro e w1 ⟨rfl, hb1⟩
        have BR1 := BR.out.more hb1
        have BW := Lib.hid (BB.out.trans (hb1.mono BB.out.size))
        obtain ⟨m0, m1, m2⟩ := BR1.three
        have mi := BR1.ice
        have BF := Lib.hid (BR1.all (us := pkL 0 0 ⟨#[]⟩) rfl)
        have BWF := Lib.hid (below_setCells (Nat.le_refl w.heap.size) (pkL 0 0 ⟨#[]⟩) 0 w1 BW.out)
        clear BR1 hb1
        go_wp2
        show bodyPost Try.prog Try.f18 _ Exit.ret _ (w1.setCells w.heap.size 0 (pkL 0 0 ⟨#[]⟩))
        generalize w1.setCells w.heap.size 0 (pkL 0 0 ⟨#[]⟩) = WE at *
        obtain ⟨c0, c1, c2⟩ := BF.out.three
        refine bodyPost_ret_by (v := .tuple #[pkV 0 0 ⟨#[]⟩, .int .i64 0, .bool false]) ?_ rfl ⟨by rw [HV.out]; rfl, BWF.out⟩
        simp [results, Try.f18, go_sem, c0, c1, c2]
    · have HV := Lib.hid (decP_no (s := s) (a := (i : Int)) (fun h => h5 (by have h6 := h.2.2.1; simp only [Int.toNat_natCast] at h6; omega)))
      generalize s.extract (i + 4) s.size = T at *
      generalize valW s i 1 = A at *
      generalize valW s (i + 1) 2 = Q at *
      generalize valW s (i + 3) 1 = N at *
      have dgt : decide (T.size < N) = true := by simp; omega
      clear v1 v2 v3 BR0 BB0 hzs
      go_enter Try.func18, Try.ntmps18
      go_wp2_with fail
      refine (H1.out _).mono ?_
      rintro e w' ⟨rfl, rfl⟩
      go_wp2_with fail
      refine (H2.out _).mono ?_
      rintro e w' ⟨rfl, rfl⟩
      go_wp2_with fail
      refine (H3.out _).mono ?_
      rintro e w' ⟨rfl, rfl⟩
      go_wp2
      refine bodyPost_ret_by (v := .tuple #[pkV 0 0 ⟨#[]⟩, .int .i64 0, .bool false]) ?_ rfl ⟨by rw [HV.out]; rfl, (Below.refl _ w).alloc (Nat.le_refl _) _⟩
      simp [results, Try.f18, go_sem]
  · have HV := Lib.hid (decP_no (s := s) (a := a) (fun h => h1 ⟨h.1, h.2.1⟩))
    clear BR0 BB0
    by_cases h0 : a < 0
    · have hd0 : decide (a < 0) = true := by simp; omega
      clear h1
      go_enter Try.func18, Try.ntmps18
      go_wp2
      refine bodyPost_ret_by (v := .tuple #[pkV 0 0 ⟨#[]⟩, .int .i64 0, .bool false]) ?_ rfl ⟨by rw [HV.out]; rfl, (Below.refl _ w).alloc (Nat.le_refl _) _⟩
      simp [results, Try.f18, go_sem]
    · have hd0 : decide (a < 0) = false := by simp; omega
      have hd1 : decide ((s.size : Int) - 4 < a) = true := by simp; omega
      clear h1 h0
      go_enter Try.func18, Try.ntmps18
      go_wp2
      refine bodyPost_ret_by (v := .tuple #[pkV 0 0 ⟨#[]⟩, .int .i64 0, .bool false]) ?_ rfl ⟨by rw [HV.out]; rfl, (Below.refl _ w).alloc (Nat.le_refl _) _⟩
      simp [results, Try.f18, go_sem]
end Go.Proofs.Ytegahdlfjdjcaaa
