/- What this text proves: the parts Pkt, PktS, Byte, Bytes of the proof, each under its own words. -/
import Derived.Test.YtegahdlfjdjcaaaV00
import Derived.Test.YtegahdlfjdjcaaaV01
import Derived.Laws.Concat
import Derived.Deep.RegionLaw
import Derived.Deep.LoopGhost
import Derived.BigRegion
import Derived.Outline
import Derived.Lib.Hide
import Derived.LoopTactic
import Derived.IntWalk
/- What this text proves: the contracts of the laws' own functions over packets, and of the model's PacketOk. -/
namespace Go.Proofs.Ytegahdlfjdjcaaa
open Go.ChangeShapes Go.WideShapes Go.ChangeAt Go.RowKit
set_option linter.unusedVariables false

/-- A packet as a value. -/
abbrev pkV (a q : Int) (d : ByteArray) : Value := .agg #[.int .i64 a, .int .i64 q, .string d]
abbrev pkL (a q : Int) (d : ByteArray) : List Value := [.int .i64 a, .int .i64 q, .string d]
def PkOk (a q : Int) (d : ByteArray) : Prop := (0 ≤ a ∧ a ≤ 15) ∧ (0 ≤ q ∧ q ≤ 65535) ∧ d.size ≤ 40
instance (a q : Int) (d : ByteArray) : Decidable (PkOk a q d) := by unfold PkOk; infer_instance

theorem in_anyP (a b c : Int) (w : World) :
    Calls Try.prog 68 #[.int .i64 a, .int .i64 b, .int .i64 c] w fun e w' => e = .returned (.bool (decide (b ≤ a ∧ a ≤ c))) ∧ w = w' := by
  by_cases h : b ≤ a ∧ a ≤ c
  · rw [decide_eq_true h]
    exact in_yes a b c h.1 h.2 w
  · rw [decide_eq_false h]
    exact in_no a b c h w

theorem sz_pkt (a q : Int) (d : ByteArray) (L : Nat) (hL : L ≤ 1048576) (hd : d.size ≤ maxLen) (w : World) :
    Calls Try.prog 34 #[pkV a q d, .int .i64 (L : Int)] w fun e w' => e = .returned (.int .i64 (if d.size ≤ L then (L : Int) - (d.size : Int) else -1)) ∧ Below w.heap.size w w' := by
  have hd' : d.size ≤ 9223372036854775807 := by unfold maxLen at hd; omega
  by_cases h : d.size ≤ L
  · rw [if_pos h]
    have hd0 : decide ((L : Int) - (d.size : Int) < 0) = false := by simp; omega
    go_enter Try.func34, Try.ntmps34
    go_wp2
    go_ret
    exact ⟨rfl, (Below.refl _ w).alloc (Nat.le_refl _) _⟩
  · rw [if_neg h]
    have hd0 : decide ((L : Int) - (d.size : Int) < 0) = true := by simp; omega
    go_enter Try.func34, Try.ntmps34
    go_wp2
    go_ret
    exact ⟨rfl, (Below.refl _ w).alloc (Nat.le_refl _) _⟩

theorem to_pkt (a q : Int) (d : ByteArray) (w : World) :
    Calls Try.prog 36 #[pkV a q d] w fun e w' => e = .returned (pkV a q d) ∧ Below w.heap.size w w' := by
  go_enter Try.func36, Try.ntmps36
  go_wp2
  refine bodyPost_ret (v := pkV a q d) (by simp [results, Try.results36, go_sem]) rfl ⟨rfl, (((Below.refl _ w).alloc (Nat.le_refl _) _).alloc (by simp) _).alloc (by simp; omega) _⟩

theorem eq_pkt (a q : Int) (d : ByteArray) (w : World) :
    Calls Try.prog 39 #[pkV a q d, pkV a q d] w fun e w' => e = .returned (.bool true) ∧ Below w.heap.size w w' := by
  have hself : (d.toList == d.toList) = true := beq_self_eq_true _
  go_enter Try.func39, Try.ntmps39
  go_wp2
  go_ret
  exact ⟨rfl, ((Below.refl _ w).alloc (Nat.le_refl _) _).alloc (by simp) _⟩

theorem pk_spec (a q : Int) (d : ByteArray) (w : World) :
    Calls Try.prog 35 #[pkV a q d] w fun e w' => e = .returned (.bool (decide (PkOk a q d))) ∧ Below w.heap.size w w' := by
  have HO := Lib.hid (show ∀ B : Bool, (B = (decide (0 ≤ a ∧ a ≤ 15) && (decide (0 ≤ q ∧ q ≤ 65535) && decide (d.size ≤ 40)))) → B = decide (PkOk a q d) from fun B h => by
    rw [h, Bool.eq_iff_iff]
    simp only [Bool.and_eq_true, decide_eq_true_iff]
    exact Iff.rfl)
  by_cases h1 : 0 ≤ a ∧ a ≤ 15
  · by_cases h2 : 0 ≤ q ∧ q ≤ 65535
    · have e1 := Lib.hid (decide_eq_true h1)
      have e2 := Lib.hid (decide_eq_true h2)
      have H1 := Lib.hid (in_yes a 0 15 h1.1 h1.2)
      have H2 := Lib.hid (in_yes q 0 65535 h2.1 h2.2)
      have hcast : decide ((d.size : Int) ≤ 40) = decide (d.size ≤ 40) := by rw [decide_eq_decide]; omega
      go_enter Try.func35, Try.ntmps35
      go_wp2_with fail
      refine (H1.out _).mono ?_
      rintro e w' ⟨rfl, rfl⟩
      go_wp2_with fail
      refine (H2.out _).mono ?_
      rintro e w' ⟨rfl, rfl⟩
      go_wp2
      go_ret
      exact ⟨by rw [← HO.out _ rfl, e1.out, e2.out]; simp, (Below.refl _ w).alloc (Nat.le_refl _) _⟩
    · have e1 := Lib.hid (decide_eq_true h1)
      have e2 := Lib.hid (decide_eq_false h2)
      have H1 := Lib.hid (in_yes a 0 15 h1.1 h1.2)
      have H2 := Lib.hid (in_no q 0 65535 h2)
      go_enter Try.func35, Try.ntmps35
      go_wp2_with fail
      refine (H1.out _).mono ?_
      rintro e w' ⟨rfl, rfl⟩
      go_wp2_with fail
      refine (H2.out _).mono ?_
      rintro e w' ⟨rfl, rfl⟩
      go_wp2
      go_ret
      exact ⟨by rw [← HO.out _ rfl, e1.out, e2.out]; simp, (Below.refl _ w).alloc (Nat.le_refl _) _⟩
  · have e1 := Lib.hid (decide_eq_false h1)
    have H1 := Lib.hid (in_no a 0 15 h1)
    go_enter Try.func35, Try.ntmps35
    go_wp2_with fail
    refine (H1.out _).mono ?_
    rintro e w' ⟨rfl, rfl⟩
    go_wp2
    go_ret
    exact ⟨by rw [← HO.out _ rfl, e1.out]; simp, (Below.refl _ w).alloc (Nat.le_refl _) _⟩
end Go.Proofs.Ytegahdlfjdjcaaa
/- What this text proves: the contracts of the laws' own functions over lists of packets: two lists that hold the same packets are found equal; marks that were written are found again. -/
namespace Go.Proofs.Ytegahdlfjdjcaaa
open Go.ChangeShapes Go.WideShapes Go.ChangeAt Go.RowKit
set_option linter.unusedVariables false

/-- A packet: Apid, Seq, Data. -/
abbrev Pk := Int × Int × ByteArray
abbrev pkC (p : Pk) : List Value := [.int .i64 p.1, .int .i64 p.2.1, .string p.2.2]
abbrev OwnP (w : World) (base : Nat) (v : Value) (l : List Pk) : Prop := OwnR 28 3 w base v (l.map pkC)
theorem OwnP.rows {w : World} {base : Nat} {v : Value} {l : List Pk} (h : OwnP w base v l) (hn : 0 < l.length) :
    ∃ g cap, v = .slice (some ⟨g, 0, none⟩) l.length cap ∧ base ≤ g ∧ g < w.heap.size ∧ (∀ k (hk : k < l.length), w.cell? ⟨g, k * 3, none⟩ = some (.int .i64 l[k].1) ∧ w.cell? ⟨g, k * 3 + 1, none⟩ = some (.int .i64 l[k].2.1) ∧ w.cell? ⟨g, k * 3 + 2, none⟩ = some (.string l[k].2.2)) ∧ (∀ j, w.frozen? ⟨g, j, none⟩ = false) := by
  obtain ⟨g, cap, hv, hb, hg, hc, hf⟩ := OwnR.rows h (by simpa using hn)
  refine ⟨g, cap, by rw [hv, List.length_map], hb, hg, fun k hk => ?_, hf⟩
  have h0 := hc k (by simpa using hk) 0 (by decide)
  have h1 := hc k (by simpa using hk) 1 (by decide)
  have h2 := hc k (by simpa using hk) 2 (by decide)
  simp only [List.getElem_map] at h0 h1 h2
  exact ⟨h0, h1, h2⟩

end Go.Proofs.Ytegahdlfjdjcaaa
/- What this text proves: a byte of a text, read by its index. -/
namespace Go.Proofs.Ytegahdlfjdjcaaa
open Go

/-- The byte at an index; 0 where there is none. -/
def byteAt (s : ByteArray) (i : Nat) : Nat := (s.data.toList.getD i 0).toNat
theorem byteAt_of (s : ByteArray) (i : Nat) (h : i < s.size) : (s[i]).toNat = byteAt s i := by
  have h' : i < s.data.toList.length := by simpa using h
  unfold byteAt
  rw [List.getD_eq_getElem?_getD, List.getElem?_eq_getElem h']
  rfl
theorem byteAt_lt (s : ByteArray) (i : Nat) : byteAt s i < 256 := by unfold byteAt; exact UInt8.toNat_lt _
end Go.Proofs.Ytegahdlfjdjcaaa
/- What this text proves: the contract of GetWord: program and model both return, for every text, index and size, the value of the bytes from the index on, the highest ones first, or 0 and false if they are not there. -/
namespace Go.Proofs.Ytegahdlfjdjcaaa
open Go.ChangeShapes Go.WideShapes Go.ChangeAt Go.RowKit
set_option linter.unusedVariables false

/-- The value of k bytes from an index on, the highest first. -/
def valW (s : ByteArray) (i : Nat) : Nat → Nat
  | 0 => 0
  | k + 1 => 256 * valW s i k + byteAt s (i + k)
theorem valW_lt (s : ByteArray) (i k : Nat) : valW s i k < 256 ^ k := by
  induction k with
  | zero => simp [valW]
  | succ k ih => have := byteAt_lt s (i + k); simp only [valW, Nat.pow_succ]; omega
theorem valW_small (s : ByteArray) (i k : Nat) (h : k ≤ 4) : valW s i k < 4294967296 :=
  Nat.lt_of_lt_of_le (valW_lt s i k) (Nat.pow_le_pow_right (n := 256) (by decide) h)

def GetOk (s : ByteArray) (a n : Int) : Prop := 1 ≤ n ∧ n ≤ 4 ∧ 0 ≤ a ∧ a + n ≤ s.size
set_option maxHeartbeats 400000 in
theorem get_yes_impl (s : ByteArray) (i k : Nat) (hk1 : 1 ≤ k) (hk4 : k ≤ 4) (hi : i + k ≤ s.size) (hs : s.size ≤ maxLen) (w : World) :
    Calls Try.prog 58 #[.string s, .int .i64 i, .int .i64 k] w fun e w' => e = .returned (.tuple #[.int .i64 (valW s i k : Nat), .bool true]) ∧ w = w' := by
  unfold maxLen at hs
  have hd1 : decide ((k : Int) < 1) = false := by simp; omega
  have hd2 : decide ((4 : Int) < (k : Int)) = false := by simp; omega
  have hd3 : decide ((i : Int) < 0) = false := by simp
  have hd4 : decide ((s.size : Int) - (k : Int) < (i : Int)) = false := by simp; omega
  go_enter Try.func58, Try.ntmps58
  go_wp2
  go_loop [8, 29] (fun n t => ∃ j : Nat, j ≤ k ∧ t = .int .i64 j ∧ n = .int .i64 (valW s i j : Nat)) (fun _ t => k - (intOf t).toNat)
  case atStart => exact ⟨0, by omega, rfl, rfl⟩
  case round =>
    obtain ⟨j, hj, rfl, rfl⟩ := hrel
    by_cases hlt : j < k
    · have hv := valW_small s i j (by omega)
      have hv0 : (0 : Int) ≤ (valW s i j : Int) := by omega
      go_wp2
      refine ⟨⟨j + 1, by omega, by go_num, ?_⟩, by simp [intOf]; omega⟩
      rw [or_byte _ _ (by omega) (UInt8.toNat_lt _), byteAt_of s (i + j) (by omega)]
      rfl
    · have hd : decide (j < k) = false := by simp; omega
      have hjk : j = k := by omega
      subst hjk
      clear hj hlt
      go_wp2
      go_ret2
      exact ⟨rfl, rfl⟩

theorem get_no_impl (s : ByteArray) (a n : Int) (ha : -9223372036854775808 ≤ a ∧ a ≤ 9223372036854775807) (hs : s.size ≤ maxLen) (h : ¬ GetOk s a n) (w : World) :
    Calls Try.prog 58 #[.string s, .int .i64 a, .int .i64 n] w fun e w' => e = .returned (.tuple #[.int .i64 0, .bool false]) ∧ w = w' := by
  unfold maxLen at hs
  unfold GetOk at h
  by_cases h1 : n < 1
  · clear h
    go_enter Try.func58, Try.ntmps58
    go_wp2
    go_ret2
    exact ⟨rfl, rfl⟩
  · have hd1 : decide (n < 1) = false := by simp; omega
    by_cases h2 : 4 < n
    · have hd2 : decide (4 < n) = true := by simp; omega
      clear h h1
      go_enter Try.func58, Try.ntmps58
      go_wp2
      go_ret2
      exact ⟨rfl, rfl⟩
    · have hd2 : decide (4 < n) = false := by simp; omega
      by_cases h3 : a < 0
      · have hd3 : decide (a < 0) = true := by simp; omega
        clear h h1 h2
        go_enter Try.func58, Try.ntmps58
        go_wp2
        go_ret2
        exact ⟨rfl, rfl⟩
      · have hd3 : decide (a < 0) = false := by simp; omega
        have hd4 : decide ((s.size : Int) - n < a) = true := by simp; omega
        clear h
        go_enter Try.func58, Try.ntmps58
        go_wp2
        go_ret2
        exact ⟨rfl, rfl⟩

set_option maxHeartbeats 400000 in
theorem get_yes_spec (s : ByteArray) (i k : Nat) (hk1 : 1 ≤ k) (hk4 : k ≤ 4) (hi : i + k ≤ s.size) (hs : s.size ≤ maxLen) (w : World) :
    Calls Try.prog 70 #[.string s, .int .i64 i, .int .i64 k] w fun e w' => e = .returned (.tuple #[.int .i64 (valW s i k : Nat), .bool true]) ∧ w = w' := by
  unfold maxLen at hs
  have hd3 : decide ((i : Int) < 0) = false := by simp
  have hd4 : decide (s.size < i) = false := by simp; omega
  have hd5 : decide ((s.size : Int) - (i : Int) < (k : Int)) = false := by simp; omega
  go_enter Try.func70, Try.ntmps70
  go_wp2_with (go_at_call 68; refine (in_yes _ _ _ (by omega) (by omega) _).mono ?_; rintro e w' ⟨rfl, rfl⟩)
  go_loop [8, 9] (fun n t => ∃ j : Nat, j ≤ k ∧ t = .int .i64 j ∧ n = .int .i64 (valW s i j : Nat)) (fun _ t => k - (intOf t).toNat)
  case atStart => exact ⟨0, by omega, rfl, rfl⟩
  case round =>
    obtain ⟨j, hj, rfl, rfl⟩ := hrel
    by_cases hlt : j < k
    · have hv := valW_small s i j (by omega)
      have hv0 : (0 : Int) ≤ (valW s i j : Int) := by omega
      have hb := UInt8.toNat_lt (s[i + j]'(by omega))
      go_wp2
      refine ⟨⟨j + 1, by omega, by go_num, ?_⟩, by simp [intOf]; omega⟩
      rw [byteAt_of s (i + j) (by omega)]
      rfl
    · have hd : decide (j < k) = false := by simp; omega
      have hjk : j = k := by omega
      subst hjk
      clear hj hlt
      go_wp2
      go_ret2
      exact ⟨rfl, rfl⟩

theorem get_no_spec (s : ByteArray) (a n : Int) (ha : -9223372036854775808 ≤ a ∧ a ≤ 9223372036854775807) (hs : s.size ≤ maxLen) (h : ¬ GetOk s a n) (w : World) :
    Calls Try.prog 70 #[.string s, .int .i64 a, .int .i64 n] w fun e w' => e = .returned (.tuple #[.int .i64 0, .bool false]) ∧ w = w' := by
  unfold maxLen at hs
  unfold GetOk at h
  by_cases h1 : 1 ≤ n ∧ n ≤ 4
  · obtain ⟨h1, h2⟩ := h1
    by_cases h3 : a < 0
    · have hd3 : decide (a < 0) = true := by simp; omega
      clear h
      go_enter Try.func70, Try.ntmps70
      go_wp2_with (go_at_call 68; refine (in_yes _ _ _ h1 h2 _).mono ?_; rintro e w' ⟨rfl, rfl⟩)
      go_ret2
      exact ⟨rfl, rfl⟩
    · have hd3 : decide (a < 0) = false := by simp; omega
      by_cases h4 : (s.size : Int) < a
      · have hd4 : decide ((s.size : Int) < a) = true := by simp; omega
        clear h h3
        go_enter Try.func70, Try.ntmps70
        go_wp2_with (go_at_call 68; refine (in_yes _ _ _ h1 h2 _).mono ?_; rintro e w' ⟨rfl, rfl⟩)
        go_ret2
        exact ⟨rfl, rfl⟩
      · have hd4 : decide ((s.size : Int) < a) = false := by simp; omega
        have hd5 : decide ((s.size : Int) - a < n) = true := by simp; omega
        clear h
        go_enter Try.func70, Try.ntmps70
        go_wp2_with (go_at_call 68; refine (in_yes _ _ _ h1 h2 _).mono ?_; rintro e w' ⟨rfl, rfl⟩)
        go_ret2
        exact ⟨rfl, rfl⟩
  · have H := Lib.hid h1
    clear h h1
    go_enter Try.func70, Try.ntmps70
    go_wp2_with (go_at_call 68; refine (in_no _ _ _ H.out _).mono ?_; rintro e w' ⟨rfl, rfl⟩)
    go_ret2
    exact ⟨rfl, rfl⟩

end Go.Proofs.Ytegahdlfjdjcaaa
