/- What this text proves: the parts Check of the proof, each under its own words. -/
import Derived.Test.YtckofkdeedbbgaaV01
import Derived.LoopTactic
import Derived.IntWalk
import Derived.Laws.RangeString
import Derived.Laws.RangeAny
import Derived.Laws.Runes
import Derived.Laws.Strings2
import Derived.Laws.Strings3
/- What this text proves: the contract of CheckOf: program and model both return, for every text, the number of 16 bits that the document's steps give. -/
namespace Go.Proofs.Ytckofkdeedbbgaa
open Go.ChangeShapes Go.WideShapes Go.ChangeAt Go.RowKit
set_option linter.unusedVariables false

/-- One of the eight steps. -/
def cstep (n : Nat) : Nat := if n &&& 32768 = 0 then 2 * n else (2 * n % 65536) ^^^ 4129
def csteps : Nat → Nat → Nat
  | 0, n => n
  | k + 1, n => cstep (csteps k n)
def cfeed (n b : Nat) : Nat := csteps 8 (n ^^^ (b * 256))
def crcL (n : Nat) (l : List UInt8) : Nat := l.foldl (fun n b => cfeed n b.toNat) n
theorem crcL_append (n : Nat) (l m : List UInt8) : crcL n (l ++ m) = crcL (crcL n l) m := by simp [crcL]
theorem crcL_snoc (n : Nat) (l : List UInt8) (b : UInt8) : crcL n (l ++ [b]) = cfeed (crcL n l) b.toNat := by simp [crcL]
theorem top_bit (n : Nat) (h : n < 65536) (h0 : n &&& 32768 = 0) : n < 32768 := by
  have h1 : n = 32768 * (n / 32768) + n % 32768 := by omega
  rcases Nat.lt_or_ge n 32768 with h2 | h2
  · exact h2
  · have e : n / 32768 = 1 := by omega
    have e2 : (2 ^ 15 * 1 + n % 32768) &&& 32768 = 32768 := by
      apply Nat.eq_of_testBit_eq
      intro i
      rw [Nat.testBit_and, Nat.testBit_two_pow_mul_add 1 (show n % 32768 < 2 ^ 15 by omega), show (32768 : Nat) = 2 ^ 15 from rfl, Nat.testBit_two_pow]
      by_cases hi : 15 = i
      · subst hi; simp
      · simp [hi]
    rw [e] at h1
    rw [h1, show 32768 * 1 + n % 32768 = 2 ^ 15 * 1 + n % 32768 from by omega] at h0
    omega
theorem top_bit2 (n : Nat) (h : n < 65536) (h0 : ¬ n &&& 32768 = 0) : n &&& 32768 = 32768 := by
  have h1 : n = 2 ^ 15 * (n / 32768) + n % 32768 := by omega
  rcases Nat.lt_or_ge n 32768 with h2 | h2
  · exfalso
    apply h0
    apply Nat.eq_of_testBit_eq
    intro i
    rw [Nat.testBit_and, show (32768 : Nat) = 2 ^ 15 from rfl, Nat.testBit_two_pow]
    by_cases hi : 15 = i
    · subst hi; simp [Nat.testBit_lt_two_pow (show n < 2 ^ 15 by omega)]
    · simp [hi]
  · have e : n / 32768 = 1 := by omega
    rw [e] at h1
    rw [h1]
    apply Nat.eq_of_testBit_eq
    intro i
    rw [Nat.testBit_and, Nat.testBit_two_pow_mul_add 1 (show n % 32768 < 2 ^ 15 by omega), show (32768 : Nat) = 2 ^ 15 from rfl, Nat.testBit_two_pow]
    by_cases hi : 15 = i
    · subst hi; simp
    · simp [hi]
theorem cstep_lt (n : Nat) (h : n < 65536) : cstep n < 65536 := by
  unfold cstep
  split
  · rename_i h0
    have := top_bit n h h0
    omega
  · exact Nat.xor_lt_two_pow (n := 16) (by omega) (by decide)
theorem csteps_lt (k n : Nat) (h : n < 65536) : csteps k n < 65536 := by
  induction k with
  | zero => exact h
  | succ k ih => exact cstep_lt _ ih
theorem cxor_lt (n b : Nat) (h : n < 65536) (hb : b < 256) : n ^^^ (b * 256) < 65536 := Nat.xor_lt_two_pow (n := 16) h (by omega)
theorem cfeed_lt (n b : Nat) (h : n < 65536) (hb : b < 256) : cfeed n b < 65536 := csteps_lt _ _ (cxor_lt n b h hb)
theorem crcL_lt (l : List UInt8) : ∀ n, n < 65536 → crcL n l < 65536 := by
  induction l with
  | nil => intro n h; exact h
  | cons b l ih => intro n h; exact ih _ (cfeed_lt n b.toNat h (UInt8.toNat_lt b))
theorem take_snoc (s : ByteArray) (k : Nat) (h : k < s.size) : s.data.toList.take (k + 1) = s.data.toList.take k ++ [s[k]] := by
  rw [List.take_succ_eq_append_getElem (by simpa using h)]; rfl
theorem crc_take (c : Nat) (s : ByteArray) (k : Nat) (h : k < s.size) : crcL c (s.data.toList.take (k + 1)) = cfeed (crcL c (s.data.toList.take k)) s[k].toNat := by
  rw [take_snoc s k h, crcL_snoc]

/-- The number of 16 bits of a text. -/
def crc (s : ByteArray) : Nat := crcL 65535 s.data.toList
theorem xor_walk (n b : Nat) (h : n < 65536) (hb : b < 256) : bits .xor .i64 (n : Int) ((b : Int) * 256) = ((n ^^^ (b * 256) : Nat) : Int) := by
  rw [show (b : Int) * 256 = ((b * 256 : Nat) : Int) from by omega]
  exact xor_i64 n (b * 256) (by omega) (by omega)
theorem step_yes (n : Nat) (h : n < 65536) (h0 : ¬ n &&& 32768 = 0) : bits .xor .i64 (bits .and .i64 ((n : Int) * 2) 65535) 4129 = ((cstep n : Nat) : Int) := by
  rw [mask16 _ (by omega) (by omega), show (n : Int) * 2 % 65536 = ((2 * n % 65536 : Nat) : Int) from by omega]
  unfold cstep
  rw [if_neg h0]
  exact xor_i64 _ 4129 (by omega) (by decide)
theorem bit_walk (n : Nat) (h : n < 65536) : bits .and .i64 (n : Int) 32768 = ((n &&& 32768 : Nat) : Int) := and_i64 n 32768 (by omega) (by decide)

set_option maxHeartbeats 400000 in
theorem feed_impl (c : Nat) (hc : c < 65536) (p : ByteArray) (hp : p.size ≤ maxLen) (w : World) :
    Calls Try.prog 139 #[.int .i64 c, .string p] w fun e w' => e = .returned (.int .i64 (crcL c p.data.toList : Nat)) ∧ w = w' := by
  unfold maxLen at hp
  go_enter Try.func139, Try.ntmps139
  go_wp2
  go_loop [0, 8] (fun n t => ∃ k : Nat, k ≤ p.size ∧ t = .int .i64 k ∧ n = .int .i64 (crcL c (p.data.toList.take k) : Nat)) (fun _ t => p.size - (intOf t).toNat)
  case atStart => exact ⟨0, by omega, rfl, rfl⟩
  case round =>
    obtain ⟨k, hk, rfl, rfl⟩ := hrel
    by_cases hlt : k < p.size
    · have hlt' : 0 < p.size := by omega
      have hn := crcL_lt (p.data.toList.take k) c hc
      generalize hm : crcL c (p.data.toList.take k) = m at hn
      have Hm := Lib.hid hm
      clear hm
      have hb := UInt8.toNat_lt (p[k]'hlt)
      have hx := xor_walk m (p[k]'hlt).toNat hn hb
      have hxl := cxor_lt m (p[k]'hlt).toNat hn hb
      have hfin : crcL c (p.data.toList.take (k + 1)) = csteps 8 (m ^^^ ((p[k]'hlt).toNat * 256)) := by rw [crc_take c p k hlt, Hm.out]; rfl
      generalize m ^^^ ((p[k]'hlt).toNat * 256) = x at hx hxl hfin
      have Hfin := Lib.hid hfin
      clear hfin
      go_wp2
      clear hx
      go_loop [0, 18] (fun n t => ∃ j : Nat, j ≤ 8 ∧ t = .int .i64 j ∧ n = .int .i64 (csteps j x : Nat)) (fun _ t => 8 - (intOf t).toNat)
      case atStart => exact ⟨0, by omega, rfl, rfl⟩
      case round =>
        obtain ⟨j, hj, rfl, rfl⟩ := hrel
        have hy := csteps_lt j x hxl
        have hnext : csteps (j + 1) x = cstep (csteps j x) := rfl
        have Hn := Lib.hid hnext
        clear hnext
        generalize hyx : csteps j x = y at hy Hn
        have Hy := Lib.hid hyx
        clear hyx
        by_cases hlt8 : j < 8
        · have hd8 : decide ((j : Int) < 8) = true := by simp; omega
          by_cases h0 : y &&& 32768 = 0
          · have hbit : bits .and .i64 (y : Int) 32768 = 0 := by rw [bit_walk y hy, h0]; rfl
            have hyl := top_bit y hy h0
            have Hs := Lib.hid (show ((2 * y : Nat) : Int) = ((csteps (j + 1) x : Nat) : Int) by rw [Hn.out]; unfold cstep; rw [if_pos h0])
            clear h0
            go_wp2
            refine ⟨⟨j + 1, by omega, by go_num, ?_⟩, by simp [intOf]; omega⟩
            rw [← Hs.out]
            go_num
          · have hbit : bits .and .i64 (y : Int) 32768 = 32768 := by
              rw [bit_walk y hy, top_bit2 y hy h0]
              rfl
            have Hs := Lib.hid (show bits .xor .i64 (bits .and .i64 ((y : Int) * 2) 65535) 4129 = ((csteps (j + 1) x : Nat) : Int) by rw [Hn.out]; exact step_yes y hy h0)
            clear h0
            go_wp2
            refine ⟨⟨j + 1, by omega, by go_num, ?_⟩, by simp [intOf]; omega⟩
            rw [Hs.out]
        · have hd : decide ((j : Int) < 8) = false := by simp; omega
          have Hfin2 := Lib.hid (show crcL c (p.data.toList.take (k + 1)) = y by rw [Hfin.out, ← Hy.out, show j = 8 from by omega])
          clear hj hlt8
          go_wp2
          refine ⟨⟨k + 1, by omega, by go_num, ?_⟩, by simp [intOf]; omega⟩
          rw [Hfin2.out]
    · have hd : decide (k < p.size) = false := by simp; omega
      have hjk : k = p.size := by omega
      subst hjk
      clear hk hlt
      go_wp2
      go_ret
      exact ⟨ret_i (by rw [List.take_of_length_le (by simp)]), rfl⟩
theorem width_pos (s : ByteArray) (pos : Nat) (h : pos < s.size) : 1 ≤ (Utf8.decode s pos).2 := by
  by_cases ha : (s[pos]'h).toNat < 128
  · rw [decode_ascii s pos h ha]
    exact Nat.le_refl _
  · exact (decode_high s pos h (by omega)).2

theorem crc_lt (s : ByteArray) : crc s < 65536 := crcL_lt _ _ (by decide)
theorem crc_cut (s : ByteArray) (a b : Nat) (hab : a ≤ b) (hb : b ≤ s.size) :
    crcL (crcL 65535 (s.data.toList.take a)) ((s.data.toList.drop a).take (b - a)) = crcL 65535 (s.data.toList.take b) := by
  rw [← crcL_append]
  congr 1
  conv => rhs; rw [← List.take_append_drop a (s.data.toList.take b)]
  rw [List.take_take, Nat.min_eq_left hab, List.drop_take]

theorem below_iter (w : World) (s : ByteArray) (pos : Nat) : Below w.heap.size w (w.iter s pos) := (Below.refl _ _).alloc (Nat.le_refl _) _

set_option maxHeartbeats 400000 in
theorem check_impl (p : ByteArray) (hp : p.size ≤ maxLen) (w : World) :
    Calls Try.prog 84 #[.string p] w fun e w' => e = .returned (.int .i64 (crc p : Nat)) ∧ ∃ pos, w' = w.iter p pos := by
  unfold maxLen at hp
  go_enter Try.func84, Try.ntmps84
  go_wp2
  go_loopw [3, 4] (fun n f w' => ∃ pos k c : Nat, w' = w.iter p pos ∧ n = .int .i64 c ∧ f = .int .i64 k ∧ k ≤ pos ∧ k ≤ p.size ∧ c < 65536 ∧ c = crcL 65535 (p.data.toList.take k)) (fun _ _ w' => p.size - w'.iterPos w.heap.size)
  case atStart => exact ⟨0, 0, 65535, rfl, rfl, rfl, by omega, by omega, by omega, rfl⟩
  case round =>
    obtain ⟨pos, k, c, rfl, rfl, rfl, hk, hks, hc, he⟩ := hrel
    have He := Lib.hid he
    clear he
    by_cases hlt : pos < p.size
    · have hnx : ∀ ty, (Instr.next (.pointer (some ⟨w.heap.size, 0, none⟩)) true ty).run Try.prog (w.iter p pos) = _ := fun ty => run_next_any w p pos ty hlt
      have hwd := width_pos p pos hlt
      generalize (Utf8.decode p pos).2 = wd at hwd hnx
      generalize (Utf8.decode p pos).1 = ru at hnx
      have hcut := crc_cut p k pos hk (by omega)
      rw [← He.out] at hcut
      have Hcut := Lib.hid hcut
      clear hcut
      have hsl : ∀ W : World, (Instr.slice 9 (.string p) (some (.int .i64 k)) (some (.int .i64 pos)) none).run Try.prog W = .ok (.string (p.extract k pos)) W := fun W => by
        have h := run_slice_string W 9 p .i64 .i64 k pos Try.underlying9 (by omega) (by omega) (by omega)
        simpa using h
      go_wp2_with (go_at_call 139; refine (feed_impl _ hc _ (by simp [maxLen]; omega) _).mono ?_; rintro e w' ⟨rfl, rfl⟩)
      have hc2 := crcL_lt (p.data.toList.take pos) 65535 (by decide)
      refine ⟨⟨pos + wd, pos, crcL 65535 (p.data.toList.take pos), rfl, by rw [Hcut.out], rfl, by omega, by omega, hc2, rfl⟩, by simp; omega⟩
    · have hnx : ∀ ty, (Instr.next (.pointer (some ⟨w.heap.size, 0, none⟩)) true ty).run Try.prog (w.iter p pos) = _ := fun ty => run_next_end w p pos ty hlt
      have hcut := crc_cut p k p.size hks (by omega)
      rw [← He.out] at hcut
      have Hcut := Lib.hid hcut
      clear hcut
      have hsl : ∀ W : World, (Instr.slice 9 (.string p) (some (.int .i64 k)) none none).run Try.prog W = .ok (.string (p.extract k p.size)) W := fun W => by
        have h := run_slice_string_from_if W 9 p .i64 k Try.underlying9
        rw [if_pos (by omega)] at h
        simpa using h
      go_wp2_with (go_at_call 139; refine (feed_impl _ hc _ (by simp [maxLen]; omega) _).mono ?_; rintro e w' ⟨rfl, rfl⟩)
      go_ret
      exact ⟨ret_i (by rw [Hcut.out, List.take_of_length_le (by simp)]; rfl), _, rfl⟩

end Go.Proofs.Ytckofkdeedbbgaa
