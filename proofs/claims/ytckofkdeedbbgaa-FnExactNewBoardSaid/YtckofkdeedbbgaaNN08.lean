/- What this text proves: the parts BdM, Byte, Bytes of the proof, each under its own words. -/
import Derived.Test.YtckofkdeedbbgaaNN07
import Derived.Test.YtckofkdeedbbgaaNN05
import Derived.Lib.Hide
import Derived.Test.YtckofkdeedbbgaaNN03
import Derived.LoopTactic
import Derived.IntWalk
/- What this text proves: what makes the lists of a board valid, as facts of their elements; how far a loop over them has got. -/
namespace Go.Proofs.Ytckofkdeedbbgaa
open Go.ChangeShapes Go.WideShapes Go.ChangeAt Go.RowKit
set_option linter.unusedVariables false

def LimOk (p : Lm) : Prop := (0 ≤ p.1 ∧ p.1 ≤ 7) ∧ (0 ≤ p.2.1 ∧ p.2.1 ≤ 65535) ∧ (0 ≤ p.2.2 ∧ p.2.2 ≤ 65535)
instance (p : Lm) : Decidable (LimOk p) := by unfold LimOk; infer_instance
def LimsOk (l : List Lm) : Prop := ∀ k (hk : k < l.length), LimOk l[k]
noncomputable def limB (l : List Lm) : Bool := @decide (LimsOk l ∧ l.length ≤ 8) (Classical.propDecidable _)
theorem limB_yes {l : List Lm} (h : LimsOk l ∧ l.length ≤ 8) : limB l = true := by unfold limB; exact @decide_eq_true _ (Classical.propDecidable _) h
theorem limB_no {l : List Lm} (h : ¬ (LimsOk l ∧ l.length ≤ 8)) : limB l = false := by unfold limB; exact @decide_eq_false _ (Classical.propDecidable _) h
def DnOk (T : Int) (p : Dn) : Prop := (0 ≤ p.1 ∧ p.1 ≤ T - 1) ∧ (0 ≤ p.2.1 ∧ p.2.1 ≤ 1000000) ∧ (0 ≤ p.2.2 ∧ p.2.2 ≤ 1)
instance (T : Int) (p : Dn) : Decidable (DnOk T p) := by unfold DnOk; infer_instance
def DnsOk (T : Int) (l : List Dn) : Prop := ∀ k (hk : k < l.length), DnOk T l[k]
noncomputable def dnB (T : Int) (l : List Dn) : Bool := @decide (DnsOk T l ∧ l.length ≤ 5000) (Classical.propDecidable _)
theorem dnB_yes {T : Int} {l : List Dn} (h : DnsOk T l ∧ l.length ≤ 5000) : dnB T l = true := by unfold dnB; exact @decide_eq_true _ (Classical.propDecidable _) h
theorem dnB_no {T : Int} {l : List Dn} (h : ¬ (DnsOk T l ∧ l.length ≤ 5000)) : dnB T l = false := by unfold dnB; exact @decide_eq_false _ (Classical.propDecidable _) h
/-- An order that waits has its turn before another one. -/
def bef (u v : Wt) : Prop := u.2.2.1 < v.2.2.1 ∨ (u.2.2.1 = v.2.2.1 ∧ u.1 < v.1)
instance (u v : Wt) : Decidable (bef u v) := by unfold bef; infer_instance
def WtC (p : Wt) : Prop := OrOk p.2.1 p.2.2.1 p.2.2.2.1 p.2.2.2.2
instance (p : Wt) : Decidable (WtC p) := by unfold WtC; infer_instance
/-- The k-th order that waits is as a board's must be. -/
def OrdAt (T : Int) (l : List Wt) (k : Nat) (hk : k < l.length) : Prop := WtC l[k] ∧ (0 ≤ l[k].1 ∧ l[k].1 ≤ T - 1) ∧ (∀ j (hj : j < k), l[j].1 ≠ l[k].1) ∧ (∀ m (hm : m + 1 = k), bef l[m] l[k])
def OrdTo (T : Int) (l : List Wt) (k : Nat) : Prop := ∀ j (hj : j < l.length), j < k → OrdAt T l j hj
theorem OrdTo.zero (T : Int) (l : List Wt) : OrdTo T l 0 := fun j _ h => absurd h (Nat.not_lt_zero _)
theorem OrdTo.succ {T : Int} {l : List Wt} {k : Nat} (h : OrdTo T l k) (hk : k < l.length) (h1 : OrdAt T l k hk) : OrdTo T l (k + 1) := fun j hj hjk => by
  rcases Nat.lt_or_ge j k with h3 | h3
  · exact h j hj h3
  · obtain rfl : j = k := by omega
    exact h1
noncomputable def ordB (T : Int) (l : List Wt) : Bool := @decide (l.length ≤ 40 ∧ OrdTo T l l.length) (Classical.propDecidable _)
theorem ordB_yes {T : Int} {l : List Wt} (h : l.length ≤ 40 ∧ OrdTo T l l.length) : ordB T l = true := by unfold ordB; exact @decide_eq_true _ (Classical.propDecidable _) h
theorem ordB_no {T : Int} {l : List Wt} (h : ¬ (l.length ≤ 40 ∧ OrdTo T l l.length)) : ordB T l = false := by unfold ordB; exact @decide_eq_false _ (Classical.propDecidable _) h
/-- i is the first place of a number; -1 where it does not stand. -/
def PlcIs (l : List Wt) (num i : Int) : Prop := (i = -1 ∧ ∀ j (hj : j < l.length), l[j].1 ≠ num) ∨ (∃ (k : Nat) (hk : k < l.length), i = (k : Int) ∧ l[k].1 = num ∧ ∀ j (hj : j < k), l[j].1 ≠ num)
theorem PlcIs.own {l : List Wt} {i : Int} {k : Nat} {hk : k < l.length} (h : PlcIs l l[k].1 i) : i = (k : Int) ↔ ∀ j (hj : j < k), l[j].1 ≠ l[k].1 := by
  rcases h with ⟨_, h⟩ | ⟨m, hm, rfl, h1, h2⟩
  · exact absurd rfl (h k hk)
  · constructor
    · intro e
      obtain rfl : m = k := by omega
      exact h2
    · intro hall
      rcases Nat.lt_trichotomy m k with h3 | h3 | h3
      · exact absurd h1 (hall m h3)
      · omega
      · exact absurd rfl (h2 k h3)
end Go.Proofs.Ytckofkdeedbbgaa
/- What this text proves: a byte of a text, read by its index. -/
namespace Go.Proofs.Ytckofkdeedbbgaa
open Go

/-- The byte at an index; 0 where there is none. -/
def byteAt (s : ByteArray) (i : Nat) : Nat := (s.data.toList.getD i 0).toNat
theorem byteAt_of (s : ByteArray) (i : Nat) (h : i < s.size) : (s[i]).toNat = byteAt s i := by
  have h' : i < s.data.toList.length := by simpa using h
  unfold byteAt
  rw [List.getD_eq_getElem?_getD, List.getElem?_eq_getElem h']
  rfl
theorem byteAt_lt (s : ByteArray) (i : Nat) : byteAt s i < 256 := by unfold byteAt; exact UInt8.toNat_lt _
end Go.Proofs.Ytckofkdeedbbgaa
/- What this text proves: the contract of GetWord: program and model both return, for every text, index and size, the value of the bytes from the index on, the highest ones first, or 0 and false if they are not there. -/
namespace Go.Proofs.Ytckofkdeedbbgaa
open Go.ChangeShapes Go.WideShapes Go.ChangeAt Go.RowKit
set_option linter.unusedVariables false

/-- The value of k bytes from an index on, the highest first. -/
def valW (s : ByteArray) (i : Nat) : Nat → Nat
  | 0 => 0
  | k + 1 => 256 * valW s i k + byteAt s (i + k)
theorem valW_lt (s : ByteArray) (i k : Nat) : valW s i k < 256 ^ k := by
  induction k with
  | zero => simp [valW]
  | succ k ih => have := byteAt_lt s (i + k); simp only [valW, Nat.pow_succ]; omega
theorem valW_small (s : ByteArray) (i k : Nat) (h : k ≤ 4) : valW s i k < 4294967296 :=
  Nat.lt_of_lt_of_le (valW_lt s i k) (Nat.pow_le_pow_right (n := 256) (by decide) h)

def GetOk (s : ByteArray) (a n : Int) : Prop := 1 ≤ n ∧ n ≤ 4 ∧ 0 ≤ a ∧ a + n ≤ s.size
set_option maxHeartbeats 400000 in
theorem get_yes_impl (s : ByteArray) (i k : Nat) (hk1 : 1 ≤ k) (hk4 : k ≤ 4) (hi : i + k ≤ s.size) (hs : s.size ≤ maxLen) (w : World) :
    Calls Try.prog 141 #[.string s, .int .i64 i, .int .i64 k] w fun e w' => e = .returned (.tuple #[.int .i64 (valW s i k : Nat), .bool true]) ∧ w = w' := by
  unfold maxLen at hs
  have hd1 : decide ((k : Int) < 1) = false := by simp; omega
  have hd2 : decide ((4 : Int) < (k : Int)) = false := by simp; omega
  have hd3 : decide ((i : Int) < 0) = false := by simp
  have hd4 : decide ((s.size : Int) - (k : Int) < (i : Int)) = false := by simp; omega
  go_enter Try.func141, Try.ntmps141
  go_wp2
  go_loop [8, 29] (fun n t => ∃ j : Nat, j ≤ k ∧ t = .int .i64 j ∧ n = .int .i64 (valW s i j : Nat)) (fun _ t => k - (intOf t).toNat)
  case atStart => exact ⟨0, by omega, rfl, rfl⟩
  case round =>
    obtain ⟨j, hj, rfl, rfl⟩ := hrel
    by_cases hlt : j < k
    · have hv := valW_small s i j (by omega)
      have hv0 : (0 : Int) ≤ (valW s i j : Int) := by omega
      go_wp2
      refine ⟨⟨j + 1, by omega, by go_num, ?_⟩, by simp [intOf]; omega⟩
      rw [or_byte _ _ (by omega) (UInt8.toNat_lt _), byteAt_of s (i + j) (by omega)]
      rfl
    · have hd : decide (j < k) = false := by simp; omega
      have hjk : j = k := by omega
      subst hjk
      clear hj hlt
      go_wp2
      go_ret2
      exact ⟨rfl, rfl⟩

theorem get_no_impl (s : ByteArray) (a n : Int) (ha : -9223372036854775808 ≤ a ∧ a ≤ 9223372036854775807) (hs : s.size ≤ maxLen) (h : ¬ GetOk s a n) (w : World) :
    Calls Try.prog 141 #[.string s, .int .i64 a, .int .i64 n] w fun e w' => e = .returned (.tuple #[.int .i64 0, .bool false]) ∧ w = w' := by
  unfold maxLen at hs
  unfold GetOk at h
  by_cases h1 : n < 1
  · clear h
    go_enter Try.func141, Try.ntmps141
    go_wp2
    go_ret2
    exact ⟨rfl, rfl⟩
  · have hd1 : decide (n < 1) = false := by simp; omega
    by_cases h2 : 4 < n
    · have hd2 : decide (4 < n) = true := by simp; omega
      clear h h1
      go_enter Try.func141, Try.ntmps141
      go_wp2
      go_ret2
      exact ⟨rfl, rfl⟩
    · have hd2 : decide (4 < n) = false := by simp; omega
      by_cases h3 : a < 0
      · have hd3 : decide (a < 0) = true := by simp; omega
        clear h h1 h2
        go_enter Try.func141, Try.ntmps141
        go_wp2
        go_ret2
        exact ⟨rfl, rfl⟩
      · have hd3 : decide (a < 0) = false := by simp; omega
        have hd4 : decide ((s.size : Int) - n < a) = true := by simp; omega
        clear h
        go_enter Try.func141, Try.ntmps141
        go_wp2
        go_ret2
        exact ⟨rfl, rfl⟩

end Go.Proofs.Ytckofkdeedbbgaa
