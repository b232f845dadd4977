/- What this text proves: the contract of the laws' own mark of a number as a text. -/
import Derived.Test.YtdfcamlnebcbpacLaw
import Derived.WalkKit
import Derived.LoopTactic
import Derived.IntWalk
import Derived.OwnWalk
import Derived.Laws.AppendOwn
import Derived.Laws.OwnMore
import Derived.Lib.Hide
import Derived.Laws.Concat
namespace Go.Proofs.Ytdfcamlnebcbpac
open Go.ChangeShapes Go.WideShapes Go.ChangeAt Go.RowKit
set_option linter.unusedVariables false

/-- The digits of a number, by at most f of them. -/
def dgF : Nat → Nat → List UInt8
  | 0, _ => []
  | f + 1, k => if k = 0 then [] else dgF f (k / 10) ++ [UInt8.ofNat (48 + k % 10)]
theorem dgF_zero (f : Nat) : dgF f 0 = [] := by cases f <;> rfl
def markV (k : Nat) : ByteArray := ⟨#[109]⟩ ++ ⟨(dgF 64 k).toArray⟩
theorem one_text (w : World) (d : UInt8) : (convert 170 9 (.slice (some ⟨w.heap.size, 0, none⟩) 1 1)).run Try.prog (w.alloc (.cells #[.int .u8 (d.toNat : Int)] 5)) = .ok (.string ⟨#[d]⟩) (w.alloc (.cells #[.int .u8 (d.toNat : Int)] 5)) := by
  have h := run_convert_bytes_back (P := Try.prog) (w.alloc (.cells #[.int .u8 (d.toNat : Int)] 5)) 170 9 5 ⟨w.heap.size, 0, none⟩ 1 [d] Try.underlying170 Try.underlying5 Try.underlying9 (fun j hj => by
    obtain rfl : j = 0 := by simp at hj; omega
    show (w.alloc (.cells #[.int .u8 (d.toNat : Int)] 5)).cell? ⟨w.heap.size, 0, none⟩ = _
    rw [World.cell?_alloc_at _ _ _ _ rfl]
    rfl)
  simpa using h

set_option maxHeartbeats 1000000 in
theorem mark_text (n : Nat) (h0 : 0 < n) (hn : n < 1000000000) (w : World) :
    Calls Try.prog 131 #[.int .i64 n] w fun e w' => e = .returned (.string (markV n)) ∧ Below w.heap.size w w' := by
  have hd : decide ((n : Int) ≤ 0) = false := by simp; omega
  go_enter Try.func131, Try.ntmps131
  go_wp2
  go_loopw [0, 3] (fun i s wr => ∃ (f k : Nat) (t : ByteArray), i = .int .i64 (k : Int) ∧ s = .string t ∧ k < 2 ^ f ∧ k < 1000000000 ∧ t.size + f ≤ 64 ∧ dgF 64 n = dgF f k ++ t.data.toList ∧ Below w.heap.size w wr) (fun i _ _ => (intOf i).toNat)
  case atStart => exact ⟨64, n, ⟨#[]⟩, rfl, rfl, by omega, hn, by simp; rfl, by simp, Below.refl _ _⟩
  case round =>
    obtain ⟨f, k, t, rfl, rfl, hf, hk, ht, he, hbel⟩ := hrel
    have He := Lib.hid he
    clear he
    by_cases hpos : 0 < k
    · have hp : decide (0 < k) = true := by simp; omega
      obtain ⟨f', hff⟩ : ∃ j, f = j + 1 := ⟨f - 1, by
        rcases Nat.eq_zero_or_pos f with h1 | h1
        · rw [h1] at hf; simp at hf; omega
        · omega⟩
      rw [hff] at hf ht He
      have hf2 := Lib.hid (show k / 10 < 2 ^ f' by rw [Nat.pow_succ] at hf; omega)
      clear hf hff
      have hdig := Lib.hid (show dgF (f' + 1) k = dgF f' (k / 10) ++ [UInt8.ofNat (48 + k % 10)] by simp only [dgF]; rw [if_neg (by omega)])
      have hval : ((UInt8.ofNat (48 + k % 10)).toNat : Int) = 48 + (k : Int) % 10 := by rw [UInt8.toNat_ofNat']; omega
      have hcv := one_text wr (UInt8.ofNat (48 + k % 10))
      rw [hval] at hcv
      clear hval
      generalize UInt8.ofNat (48 + k % 10) = d at *
      have hds : (⟨#[d]⟩ : ByteArray).size = 1 := rfl
      go_wp2
      refine ⟨⟨f', k / 10, ⟨#[d]⟩ ++ t, by go_num, rfl, hf2.out, by omega, by rw [ByteArray.size_append, hds]; omega, ?_, hbel.alloc hbel.size _⟩, by simp [intOf]; omega⟩
      rw [He.out, hdig.out]
      simp [ByteArray.data_append]
    · obtain rfl : k = 0 := by omega
      have hfin := Lib.hid (show t = ⟨(dgF 64 n).toArray⟩ by
        have h := He.out
        rw [dgF_zero, List.nil_append] at h
        rw [h])
      have h1 : (⟨#[109]⟩ : ByteArray).size = 1 := rfl
      clear hpos
      go_wp2
      go_ret
      exact ⟨by rw [hfin.out]; rfl, hbel⟩
end Go.Proofs.Ytdfcamlnebcbpac
