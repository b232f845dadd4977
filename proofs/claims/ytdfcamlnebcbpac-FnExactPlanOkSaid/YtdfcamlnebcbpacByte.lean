/- What this text proves: a byte of a text, read by its index. -/
import Derived.Lib.Hide
namespace Go.Proofs.Ytdfcamlnebcbpac
open Go

/-- The byte at an index; 0 where there is none. -/
def byteAt (s : ByteArray) (i : Nat) : Nat := (s.data.toList.getD i 0).toNat
theorem byteAt_of (s : ByteArray) (i : Nat) (h : i < s.size) : (s[i]).toNat = byteAt s i := by
  have h' : i < s.data.toList.length := by simpa using h
  unfold byteAt
  rw [List.getD_eq_getElem?_getD, List.getElem?_eq_getElem h']
  rfl
theorem byteAt_lt (s : ByteArray) (i : Nat) : byteAt s i < 256 := by unfold byteAt; exact UInt8.toNat_lt _
end Go.Proofs.Ytdfcamlnebcbpac
