/- What this text proves: the text that the laws make of another by one byte: it differs from it at one place, and in nothing else. -/
import Derived.Test.YtmmedhjmilgnbaaCode
import Derived.Test.YtmmedhjmilgnbaaCur
import Derived.Test.YtmmedhjmilgnbaaBuf
import Derived.RegionTactic
import Derived.BigRegion
import Derived.ChangeAlike
import Derived.Lib.ConvBytes
namespace Go.Proofs.Ytmmedhjmilgnbaa
open Go.ChangeShapes Go.WideShapes Go.ChangeAt Go.RowKit
set_option linter.unusedVariables false

set_option maxHeartbeats 400000 in
theorem at_any (B : Nat) (A : Option Addr) (n c : Nat) (hn : n ≤ 1048576) (i : Nat) (hi : i ≤ 1000000) (w : World) (hc : CodeOk w B A n) :
    Calls Try.prog 14 #[.slice A n c, .int .i64 i] w (Small w) := by
  by_cases h0 : n = 0
  · subst h0
    go_enter Try.func14, Try.ntmps14
    go_wp2
    go_ret
    exact ⟨0, by omega, rfl, rfl⟩
  · rcases hc with hc | ⟨b, off, rfl, hlt, hcell⟩
    · exact absurd hc h0
    · have hd : ((n : Int) == 0) = false := by simp; omega
      have hd2 : 0 < n := by omega
      obtain ⟨x, hx, hxc⟩ := hcell ((i * 5 + 1) % n) (Nat.mod_lt _ hd2)
      have hlt2 : (i * 5 + 1) % n < n := Nat.mod_lt _ hd2
      have hm0 : (0 : Int) ≤ ((i : Int) * 5 + 1) % (n : Int) := Int.emod_nonneg _ (by omega)
      have hm1 : ((i : Int) * 5 + 1) % (n : Int) < (n : Int) := Int.emod_lt_of_pos _ (by omega)
      clear hcell h0
      go_enter Try.func14, Try.ntmps14
      go_wp2
      go_ret
      exact ⟨x, hx, rfl, rfl⟩

theorem bytes_new (w : World) (s : ByteArray) : ∃ (cap : Nat) (w1 : World) (cs : Array Value) (m : Nat),
    (convert 9 22 (.string s)).run Try.prog w = .ok (.slice (some ⟨w.heap.size, 0, none⟩) s.size cap) w1 ∧ Below w.heap.size w w1 ∧
    w1.heap[w.heap.size]? = some (.cells cs 5 (m, m + 1)) ∧ s.size ≤ m ∧ (∀ j, j < s.size → cs[j]? = some (.int .u8 (((s.data.toList.getD j 0).toNat : Nat) : Int))) := by
  refine ⟨_, _, _, _, Lib.run_convert_string_bytes w 9 22 5 s Try.underlying9 Try.underlying22 Try.underlying5, ⟨?_, ?_, ?_, ?_, ?_⟩, Lib.bytesWorld_at_new w _ s, ?_, ?_⟩
  · rfl
  · rfl
  · rfl
  · rw [Lib.bytesWorld_size]; omega
  · intro k hk
    exact Lib.bytesWorld_at_old w _ s k hk
  · simp [Lib.bytesCells]
  · intro j hj
    have h := Lib.bytesWorld_cell w 5 s j hj
    rw [World.cell?] at h
    rw [Lib.bytesWorld_at_new] at h
    simpa using h

theorem cell_set {w : World} {g i j : Nat} {cs : Array Value} {T : TypeId} {f : Nat × Nat} (h : w.heap[g]? = some (.cells cs T f)) (v : Value) : (w.setCell ⟨g, i, none⟩ v).cell? ⟨g, j, none⟩ = (cs.setIfInBounds i v)[j]? := by
  have h2 : (w.setCell ⟨g, i, none⟩ v).heap[g]? = some (.cells (cs.setIfInBounds i v) T f) := by simp [World.setCell, Array.getElem?_modify, h]
  exact cell_of_row _ g j _ T f h2
theorem xor_u8 (x : UInt8) (n : Nat) : ∃ y : UInt8, bits .xor .u8 (x.toNat : Int) (1 + (n : Int) % 255) = (y.toNat : Int) ∧ y ≠ x := by
  have hx := UInt8.toNat_lt x
  have hd : (1 + n % 255) < 2 ^ 8 := by omega
  have hxd : x.toNat ^^^ (1 + n % 255) < 2 ^ 8 := Nat.xor_lt_two_pow hx hd
  refine ⟨UInt8.ofNat (x.toNat ^^^ (1 + n % 255)), ?_, ?_⟩
  · rw [show (1 : Int) + (n : Int) % 255 = ((1 + n % 255 : Nat) : Int) from by omega, UInt8.toNat_ofNat', Nat.mod_eq_of_lt hxd]
    simp only [bits, BitVec.ofInt_natCast, BitVec.toNat_xor, BitVec.toNat_ofNat]
    show IntKind.u8.wrap ((x.toNat % 2 ^ 8 ^^^ (1 + n % 255) % 2 ^ 8 : Nat) : Int) = _
    rw [Nat.mod_eq_of_lt hx, Nat.mod_eq_of_lt hd, IntKind.wrap_u8]
    omega
  · intro e
    have h := congrArg UInt8.toNat e
    rw [UInt8.toNat_ofNat', Nat.mod_eq_of_lt hxd] at h
    have h2 : x.toNat ^^^ (x.toNat ^^^ (1 + n % 255)) = x.toNat ^^^ x.toNat := by rw [h]
    rw [← Nat.xor_assoc, Nat.xor_self, Nat.zero_xor] at h2
    omega

/-- The text with one byte changed, at a place that it has. -/
def TurnRes (s : ByteArray) (w : World) (e : Ending) (w' : World) : Prop :=
  ∃ (t : ByteArray) (j : Nat) (x : UInt8) (hj : j < s.data.toList.length), x ≠ s.data.toList[j] ∧ t.data.toList = s.data.toList.set j x ∧ e = .returned (.string t) ∧ Below w.heap.size w w'

set_option maxHeartbeats 1000000 in
theorem turn_any (s : ByteArray) (h0 : 0 < s.size) (hs : s.size ≤ 1048576) (k n : Nat) (hk : k ≤ 1000000) (hn : n ≤ 1000000) (w : World) :
    Calls Try.prog 17 #[.string s, .int .i64 k, .int .i64 n] w (TurnRes s w) := by
  obtain ⟨cap, w1, cs, m, hconv, hb1, hg, hm, hcs⟩ := bytes_new w s
  have hlt : k % s.size < s.size := Nat.mod_lt _ h0
  have hc := hcs (k % s.size) hlt
  have c0 : w1.cell? ⟨w.heap.size, k % s.size, none⟩ = some (.int .u8 (((s.data.toList.getD (k % s.size) 0).toNat : Nat) : Int)) := by rw [cell_of_row w1 _ _ _ _ _ hg]; exact hc
  have f0 : w1.frozen? ⟨w.heap.size, k % s.size, none⟩ = false := by simp [World.frozen?, hg]; omega
  have hm0 : (0 : Int) ≤ (k : Int) % (s.size : Int) := Int.emod_nonneg _ (by omega)
  have hm1 : (k : Int) % (s.size : Int) < (s.size : Int) := Int.emod_lt_of_pos _ (by omega)
  have Hb := Lib.hid hb1
  have Hg := Lib.hid hg
  have Hcs := Lib.hid hcs
  clear hb1 hg hcs hc
  generalize hxe : (s.data.toList.getD (k % s.size) 0) = x at *
  have Hxe := Lib.hid hxe
  clear hxe
  have hx := UInt8.toNat_lt x
  obtain ⟨y, hy, hyx⟩ := xor_u8 x n
  have Hy := Lib.hid hy
  have Hyx := Lib.hid hyx
  clear hy hyx
  generalize hge : w.heap.size = g at *
  have Hge := Lib.hid hge
  clear hge
  go_enter Try.func17, Try.ntmps17
  go_wp2
  go_region
  rw [Hy.out]
  have hcells : ∀ j (hj : j < (s.data.toList.set (k % s.size) y).length), ((w1.setCell ⟨g, k % s.size, none⟩ (.int .u8 (y.toNat : Int))).drew).cell? ((⟨g, 0, none⟩ : Addr).add j) = some (.int .u8 ((s.data.toList.set (k % s.size) y)[j].toNat : Int)) := by
    intro j hj
    have hj' : j < s.size := by simpa using hj
    rw [show (⟨g, 0, none⟩ : Addr).add j = ⟨g, j, none⟩ from by unfold Addr.add; split <;> simp_all]
    show (w1.setCell ⟨g, k % s.size, none⟩ (.int .u8 (y.toNat : Int))).cell? ⟨g, j, none⟩ = _
    rw [cell_set Hg.out]
    have hin := Hcs.out j hj'
    by_cases e : k % s.size = j
    · subst e
      have hlt2 : k % s.size < cs.size := (Array.getElem?_eq_some_iff.1 hin).1
      simp [hlt2]
    · rw [Array.getElem?_setIfInBounds_ne e, hin, List.getElem_set_ne e, List.getD_eq_getElem?_getD, List.getElem?_eq_getElem (by simpa using hj')]
      rfl
  have hcv := run_convert_bytes_back (P := Try.prog) _ 22 9 5 ⟨g, 0, none⟩ cap (s.data.toList.set (k % s.size) y) Try.underlying22 Try.underlying5 Try.underlying9 hcells
  rw [List.length_set, show s.data.toList.length = s.size from by simp] at hcv
  clear hcells
  go_wp2
  go_ret
  refine ⟨⟨(s.data.toList.set (k % s.size) y).toArray⟩, k % s.size, y, by simpa using hlt, ?_, rfl, rfl, ?_⟩
  · have h := Hyx.out
    rw [← Hxe.out, List.getD_eq_getElem?_getD, List.getElem?_eq_getElem (by simpa using hlt)] at h
    exact h
  · have hb := Hb.out
    rw [Hge.out]
    exact (hb.setCell (p := ⟨g, k % s.size, none⟩) (Nat.le_refl _) _).drew
end Go.Proofs.Ytmmedhjmilgnbaa
