/- What this text proves: the contract of the program's iterator over the places of a text, and of its SpreadBits and GatherBits. -/
import Derived.RangeFuncNested
import Derived.RangeFuncBound
import Derived.RangeFuncCalls
import Derived.RangeFuncLeaves
import Derived.Shelf.Abstract
import Derived.Shelf.RegionOpen
import Derived.WalkKit
import Derived.OwnWalkIn
import Derived.TacticsInMore
import Derived.LoopNIn
import Derived.LoopIn
import Derived.Test.YtdponcannphboabDoorLnkI
namespace Go.Proofs.YtdponcannphboabDoor
open Go.ChangeShapes Go.WideShapes Go.ChangeAt Go.RowKit Go.Shelf
set_option linter.unusedVariables false
attribute [local go_sem] Oper.semAt_some

/-- The iterator's value, and the block in which it keeps the number of bytes. -/
theorem places_make (F : Fence) (fu : Nat) (hF : F.fn 48) (hro : F.round = none) (n : Nat) (w : World) :
    CallsIn F fu Tryd.prog 48 #[.int .i64 (n : Int)] w fun e w' => e = .returned (.func (.func 61) #[] #[.pointer (some ⟨w.heap.size, 0, none⟩)]) ∧ w' = w.alloc (.cells #[.int .i64 (n : Int)] 3) := by
  refine callsIn_of_wp Tryd.func48 rfl hF ?_ hro
  simp only [Tryd.ntmps48, List.size_toArray, List.length_cons, List.length_nil, Nat.reduceAdd, Nat.reduceSub, Array.replicate_succ, Array.replicate_zero, List.push_toArray, List.append_toArray, List.nil_append, List.cons_append]
  gi_wp2
  go_ret
  exact ⟨rfl, rfl⟩

/-- What a round is handed: a place and the place to which it is moved. -/
abbrev encP (n : Nat) (q : Fin (8 * n)) : Array Value := #[.int .i64 (q.val : Int), .int .i64 (plS n q.val : Int)]
/-- The first places. -/
def firstP (n k : Nat) : List (Fin (8 * n)) := (List.finRange (8 * n)).take k
theorem firstP_succ (n k : Nat) (h : k < 8 * n) : firstP n (k + 1) = firstP n k ++ [⟨k, h⟩] := by
  unfold firstP
  rw [List.take_add_one, List.getElem?_eq_getElem (by simpa using h)]
  simp
theorem firstP_len (n k : Nat) (h : k ≤ 8 * n) : (firstP n k).length = k := by
  unfold firstP
  simp
  omega
/-- What the iterator asks of a round: the number that it keeps is kept. -/
def KeepN (b : Nat) (W W' : World) : Prop := ∀ v, W.cell? ⟨b, 0, none⟩ = some v → W'.cell? ⟨b, 0, none⟩ = some v

set_option maxRecDepth 100000 in
set_option maxHeartbeats 2000000 in
theorem places_run (F : Fence) (fu : Nat) (hF : F.fn 61) (hro : F.round = none) (hfu : 1 ≤ fu) (l b n : Nat) (hn : n ≤ 1048576) (J Jx : List (Fin (8 * n)) → World → Prop)
    (hY : ∀ pre x W, J pre W → pre.length < 8 * n → YieldAt F (fu - 1) Tryd.prog l (encP n x) W fun e W' =>
      (e = .returned (.bool true) ∧ J (pre ++ [x]) W' ∧ KeepN b W W') ∨ (e = .returned (.bool false) ∧ Jx (pre ++ [x]) W'))
    (W : World) (hb : W.cell? ⟨b, 0, none⟩ = some (.int .i64 (n : Int))) (h0 : J [] W) :
    CallsIn F fu Tryd.prog 61 #[.func (.yield l) #[] #[], .pointer (some ⟨b, 0, none⟩)] W fun e W' => (∃ v, e = .returned v) ∧
      ((∃ ys, ys = List.finRange (8 * n) ∧ J ys W') ∨ (∃ pre, True ∧ Jx pre W')) := by
  refine callsIn_of_wp Tryd.func61 rfl hF ?_ hro
  simp only [Tryd.ntmps61, List.size_toArray, List.length_cons, List.length_nil, Nat.reduceAdd, Nat.reduceSub, Array.replicate_succ, Array.replicate_zero, List.push_toArray, List.append_toArray, List.nil_append, List.cons_append]
  gi_wp2
  gi_loopw [6] (fun i wr => ∃ m : Nat, m ≤ n ∧ i = .int .i64 (m : Int) ∧ J (firstP n (8 * m)) wr ∧ wr.cell? ⟨b, 0, none⟩ = some (.int .i64 (n : Int))) (fun i _ => n - (intOf i).toNat)
  case atStart => exact ⟨0, Nat.zero_le _, rfl, h0, hb⟩
  case round =>
    obtain ⟨m, hm, rfl, hJ, hcell⟩ := hrel
    by_cases hlt : m < n
    · have hd : decide ((m : Int) < (n : Int)) = true := by simp; omega
      gi_wp2
      gi_loopw [9] (fun i wr => ∃ k : Nat, k ≤ 8 ∧ i = .int .i64 (k : Int) ∧ J (firstP n (8 * m + k)) wr ∧ wr.cell? ⟨b, 0, none⟩ = some (.int .i64 (n : Int))) (fun i _ => 8 - (intOf i).toNat)
      case atStart => exact ⟨0, Nat.zero_le _, rfl, hJ, hcell⟩
      case round =>
        obtain ⟨k, hk, rfl, hJ, hcell⟩ := hrel
        by_cases hlk : k < 8
        · have hd2 : decide ((k : Int) < 8) = true := by simp; omega
          have hq : 8 * m + k < 8 * n := by omega
          obtain ⟨fn, tmps, assign, body, hy, hR⟩ := hY _ ⟨8 * m + k, hq⟩ wr hJ (by rw [firstP_len _ _ (by omega)]; exact hq)
          have hpl := plS_at n m k hlk
          have hlt3 := place_lt n k m hlk hlt
          simp only [encP, hpl] at hy
          push_cast at hy
          have HS := firstP_succ n (8 * m + k) hq
          gi_wp2
          refine hR.mono ?_
          rintro e W3 (⟨rfl, hJ3, hk3⟩ | ⟨rfl, hJx3⟩)
          · have hcell3 := hk3 _ hcell
            gi_wp2
            go_roundw
            case rel => exact ⟨k + 1, by omega, by go_num, by rw [show 8 * m + (k + 1) = 8 * m + k + 1 by omega, HS]; exact hJ3, hcell3⟩
            case measure => simp [intOf]; omega
          · gi_wp2
            refine bodyPost_ret (results_none rfl _ _ _) rfl ?_
            exact ⟨⟨_, rfl⟩, .inr ⟨_, trivial, hJx3⟩⟩
        · obtain rfl : k = 8 := by omega
          have hd2 : decide ((8 : Int) < 8) = false := by decide
          gi_wp2
          go_roundw
          case rel => exact ⟨m + 1, by omega, by go_num, hJ, hcell⟩
          case measure => simp [intOf]; omega
    · obtain rfl : m = n := by omega
      have hd : decide ((m : Int) < (m : Int)) = false := by simp
      gi_wp2
      go_end0
      exact ⟨⟨_, rfl⟩, .inl ⟨_, rfl, by unfold firstP at hJ; rw [List.take_of_length_le (by simp)] at hJ; exact hJ⟩⟩

/-- The iterator hands all places, whatever the body does that keeps its number. -/
theorem places_stops (F : Fence) (fu : Nat) (hF : F.fn 61) (hro : F.round = none) (hfu : 1 ≤ fu) (b n : Nat) (hn : n ≤ 1048576) (w : World) (hlt : b < w.heap.size) (hb : w.cell? ⟨b, 0, none⟩ = some (.int .i64 (n : Int))) :
    SeqStopsK F fu Tryd.prog 61 #[.pointer (some ⟨b, 0, none⟩)] (encP n) (KeepN b) (fun xs => xs = List.finRange (8 * n)) (fun _ => True) (8 * n) w := fun l J Jx W hW _ _ hY h0 =>
  places_run F fu hF hro hfu l b n hn J Jx hY W ((hW.cell (p := ⟨b, 0, none⟩) hlt).trans hb) h0
end Go.Proofs.YtdponcannphboabDoor
