/- What this text proves: the contracts of the program's iterator over the blocks of a stream, and of its FindBlocks. -/
import Derived.RangeFuncNested
import Derived.RangeFuncBound
import Derived.RangeFuncCalls
import Derived.RangeFuncLeaves
import Derived.RangeFuncBox
import Derived.Shelf.Abstract
import Derived.Shelf.RegionOpen
import Derived.WalkKit
import Derived.OwnWalkIn
import Derived.TacticsInMore
import Derived.LoopNIn
import Derived.LoopIn
import Derived.Maps.AppendAt
import Derived.Test.YtdponcannphboabDoorFind
namespace Go.Proofs.YtdponcannphboabDoor
open Go.ChangeShapes Go.WideShapes Go.ChangeAt Go.RowKit Go.Shelf
set_option linter.unusedVariables false
attribute [local go_sem] Oper.semAt_some

theorem part_part (t : ByteArray) (k : Nat) (h : k + 4 ≤ t.size) : (t.extract k t.size).extract 0 4 = t.extract k (k + 4) := by
  apply ByteArray.ext
  apply Array.toList_inj.1
  simp only [ByteArray.data_extract, Array.toList_extract, List.extract_eq_take_drop]
  rw [List.drop_zero, List.take_take]
  congr 1
  have : t.data.size = t.size := rfl
  omega

theorem lite_any (a : ByteArray) (h : 4 ≤ a.size) (hs : a.size ≤ 1048576) (w : World) :
    Calls Tryd.prog 63 #[.string a, .string ⟨#[26, 207, 252, 29]⟩] w fun e w' => e = .returned (.bool ((a.extract 0 4).toList == [26, 207, 252, 29])) ∧ w = w' := by
  have hsm : ∀ W : World, (Instr.slice 9 (.string a) none (some (.int .i64 4)) none).run Tryd.prog W = .ok (.string (a.extract 0 4)) W := fun W => by
    have h := run_slice_string_to_if W 9 a .i64 4 Tryd.underlying9
    rw [if_pos (by omega)] at h
    exact h
  have zm : (⟨#[26, 207, 252, 29]⟩ : ByteArray).size = 4 := rfl
  have hl : (⟨#[26, 207, 252, 29]⟩ : ByteArray).toList = [26, 207, 252, 29] := mark_list
  have hd : decide ((4 : Int) ≤ (a.size : Int)) = true := by simp; omega
  have hd' : decide (4 ≤ a.size) = true := by simp; omega
  generalize a.extract 0 4 = E at *
  go_enter Tryd.func63, Tryd.ntmps63
  go_wp2
  go_ret
  exact ⟨rfl, rfl⟩
theorem prefix_any (a : ByteArray) (h : 4 ≤ a.size) (hs : a.size ≤ 1048576) (w : World) :
    Calls Tryd.prog 58 #[.string a, .string ⟨#[26, 207, 252, 29]⟩] w fun e w' => e = .returned (.bool ((a.extract 0 4).toList == [26, 207, 252, 29])) ∧ w = w' := by
  have H := Lib.hid (lite_any a h hs)
  go_enter Tryd.func58, Tryd.ntmps58
  go_wp2_with fail
  refine (H.out _).mono ?_
  rintro e w' ⟨rfl, rfl⟩
  go_wp2
  go_ret
  exact ⟨rfl, rfl⟩

/-- The iterator's value, and the blocks in which it keeps the stream and the size. -/
theorem find_make (F : Fence) (fu : Nat) (hF : F.fn 45) (hro : F.round = none) (t : ByteArray) (n : Int) (w : World) :
    CallsIn F fu Tryd.prog 45 #[.string t, .int .i64 n] w fun e w' => e = .returned (.func (.func 57) #[] #[.pointer (some ⟨w.heap.size + 1, 0, none⟩), .pointer (some ⟨w.heap.size, 0, none⟩)]) ∧ w' = (w.alloc (.cells #[.string t] 9)).alloc (.cells #[.int .i64 n] 3) := by
  refine callsIn_of_wp Tryd.func45 rfl hF ?_ hro
  simp only [Tryd.ntmps45, List.size_toArray, List.length_cons, List.length_nil, Nat.reduceAdd, Nat.reduceSub, Array.replicate_succ, Array.replicate_zero, List.push_toArray, List.append_toArray, List.nil_append, List.cons_append]
  gi_wp2
  go_ret
  exact ⟨rfl, rfl⟩

set_option maxRecDepth 100000 in
set_option maxHeartbeats 2000000 in
theorem find_run (fu : Nat) (hfu : 1 ≤ fu) (l bs bt n₀ n : Nat) (t : ByteArray) (hbs : bs < n₀) (hbt : bt < n₀) (hn : 1 ≤ n ∧ n ≤ 200) (ht : t.size ≤ 20000) (J Jx : List Int → World → Prop)
    (hY : ∀ pre x W, J pre W → pre.length < (findF t n (t.size + 1) 0).length → YieldAt Fence.wide (fu - 1) Tryd.prog l #[.int .i64 x] W fun e W' =>
      (e = .returned (.bool true) ∧ J (pre ++ [x]) W' ∧ Below n₀ W W') ∨ (e = .returned (.bool false) ∧ Jx (pre ++ [x]) W'))
    (W : World) (hb1 : W.cell? ⟨bs, 0, none⟩ = some (.int .i64 (n : Int))) (hb2 : W.cell? ⟨bt, 0, none⟩ = some (.string t)) (h0 : J [] W) :
    CallsIn Fence.wide fu Tryd.prog 57 #[.func (.yield l) #[] #[], .pointer (some ⟨bs, 0, none⟩), .pointer (some ⟨bt, 0, none⟩)] W fun e W' => (∃ v, e = .returned v) ∧
      ((∃ ys, ys = findF t n (t.size + 1) 0 ∧ J ys W') ∨ (∃ pre, True ∧ Jx pre W')) := by
  have hF : Fence.wide.fn 58 := trivial
  obtain ⟨L, hL⟩ : ∃ L, findF t n (t.size + 1) 0 = L := ⟨_, rfl⟩
  have HL := Lib.hid hL
  rw [hL] at hY ⊢
  clear hL
  refine callsIn_of_wp Tryd.func57 rfl trivial ?_ rfl
  simp only [Tryd.ntmps57, List.size_toArray, List.length_cons, List.length_nil, Nat.reduceAdd, Nat.reduceSub, Array.replicate_succ, Array.replicate_zero, List.push_toArray, List.append_toArray, List.nil_append, List.cons_append]
  gi_wp2
  gi_loopw [4] (fun i wr => ∃ (k f : Nat) (pre : List Int), i = .int .i64 (k : Int) ∧ t.size < k + f ∧ pre ++ findF t n f k = L ∧ k ≤ 100000 ∧ J pre wr ∧ wr.cell? ⟨bs, 0, none⟩ = some (.int .i64 (n : Int)) ∧ wr.cell? ⟨bt, 0, none⟩ = some (.string t)) (fun i _ => t.size + 1 - (intOf i).toNat)
  case atStart => exact ⟨0, t.size + 1, [], rfl, by omega, by simpa using HL.out, by omega, h0, hb1, hb2⟩
  case round =>
    obtain ⟨k, f, pre, rfl, hkf, he, hk, hJ, hc1, hc2⟩ := hrel
    have HE := Lib.hid he
    clear he
    by_cases hlt : k + 4 + 2 * n ≤ t.size
    · obtain ⟨f, rfl⟩ : ∃ j, f = j + 1 := ⟨f - 1, by omega⟩
      have hd : decide ((k : Int) + 4 + 2 * (n : Int) ≤ (t.size : Int)) = true := by simp; omega
      have hsf : ∀ W : World, (Instr.slice 9 (.string t) (some (.int .i64 (k : Int))) none none).run Tryd.prog W = .ok (.string (t.extract k t.size)) W := fun W => by
        have h := run_slice_string_from_if W 9 t .i64 (k : Int) Tryd.underlying9
        rw [if_pos (by omega), show ((k : Int)).toNat = k from by omega] at h
        exact h
      have hpp := part_part t k (by omega)
      have zp : (t.extract k t.size).size = t.size - k := by rw [ByteArray.size_extract]; omega
      have cP0 := fun W => prefix_any (t.extract k t.size) (by omega) (by omega) W
      rw [hpp] at cP0
      generalize t.extract k t.size = T at *
      by_cases hm : t.extract k (k + 4) = markT
      · have hst := HE.out
        rw [findF_hit t n f k hlt hm] at hst
        have HST := Lib.hid (show (pre ++ [((k + 4 : Nat) : Int)]) ++ findF t n f (k + 4 + 2 * n) = L by rw [List.append_assoc]; exact hst)
        have hpl : pre.length < L.length := by
          have h := congrArg List.length HST.out
          rw [List.length_append, List.length_append] at h
          simp at h
          omega
        have hbv : ((t.extract k (k + 4)).toList == [26, 207, 252, 29]) = true := by rw [hm, mark_list]; rfl
        rw [hbv] at cP0
        have CP := Lib.hid cP0
        obtain ⟨K4, hK4⟩ : ∃ K4 : Nat, k + 4 = K4 := ⟨_, rfl⟩
        have hk4 : (k : Int) + 4 = (K4 : Int) := by omega
        rw [hK4] at HST
        obtain ⟨fn, tmps, assign, body, hy, hR⟩ := hY pre (K4 : Int) wr hJ hpl
        clear hst hm hbv cP0 hpp
        gi_wp2_with (gi_at_call 58; refine (callsIn_wide.2 (CP.out _)).mono ?_; rintro e w' ⟨rfl, rfl⟩)
        refine hR.mono ?_
        rintro e W3 (⟨rfl, hJ3, hk3⟩ | ⟨rfl, hJx3⟩)
        · have hc13 := (hk3.cell (p := ⟨bs, 0, none⟩) hbs).trans hc1
          have hc23 := (hk3.cell (p := ⟨bt, 0, none⟩) hbt).trans hc2
          gi_wp2
          go_roundw
          case rel => exact ⟨K4 + 2 * n, f, _, by go_num, by omega, by rw [← hK4] at HST ⊢; exact HST.out, by omega, hJ3, hc13, hc23⟩
          case measure => simp [intOf]; omega
        · gi_wp2
          refine bodyPost_ret (results_none rfl _ _ _) rfl ?_
          exact ⟨⟨_, rfl⟩, .inr ⟨_, trivial, hJx3⟩⟩
      · have hst := HE.out
        rw [findF_miss t n f k hlt hm] at hst
        have HST := Lib.hid hst
        have hbv := unlike_text _ _ hm
        rw [mark_list] at hbv
        rw [hbv] at cP0
        have CP := Lib.hid cP0
        clear hst hm hbv cP0 hpp
        gi_wp2_with (gi_at_call 58; refine (callsIn_wide.2 (CP.out _)).mono ?_; rintro e w' ⟨rfl, rfl⟩)
        go_roundw
        case rel => exact ⟨k + 1, f, pre, by go_num, by omega, HST.out, by omega, hJ, hc1, hc2⟩
        case measure => simp [intOf]; omega
    · have hd : decide ((k : Int) + 4 + 2 * (n : Int) ≤ (t.size : Int)) = false := by simp; omega
      have hfin := Lib.hid (show pre = L by
        have h := HE.out
        rw [findF_end t n f k hlt, List.append_nil] at h
        exact h)
      gi_wp2
      go_end0
      exact ⟨⟨_, rfl⟩, .inl ⟨_, rfl, by rw [← hfin.out]; exact hJ⟩⟩
end Go.Proofs.YtdponcannphboabDoor
