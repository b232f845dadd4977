/- What this text proves: the contracts of MakeBlock and ReadBlock: program and model both return, for every text, the block that the document names, and what is read of a block. -/
import Derived.Test.YtdponcannphboabDoorLnkK
import Derived.Test.YtdponcannphboabDoorLnkF
import Derived.Test.YtdponcannphboabDoorLnkH
import Derived.Test.YtdponcannphboabDoorLnkG
import Derived.Test.YtdponcannphboabDoorLnkI
import Derived.Test.YtdponcannphboabDoorLnkM
import Derived.Test.YtdponcannphboabDoorLnkN
import Derived.Test.YtdponcannphboabDoorLnkP
import Derived.Test.YtdponcannphboabDoorLnkQ
import Derived.Test.YtdponcannphboabDoorEmp
import Derived.Test.YtdponcannphboabDoorMark
import Derived.Laws.Concat
namespace Go.Proofs.YtdponcannphboabDoor
open Go.ChangeShapes Go.WideShapes Go.ChangeAt Go.RowKit
set_option linter.unusedVariables false

/-- What MakeBlock returns. -/
def makeT (s : ByteArray) : ByteArray := if s.size = 0 ∨ 200 < s.size then ⟨#[]⟩ else markT ++ bodyT s
theorem makeT_size (s : ByteArray) (h0 : 0 < s.size) (h : s.size ≤ 200) : (makeT s).size = 4 + 2 * s.size := by
  unfold makeT
  rw [if_neg (by omega), ByteArray.size_append, bodyT_size]
  rfl

set_option maxHeartbeats 2000000 in
theorem make_impl (s : ByteArray) (hs : s.size ≤ 1048576) (w : World) (ht : BitW w) :
    Calls Tryd.prog 10 #[.string s] w fun e w' => e = .returned (.string (makeT s)) ∧ Below w.heap.size w w' := by
  have HT := Lib.hid (fun W (hb : Below w.heap.size w W) => ht.more hb)
  clear ht
  by_cases h0 : s.size = 0
  · have HV := Lib.hid (show makeT s = ⟨#[]⟩ by unfold makeT; rw [if_pos (Or.inl h0)])
    have d0 := text_none s h0
    go_enter Tryd.func10, Tryd.ntmps10
    go_wp2
    go_ret
    exact ⟨by rw [HV.out]; rfl, Below.refl _ _⟩
  · have d0 := text_full s (by omega)
    by_cases hbig : 200 < s.size
    · have HV := Lib.hid (show makeT s = ⟨#[]⟩ by unfold makeT; rw [if_pos (Or.inr hbig)])
      have d : decide ((200 : Int) < (s.size : Int)) = true := by simp; omega
      go_enter Tryd.func10, Tryd.ntmps10
      go_wp2
      go_ret
      exact ⟨by rw [HV.out]; rfl, Below.refl _ _⟩
    · have d : decide ((200 : Int) < (s.size : Int)) = false := by simp; omega
      have HV := Lib.hid (show makeT s = markT ++ bodyT s by unfold makeT; rw [if_neg (by omega)])
      have H1 := Lib.hid (block_impl s hs)
      have z1 := encT_size s
      have z2 := spreadT_size (encT s)
      have z3 := bodyT_size s
      have H2 := Lib.hid (spread_impl (encT s) (by omega))
      have H3 := Lib.hid (scram_impl (spreadT (encT s)) (by omega))
      have HB := Lib.hid (show scrT (spreadT (encT s)) = bodyT s from rfl)
      have HE := Lib.hid (show encS s = encT s by unfold encS; rw [if_pos (by omega)])
      have zm : (⟨#[26, 207, 252, 29]⟩ : ByteArray).size = 4 := rfl
      go_enter Tryd.func10, Tryd.ntmps10
      go_wp2_with fail
      refine (H1.out _ (HT.out _ (Below.refl _ _))).mono ?_
      rintro e w1 ⟨rfl, hb1⟩
      rw [HE.out]
      go_wp2_with fail
      refine (H2.out _).mono ?_
      rintro e w2 ⟨rfl, hb2⟩
      go_wp2_with fail
      refine (H3.out _).mono ?_
      rintro e w3 ⟨rfl, hb3⟩
      rw [HB.out]
      generalize bodyT s = r at *
      go_wp2
      go_ret
      exact ⟨by rw [HV.out]; rfl, (hb1.trans (hb2.mono hb1.size)).trans (hb3.mono (Nat.le_trans hb1.size hb2.size))⟩

set_option maxHeartbeats 2000000 in
theorem make_spec (s : ByteArray) (hs : s.size ≤ 1048576) (w : World) :
    Calls Tryd.prog 9 #[.string s] w fun e w' => e = .returned (.string (makeT s)) ∧ Below w.heap.size w w' := by
  by_cases h0 : s.size = 0
  · have HV := Lib.hid (show makeT s = ⟨#[]⟩ by unfold makeT; rw [if_pos (Or.inl h0)])
    have d0 := text_none s h0
    go_enter Tryd.func9, Tryd.ntmps9
    go_wp2
    go_ret
    exact ⟨by rw [HV.out]; rfl, Below.refl _ _⟩
  · have d0 := text_full s (by omega)
    by_cases hbig : 200 < s.size
    · have HV := Lib.hid (show makeT s = ⟨#[]⟩ by unfold makeT; rw [if_pos (Or.inr hbig)])
      have d : decide ((200 : Int) < (s.size : Int)) = true := by simp; omega
      go_enter Tryd.func9, Tryd.ntmps9
      go_wp2
      go_ret
      exact ⟨by rw [HV.out]; rfl, Below.refl _ _⟩
    · have d : decide ((200 : Int) < (s.size : Int)) = false := by simp; omega
      have HV := Lib.hid (show makeT s = markT ++ bodyT s by unfold makeT; rw [if_neg (by omega)])
      have H1 := Lib.hid (block_spec s hs)
      have z1 := encT_size s
      have z2 := spreadT_size (encT s)
      have z3 := bodyT_size s
      have H2 := Lib.hid (spread_spec (encT s) (by omega))
      have H3 := Lib.hid (scram_spec (spreadT (encT s)) (by omega))
      have HB := Lib.hid (show scrT (spreadT (encT s)) = bodyT s from rfl)
      have HE := Lib.hid (show encS s = encT s by unfold encS; rw [if_pos (by omega)])
      have zm : (⟨#[26, 207, 252, 29]⟩ : ByteArray).size = 4 := rfl
      go_enter Tryd.func9, Tryd.ntmps9
      go_wp2_with fail
      refine (H1.out _).mono ?_
      rintro e w1 ⟨rfl, hb1⟩
      rw [HE.out]
      go_wp2_with fail
      refine (H2.out _).mono ?_
      rintro e w2 ⟨rfl, hb2⟩
      go_wp2_with fail
      refine (H3.out _).mono ?_
      rintro e w3 ⟨rfl, hb3⟩
      rw [HB.out]
      generalize bodyT s = r at *
      go_wp2
      go_ret
      exact ⟨by rw [HV.out]; rfl, (hb1.trans (hb2.mono hb1.size)).trans (hb3.mono (Nat.le_trans hb1.size hb2.size))⟩
end Go.Proofs.YtdponcannphboabDoor
