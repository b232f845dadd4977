/- What this text proves: the contract of the program's CommandBlocks. -/
import Derived.Test.YtmmedhjmilgnbaaCbk
namespace Go.Proofs.Ytmmedhjmilgnbaa
open Go.ChangeShapes Go.WideShapes Go.ChangeAt Go.RowKit
set_option linter.unusedVariables false

set_option maxHeartbeats 4000000 in
theorem cb_impl (n b d : Int) (A : Option Addr) (l : List Sn) (c : Nat) (hl : l.length ≤ 1100000) (hs : ∀ j (hj : j < l.length), l[j].2.size ≤ 1100000) (w : World) (h : SnsAt w w.heap.size A l) :
    Calls Try.prog 34 #[seV n b (.slice A l.length c) d] w fun e w' => ∃ v, e = .returned v ∧ OwnS w' w.heap.size v (cbL n b l d) ∧ Below w.heap.size w w' := by
  have HI := Lib.hid (fun W (hb : Below w.heap.size w W) => h.more hb)
  have BW := ((Below.refl _ w).alloc (Nat.le_refl _) (.cells (seL n b (.slice A l.length c) d).toArray 42))
  have HS := Lib.hid (so_impl n b d A l c hl hs _ ((h.more BW).raise BW.size))
  have BX := (Box.made w (seL n b (.slice A l.length c) d) 42 _ rfl)
  have HZ := Lib.hid hs
  clear h hs
  cases hsb : snB n b l d with
  | true =>
    rw [hsb] at HS
    have HV := Lib.hid (cbL_yes hsb)
    have HT := Lib.hid (cbk_take l)
    have HE := Lib.hid (show ∀ k (hk : k < l.length), _ from fun k hk W => encC_impl 0 l[k].1 l[k].2 (HZ.out k hk) W)
    clear hsb
    go_enter Try.func34, Try.ntmps34
    go_wp2_with fail
    refine HS.out.mono ?_
    rintro e w1 ⟨rfl, hb1⟩
    have BX1 := (BX.more hb1)
    have BW1 := Lib.hid ((BW.trans (hb1.mono BW.size)).alloc (BW.trans (hb1.mono BW.size)).size (.cells #[] 9))
    have BO1 := Lib.hid (OwnS.empty w1 (w.heap.size + 1) BX1.lt)
    obtain ⟨b0, b1, b2, b3⟩ := BX1.fourS
    have hlt1 := BX1.lt
    clear hb1 BX BW
    go_wp2
    have HLT := Lib.hid hlt1
    clear BX1 b0 b1 b2 b3 hlt1
    go_loopg [3, 13] l.length (fun gh v3 v4 wx => ∃ k : Nat, k ≤ l.length ∧ gh = l.length - k ∧ v4 = .int .i64 (k : Int) ∧ OwnS wx (w.heap.size + 1) v3 (cbk (l.take k)) ∧ w.heap.size + 1 ≤ wx.heap.size ∧ Below w.heap.size w wx)
    case atStart => exact ⟨0, by omega, rfl, rfl, by simpa [cbk] using BO1.out, by have := HLT.out; simp; omega, BW1.out⟩
    case round =>
      obtain ⟨k, hk, rfl, rfl, hown, hsz, hbel⟩ := hrel
      have HO := Lib.hid hown
      have HB := Lib.hid hbel
      by_cases hlt : k < l.length
      · have hd : decide (k < l.length) = true := by simp; omega
        have hd' : decide ((k : Int) < (l.length : Int)) = true := by simp; omega
        rcases HI.out _ hbel with h0 | ⟨bb, off, rfl, hb, hc⟩
        · omega
        · obtain ⟨c0, c1⟩ := hc k hlt
          have HEK := Lib.hid (HE.out k hlt)
          have HTK := Lib.hid (HT.out k hlt)
          have hlen : (cbk (l.take k)).length ≤ 1100000 := by unfold cbk; rw [List.length_map, List.length_take]; omega
          generalize cmT 0 l[k].1 l[k].2 = E at *
          generalize l[k].1 = x at *
          generalize l[k].2 = y at *
          clear hc hown hbel
          go_wp2_with fail
          refine (HEK.out _).mono ?_
          rintro e w2 ⟨rfl, hb2⟩
          have hsz2 : w.heap.size + 1 ≤ w2.heap.size := by have := hb2.size; simp at this; omega
          have HO2 := Lib.hid (OwnS.more (OwnS.more HO.out ((Below.refl _ _).alloc (Nat.le_refl _) (.cells #[.int .i64 x, .string y] 77))) hb2)
          have HB2 := Lib.hid ((HB.out.alloc HB.out.size (.cells #[.int .i64 x, .string y] 77)).trans (hb2.mono (HB.out.alloc HB.out.size _).size))
          clear hb2 c0 c1 HO HB
          go_wp2_with (at_builtin; go_loud (refine app_text w2 rfl _ _ rfl (w.heap.size + 1) u3 (cbk (l.take k)) E rfl HO2.out _ 1 rfl (by omega) hsz2 ?_))
          intro v3 w3 ho3 hb3 hz3
          have HB3 := Lib.hid (HB2.out.trans (hb3.mono (by omega)))
          have HO3 := Lib.hid (show OwnS w3 (w.heap.size + 1) v3 (cbk (l.take (k + 1))) from by rw [HTK.out]; exact ho3)
          have hsz3 : w.heap.size + 1 ≤ w3.heap.size := by omega
          clear hb3 hz3 ho3 HB2 HO2
          go_wp2
          go_roundg (l.length - (k + 1))
          case measure => omega
          case rel => exact ⟨k + 1, by omega, rfl, by go_num, HO3.out, hsz3, HB3.out⟩
      · obtain rfl : k = l.length := by omega
        have hd : decide (l.length < l.length) = false := by simp
        have hd' : decide ((l.length : Int) < (l.length : Int)) = false := by simp
        rw [List.take_of_length_le (Nat.le_refl _)] at hown
        have HO2 := Lib.hid (show OwnS wr w.heap.size u3 (cbL n b l d) from by rw [HV.out]; exact OwnS.lower hown (Nat.le_succ _))
        clear hown hbel HO
        go_wp2
        go_ret
        exact ⟨_, rfl, HO2.out, HB.out⟩
  | false =>
    rw [hsb] at HS
    have HO2 := Lib.hid (show ∀ W, OwnS W w.heap.size (.slice none 0 0) (cbL n b l d) from fun W => by rw [cbL_no hsb]; exact OwnS.nil _ _)
    clear hsb
    go_enter Try.func34, Try.ntmps34
    go_wp2_with fail
    refine HS.out.mono ?_
    rintro e w1 ⟨rfl, hb1⟩
    have HB1 := Lib.hid (BW.trans (hb1.mono BW.size))
    clear hb1 BW
    go_wp2
    go_ret
    exact ⟨_, rfl, HO2.out _, HB1.out⟩
end Go.Proofs.Ytmmedhjmilgnbaa
