/- What this text proves: the law that the fields of a line, joined by single spaces, have the same fields returns true for every bytes that it draws from. -/
import Derived.Test.YtkgpjfemlgocoaaDoorFldMath
import Derived.Test.YtkgpjfemlgocoaaDoorFldDraw
import Derived.Test.YtkgpjfemlgocoaaDoorSame
import Derived.Test.YtkgpjfemlgocoaaDoorTab
import Derived.Deep.Cut
import Derived.Deep.CutRange
import Derived.Deep.DeepCutAuto
import Derived.Deep.LoopGhost
namespace Go.Proofs.YtkgpjfemlgocoaaDoor
open Go.ChangeShapes Go.WideShapes Go.ChangeAt Go.RowKit
set_option linter.unusedVariables false

theorem fmt_m3 : fmtB (-3) = ⟨#[45, 51]⟩ := by
  unfold fmtB Lib.itoa
  rw [if_pos (by decide), show ((-3 : Int)).natAbs = 3 from rfl, Lib.decDigits_one (by decide)]
  rfl
/-- What is joined so far. -/
def soFar (l : List ByteArray) (k : Nat) : ByteArray := ofL (joinB (l.take k))
theorem soFar_step (l : List ByteArray) (k : Nat) (hk : k < l.length) : soFar l (k + 1) = (soFar l k ++ l[k]) ++ ⟨#[32]⟩ := by
  have e : l.take (k + 1) = l.take k ++ [l[k]] := by
    rw [List.take_add_one, List.getElem?_eq_getElem hk]
    rfl
  unfold soFar
  refine ByteArray.ext (Array.toList_inj.1 ?_)
  rw [ofL_list, e, joinB_app, joinB_cons, joinB_nil]
  simp [ofL, ByteArray.data_append]
theorem soFar_size (l : List ByteArray) (m : Nat) (h : ∀ t ∈ l, t.size ≤ m) (k : Nat) : (soFar l k).size ≤ l.length * (m + 1) := by
  unfold soFar
  rw [ofL_size]
  refine Nat.le_trans (join_len (l.take k) m (fun t ht => h t (List.mem_of_mem_take ht))) (Nat.mul_le_mul_right _ ?_)
  rw [List.length_take]
  omega

set_option maxHeartbeats 4000000 in
theorem law_fields (A : Option Addr) (n c : Nat) (hm : n ≤ maxLen) (w : World) (hc : CodeOk w w.heap.size A n) (ht : Tab w) :
    Calls Tryd.prog 7 #[.slice A n c] w fun e w' => e = .returned (.bool true) ∧ Below w.heap.size w w' := by
  by_cases hbig : 1048576 < n
  · clear ht
    go_enter Tryd.func7, Tryd.ntmps7
    go_wp2_with (go_at_call 12; refine (big_yes _ _ _ hbig hm _).mono ?_; rintro e w' ⟨rfl, rfl⟩)
    go_ret
    exact ⟨rfl, Below.refl _ _⟩
  · have hn : n ≤ 1048576 := by omega
    have Hd := Lib.hid (draw_line A n c hn w hc)
    have HT := Lib.hid ht
    clear hc hbig ht
    go_enter Tryd.func7, Tryd.ntmps7
    go_wp2_with (go_at_call 12; refine (big_no _ _ _ hn _).mono ?_; rintro e w' ⟨rfl, rfl⟩)
    refine Hd.out.mono ?_
    rintro e w1 ⟨s, hs, rfl, hb1⟩
    have T1 := Lib.hid (HT.out.more hb1)
    have B1 := Lib.hid hb1
    have H1 := Lib.hid (split_spec s (by omega))
    have H2 := Lib.hid (split_impl s (by omega))
    clear hb1
    by_cases hok : SplitOk s
    · rw [splitV_yes hok] at H1 H2
      have HJ := Lib.hid (split_join s hok)
      have HZ := Lib.hid (fun t (h : t ∈ allF s) => Nat.le_trans (all_sizes s t h) hs)
      have hl24 : (allF s).length ≤ 24 := hok.2.2
      clear hok
      generalize allF s = l at *
      go_wp2_with fail
      refine (H2.out _).mono ?_
      rintro e w2 ⟨v, rfl, hv, hb2⟩
      obtain ⟨A2, c2, rfl⟩ := OwnS.form hv
      have O2 := Lib.hid (show OwnS w2 w1.heap.size (.slice A2 l.length c2) l from hv)
      have B2 := Lib.hid (B1.out.trans (hb2.mono B1.out.size))
      clear hb2 hv
      go_wp2_with fail
      refine (H1.out _).mono ?_
      rintro e w3 ⟨v3, rfl, hv3, hb3⟩
      have O3 := Lib.hid (O2.out.more (show Below w2.heap.size w2 w3 from hb3))
      have B3 := Lib.hid (B2.out.trans (hb3.mono B2.out.size))
      clear hb3 hv3 H1 H2
      go_wp2_with fail
      go_loopg [8, 9] l.length (fun g s8 s9 wx => ∃ k : Nat, s8 = .string (soFar l k) ∧ s9 = .int .i64 (k : Int) ∧ k ≤ l.length ∧ g = l.length - k ∧ ∃ d, wx = w3.drewN d)
      case atStart => exact ⟨0, rfl, rfl, by omega, rfl, 0, rfl⟩
      case round =>
        obtain ⟨k, rfl, rfl, hk, rfl, d, rfl⟩ := hrel
        by_cases hlt : k < l.length
        · have hd : decide (k < l.length) = true := by simp; omega
          obtain ⟨g2, c3, hv2, _, _, hcell, _⟩ := O3.out.rowsT (by omega)
          have hck := hcell k hlt
          have hzk := HZ.out l[k] (List.getElem_mem hlt)
          have hst := Lib.hid (soFar_step l k hlt)
          have hsz : (soFar l k).size ≤ 24 * 1001 := Nat.le_trans (soFar_size l 1000 HZ.out k) (Nat.mul_le_mul_right _ hl24)
          obtain ⟨rfl, -, rfl⟩ : A2 = some ⟨g2, 0, none⟩ ∧ l.length = l.length ∧ c2 = c3 := by simpa using hv2
          clear hv2 hcell
          generalize l[k] = t at *
          generalize soFar l k = q at *
          go_wp2_with fail
          go_roundg (l.length - (k + 1))
          case measure => omega
          case rel => exact ⟨k + 1, by rw [hst.out], by go_num, by omega, rfl, d, rfl⟩
        · obtain rfl : k = l.length := by omega
          have hd : decide (l.length < l.length) = false := by simp
          have hsz : (soFar l l.length).size ≤ 24 * 1001 := Nat.le_trans (soFar_size l 1000 HZ.out l.length) (Nat.mul_le_mul_right _ hl24)
          have hw3 : Below w3.heap.size w3 (w3.drewN d) := below_draws (Below.refl _ _) d
          have O4 := Lib.hid (O3.out.more hw3)
          have B4 := Lib.hid (B3.out.trans (hw3.mono B3.out.size))
          have hS : soFar l l.length = ofL (joinB l) := by unfold soFar; rw [List.take_length]
          have hSz : (joinB l).length = (soFar l l.length).size := by rw [hS, ofL_size]
          rw [← hS, hSz] at HJ
          have H4 := Lib.hid (split_impl (soFar l l.length) (by omega) (w3.drewN d))
          clear hw3 hlt hS hSz
          generalize soFar l l.length = S at *
          generalize w3.drewN d = W at *
          clear O3 O2
          by_cases h6 : S.size ≤ 600
          · rw [HJ.out h6] at H4
            have hd6 : decide ((600 : Int) < (S.size : Int)) = false := by simp; omega
            clear h6
            go_wp2_with fail
            refine H4.out.mono ?_
            rintro e w5 ⟨v5, rfl, hv5, hb5⟩
            have O5 := Lib.hid (show OwnS w5 W.heap.size v5 l from hv5)
            have O45 := Lib.hid (O4.out.more (show Below W.heap.size W w5 from hb5))
            have B5 := Lib.hid (B4.out.trans (hb5.mono B4.out.size))
            clear hv5 hb5
            go_wp2_with fail
            refine (same_any _ _ _ _ v5 l (by omega) O45.out O5.out).mono ?_
            rintro e w6 ⟨rfl, d6, hw6⟩
            have B6 := Lib.hid (show Below w.heap.size w w6 by rw [hw6]; exact below_draws B5.out d6)
            clear hw6
            go_wp2
            go_ret
            exact ⟨rfl, B6.out⟩
          · have hd6 : decide ((600 : Int) < (S.size : Int)) = true := by simp; omega
            clear h6
            go_wp2_with fail
            refine H4.out.mono ?_
            rintro e w5 ⟨v5, rfl, hv5, hb5⟩
            have B5 := Lib.hid (B4.out.trans (hb5.mono B4.out.size))
            clear hv5 hb5
            go_wp2
            go_ret
            exact ⟨rfl, B5.out⟩
    · rw [splitV_no hok] at H1 H2
      clear hok
      go_wp2_with fail
      refine (H2.out _).mono ?_
      rintro e w2 ⟨v, rfl, hv, hb2⟩
      obtain ⟨A2, c2, rfl⟩ := OwnS.form hv
      have T2 := Lib.hid (T1.out.more (show Below w1.heap.size w1 w2 from hb2))
      have B2 := Lib.hid (B1.out.trans (hb2.mono B1.out.size))
      clear hb2 hv
      go_wp2_with fail
      refine (H1.out _).mono ?_
      rintro e w3 ⟨v3, rfl, hv3, hb3⟩
      have T3 := Lib.hid (T2.out.more (show Below w2.heap.size w2 w3 from hb3))
      have B3 := Lib.hid (B2.out.trans (hb3.mono B2.out.size))
      have HF := Lib.hid (format_impl (-3) (by decide) (by decide) w3 T3.out)
      rw [fmt_m3] at HF
      clear hb3 hv3
      go_wp2_with fail
      refine HF.out.mono ?_
      rintro e w4 ⟨rfl, hb4⟩
      have B4 := Lib.hid (B3.out.trans (hb4.mono B3.out.size))
      clear hb4
      go_wp2
      go_ret
      exact ⟨rfl, B4.out⟩
end Go.Proofs.YtkgpjfemlgocoaaDoor
