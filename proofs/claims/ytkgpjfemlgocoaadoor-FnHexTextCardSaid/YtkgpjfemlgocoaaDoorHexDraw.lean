/- What this text proves: the drawn text for the hexadecimal law is at most 20001 bytes long; the number ten in decimal is the text 10; and what EncodeHex writes DecodeHex reads back. -/
import Derived.Test.YtkgpjfemlgocoaaDoorLong
import Derived.Test.YtkgpjfemlgocoaaDoorHexe
import Derived.Laws.Strings2
namespace Go.Proofs.YtkgpjfemlgocoaaDoor
open Go.ChangeShapes Go.WideShapes Go.ChangeAt Go.RowKit
set_option linter.unusedVariables false

def DrawnUpto (m : Nat) (w : World) (e : Ending) (w' : World) : Prop := ∃ s : ByteArray, s.size ≤ m ∧ e = .returned (.string s) ∧ Below w.heap.size w w'

set_option maxHeartbeats 1000000 in
theorem draw_hex (A : Option Addr) (n c : Nat) (hn : n ≤ 1048576) (w : World) (hc : CodeOk w w.heap.size A n) :
    Calls Tryd.prog 13 #[.slice A n c] w (DrawnUpto 20001 w) := by
  have Hn := Lib.hid (new_any A n c hn w hc)
  clear hc
  go_enter Tryd.func13, Tryd.ntmps13
  go_wp2_with fail
  refine Hn.out.mono ?_
  rintro e w1 ⟨rfl, hc1, hb1⟩
  have HB := Lib.hid hb1
  clear hb1
  go_wp2_with fail
  refine (once_any _ _ 60 (by decide) hc1).mono ?_
  rintro e w2 ⟨b, rfl, hc2, hg2⟩
  cases b with
  | true =>
    go_wp2_with fail
    refine (below_any _ _ 2 (by decide) hc2).mono ?_
    rintro e w3 ⟨x, hx0, hx1, hx2, rfl, hc3, hg3⟩
    have hx3 := hx1 (by decide)
    clear hx1 hx2
    obtain ⟨m, rfl⟩ := Int.eq_ofNat_of_zero_le hx0
    have hl := long_any w3 (20000 + m) 200 (by omega)
    rw [show ((20000 + m : Nat) : Int) = 20000 + (m : Int) from by omega] at hl
    have HL := Lib.hid hl
    clear hl
    have B3 := Lib.hid (below_of_new HB.out (grown_trans hg2 hg3) (Nat.le_refl _))
    go_wp2_with fail
    refine HL.out.mono ?_
    rintro e w4 ⟨s, hs, rfl, hb4⟩
    go_wp2
    go_ret
    exact ⟨s, by omega, rfl, B3.out.trans (hb4.mono B3.out.size)⟩
  | false =>
    go_wp2_with fail
    refine (below_any _ _ 30 (by decide) hc2).mono ?_
    rintro e w3 ⟨x, hx0, hx1, hx2, rfl, hc3, hg3⟩
    have hx3 := hx1 (by decide)
    clear hx1 hx2
    obtain ⟨m, rfl⟩ := Int.eq_ofNat_of_zero_le hx0
    go_wp2_with fail
    refine (text_any _ _ m (by omega) hc3).mono ?_
    rintro e w4 ⟨s, hs, rfl, hc4, hg4⟩
    go_wp2
    go_ret
    exact ⟨s, by omega, rfl, below_of_new HB.out (grown_trans (grown_trans hg2 hg3) hg4) (Nat.le_refl _)⟩

set_option maxRecDepth 100000 in
theorem small_ten (w : World) : Calls Tryd.prog 46 #[.int .i64 10] w fun e w' => e = .returned (.string ⟨#[49, 48]⟩) ∧ w = w' := by
  go_enter Tryd.func46, Tryd.ntmps46
  go_wp2
  go_ret
  exact ⟨rfl, rfl⟩

theorem format_ten (w : World) : Calls Tryd.prog 39 #[.int .i64 10, .int .i64 10] w fun e w' => e = .returned (.string ⟨#[49, 48]⟩) ∧ w = w' := by
  go_enter Tryd.func39, Tryd.ntmps39
  go_wp2_with fail
  refine (small_ten _).mono ?_
  rintro e w' ⟨rfl, rfl⟩
  go_wp2
  go_ret
  exact ⟨rfl, rfl⟩
theorem itoa_in_ten (w : World) : Calls Tryd.prog 33 #[.int .i64 10] w fun e w' => e = .returned (.string ⟨#[49, 48]⟩) ∧ w = w' := by
  go_enter Tryd.func33, Tryd.ntmps33
  go_wp2_with fail
  refine (format_ten _).mono ?_
  rintro e w' ⟨rfl, rfl⟩
  go_wp2
  go_ret
  exact ⟨rfl, rfl⟩
theorem itoa_ten (w : World) : Calls Tryd.prog 22 #[.int .i64 10] w fun e w' => e = .returned (.string ⟨#[49, 48]⟩) ∧ w = w' := by
  go_enter Tryd.func22, Tryd.ntmps22
  go_wp2_with fail
  refine (itoa_in_ten _).mono ?_
  rintro e w' ⟨rfl, rfl⟩
  go_wp2
  go_ret
  exact ⟨rfl, rfl⟩
theorem fmt_ten (w : World) : Calls Tryd.prog 9 #[.int .i64 10] w fun e w' => e = .returned (.string ⟨#[49, 48]⟩) ∧ w = w' := by
  go_enter Tryd.func9, Tryd.ntmps9
  go_wp2_with fail
  refine (itoa_ten _).mono ?_
  rintro e w' ⟨rfl, rfl⟩
  go_wp2
  go_ret
  exact ⟨rfl, rfl⟩

theorem hexV_fig : ∀ x : Fin 16, hexV (figB x.val).toNat = (x.val : Int) := by decide +kernel
theorem encB_get (s : ByteArray) (n k : Nat) (hk : k < n) : (encB s n).getD (2 * k) 0 = figB (byteAt s k / 16) ∧ (encB s n).getD (2 * k + 1) 0 = figB (byteAt s k % 16) := by
  induction n with
  | zero => omega
  | succ n ih =>
    have hl := encB_len s n
    simp only [encB, List.getD_eq_getElem?_getD] at ih ⊢
    by_cases e : k = n
    · subst e
      rw [List.getElem?_append_right (by omega), List.getElem?_append_right (by omega), hl, show 2 * k - 2 * k = 0 from by omega, show 2 * k + 1 - 2 * k = 1 from by omega]
      exact ⟨rfl, rfl⟩
    · rw [List.getElem?_append_left (by omega), List.getElem?_append_left (by omega)]
      exact ih (by omega)
theorem dec_enc (s : ByteArray) (hs : s.size ≤ 20000) : decV ⟨(encB s s.size).toArray⟩ = (s, true) := by
  have hsz : (⟨(encB s s.size).toArray⟩ : ByteArray).size = 2 * s.size := by
    show (encB s s.size).toArray.size = _
    simp [encB_len]
  have hb : ∀ j, byteAt ⟨(encB s s.size).toArray⟩ j = ((encB s s.size).getD j 0).toNat := fun j => by unfold byteAt; rfl
  have h0 : ∀ k, k < s.size → hexV (byteAt ⟨(encB s s.size).toArray⟩ (2 * k)) = ((byteAt s k / 16 : Nat) : Int) ∧ hexV (byteAt ⟨(encB s s.size).toArray⟩ (2 * k + 1)) = ((byteAt s k % 16 : Nat) : Int) := fun k hk => by
    have hg := encB_get s s.size k hk
    have hlt := byteAt_lt s k
    rw [hb, hb, hg.1, hg.2]
    exact ⟨hexV_fig ⟨byteAt s k / 16, by omega⟩, hexV_fig ⟨byteAt s k % 16, by omega⟩⟩
  have hok : DecOk ⟨(encB s s.size).toArray⟩ := by
    refine ⟨by rw [hsz]; omega, by rw [hsz]; omega, fun k hk => ?_⟩
    rw [hsz] at hk
    have h := h0 k (by omega)
    unfold PairOk
    rw [h.1, h.2]
    exact ⟨by omega, by omega⟩
  have hd : ∀ k, k ≤ s.size → decB ⟨(encB s s.size).toArray⟩ k = s.data.toList.take k := fun k => by
    induction k with
    | zero => intro _; simp [decB]
    | succ k ih =>
      intro hk
      have h := h0 k (by omega)
      have hlt := byteAt_lt s k
      have hsl : s.data.toList.length = s.size := by simp
      have hk2 : k < s.data.toList.length := by omega
      rw [List.take_succ_eq_append_getElem hk2]
      simp only [decB]
      rw [ih (by omega)]
      congr 2
      unfold pairB
      rw [h.1, h.2]
      apply UInt8.toNat_inj.1
      rw [UInt8.toNat_ofNat']
      have hbk : byteAt s k = (s.data.toList[k]).toNat := by
        unfold byteAt
        rw [List.getD_eq_getElem?_getD, List.getElem?_eq_getElem hk2]
        rfl
      rw [← hbk]
      omega
  rw [decV_yes hok, hsz, show 2 * s.size / 2 = s.size from by omega, hd s.size (Nat.le_refl _), List.take_of_length_le (by simp)]

set_option maxHeartbeats 1000000 in
theorem law_hextext (A : Option Addr) (n c : Nat) (hm : n ≤ maxLen) (w : World) (hc : CodeOk w w.heap.size A n) :
    Calls Tryd.prog 5 #[.slice A n c] w fun e w' => e = .returned (.bool true) ∧ Below w.heap.size w w' := by
  by_cases hbig : 1048576 < n
  · go_enter Tryd.func5, Tryd.ntmps5
    go_wp2_with (go_at_call 12; refine (big_yes _ _ _ hbig hm _).mono ?_; rintro e w' ⟨rfl, rfl⟩)
    go_ret
    exact ⟨rfl, Below.refl _ _⟩
  · have hn : n ≤ 1048576 := by omega
    have Hd := Lib.hid (draw_hex A n c hn w hc)
    clear hc hbig
    go_enter Tryd.func5, Tryd.ntmps5
    go_wp2_with (go_at_call 12; refine (big_no _ _ _ hn _).mono ?_; rintro e w' ⟨rfl, rfl⟩)
    refine Hd.out.mono ?_
    rintro e w1 ⟨s, hs, rfl, hb1⟩
    have HE := Lib.hid (fun w' : World => enc_impl s (by omega) w')
    by_cases hl : s.size ≤ 20000
    · have hd : decide ((20000 : Int) < (s.size : Int)) = false := by simp; omega
      rw [encV_yes hl] at HE
      have hsz : (⟨(encB s s.size).toArray⟩ : ByteArray).size = 2 * s.size := by
        show (encB s s.size).toArray.size = _
        simp [encB_len]
      have HD := Lib.hid (fun w' : World => dec_impl ⟨(encB s s.size).toArray⟩ (by omega) w')
      rw [dec_enc s hl] at HD
      generalize (⟨(encB s s.size).toArray⟩ : ByteArray) = h at *
      have hq : ((h.size : Int) == 2 * (s.size : Int)) = true := by rw [hsz]; simp
      clear hsz hl
      go_wp2_with fail
      refine (HE.out _).mono ?_
      rintro e w2 ⟨he, hb2⟩
      unfold retD at he
      subst he
      go_wp2_with fail
      refine (HD.out _).mono ?_
      rintro e w3 ⟨he, hb3⟩
      unfold retD at he
      subst he
      go_wp2
      go_ret
      exact ⟨rfl, hb1.trans ((hb2.mono hb1.size).trans (hb3.mono (Nat.le_trans hb1.size hb2.size)))⟩
    · have hd : decide ((20000 : Int) < (s.size : Int)) = true := by simp; omega
      rw [encV_no hl] at HE
      clear hl
      go_wp2_with fail
      refine (HE.out _).mono ?_
      rintro e w2 ⟨he, hb2⟩
      unfold retD at he
      subst he
      go_wp2_with fail
      refine (fmt_ten _).mono ?_
      rintro e w' ⟨rfl, rfl⟩
      go_wp2
      go_ret
      exact ⟨rfl, hb1.trans (hb2.mono hb1.size)⟩
end Go.Proofs.YtkgpjfemlgocoaaDoor
