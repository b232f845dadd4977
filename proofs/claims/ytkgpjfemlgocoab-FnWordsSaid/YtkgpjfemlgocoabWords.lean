/- What this text proves: the law that numbers can be read from their words, and that a sealed text with one byte changed cannot be opened, returns true for every bytes that it draws from. -/
import Derived.Test.YtkgpjfemlgocoabCrc
import Derived.Test.YtkgpjfemlgocoabTurn
import Derived.Test.YtkgpjfemlgocoabDraw
import Derived.Test.YtkgpjfemlgocoabOnes
import Derived.Test.YtkgpjfemlgocoabBytes
namespace Go.Proofs.Ytkgpjfemlgocoab
open Go.ChangeShapes Go.WideShapes Go.ChangeAt Go.RowKit
set_option linter.unusedVariables false

theorem putS_four (n : Nat) (h : n < 4294967296) : putS (n : Int) 4 = ⟨(putB n 4).toArray⟩ := by
  unfold putS
  rw [if_pos ⟨by omega, by omega, by omega, by simp; omega⟩]
  rfl
theorem count_half (n : Nat) (h : n < 4294967296) : countN (n : Int) = countN ((n : Int) / 2) + (n : Int) % 2 := by
  rw [countN_in n h, show (n : Int) / 2 = ((n / 2 : Nat) : Int) from by omega, countN_in (n / 2) (by omega)]
  have e1 : ones 32 n = n % 2 + ones 31 (n / 2) := rfl
  have e2 : ones 32 (n / 2) = ones 31 (n / 2) := ones_more 31 (n / 2) (by omega) 32 (by omega)
  omega
theorem count_range (n : Int) : -1 ≤ countN n ∧ countN n ≤ 32 := by
  unfold countN
  have := ones_le 32 n.toNat
  split <;> omega
theorem word_back (n : Nat) (h : n < 4294967296) : valW ((⟨#[120]⟩ ++ ⟨(putB n 4).toArray⟩) ++ ⟨#[121]⟩) 1 4 = n := by
  have e3 := byteN_val n 3
  have e2 := byteN_val n 2
  have e1 := byteN_val n 1
  have e0 := byteN_val n 0
  have hl : (((⟨#[120]⟩ ++ ⟨(putB n 4).toArray⟩) ++ ⟨#[121]⟩ : ByteArray)).data.toList = [120, byteN n 3, byteN n 2, byteN n 1, byteN n 0, 121] := by
    simp [ByteArray.data_append, putB]
  simp only [valW, byteAt, hl]
  simp [e3, e2, e1, e0]
  omega

set_option maxRecDepth 100000 in
set_option maxHeartbeats 4000000 in
theorem law_words (A : Option Addr) (n c : Nat) (hm : n ≤ maxLen) (w : World) (hc : CodeOk w w.heap.size A n) :
    Calls Try.prog 11 #[.slice A n c] w fun e w' => e = .returned (.bool true) ∧ Below w.heap.size w w' := by
  by_cases hbig : 1048576 < n
  · go_enter Try.func11, Try.ntmps11
    go_wp2_with (go_at_call 29; refine (big_yes _ _ _ hbig hm _).mono ?_; rintro e w' ⟨rfl, rfl⟩)
    go_ret
    exact ⟨rfl, Below.refl _ _⟩
  · have hn : n ≤ 1048576 := by omega
    have Ha := Lib.hid (fun (w1 : World) (hb : Below w.heap.size w w1) i hi => at_any w.heap.size A n c hn i hi w1 (hc.more hb))
    have Hd := Lib.hid (draw_bytes A n c hn w hc)
    clear hc hbig
    go_enter Try.func11, Try.ntmps11
    go_wp2_with (go_at_call 29; refine (big_no _ _ _ hn _).mono ?_; rintro e w' ⟨rfl, rfl⟩)
    refine Hd.out.mono ?_
    rintro e w1 ⟨s, hs, rfl, hb1⟩
    have B1 := Lib.hid hb1
    clear hb1
    go_wp2_with fail
    refine (Ha.out _ B1.out 0 (by omega)).mono ?_
    rintro e w' ⟨x0, hx0, rfl, rfl⟩
    go_wp2_with fail
    refine (Ha.out _ B1.out 1 (by omega)).mono ?_
    rintro e w' ⟨x1, hx1, rfl, rfl⟩
    have m1 : (0 : Int) ≤ (x0 : Int) * (x1 : Int) := Int.mul_nonneg (by omega) (by omega)
    have m2 : (x0 : Int) * (x1 : Int) ≤ 255 * 255 := Int.mul_le_mul (by omega) (by omega) (by omega) (by omega)
    go_wp2_with fail
    refine (Ha.out _ B1.out 2 (by omega)).mono ?_
    rintro e w' ⟨x2, hx2, rfl, rfl⟩
    have m3 : (0 : Int) ≤ (x0 : Int) * (x1 : Int) * (x2 : Int) := Int.mul_nonneg m1 (by omega)
    have m4 : (x0 : Int) * (x1 : Int) * (x2 : Int) ≤ 65025 * 255 := Int.mul_le_mul (by omega) (by omega) (by omega) (by omega)
    go_wp2_with fail
    refine (Ha.out _ B1.out 3 (by omega)).mono ?_
    rintro e w' ⟨x3, hx3, rfl, rfl⟩
    go_wp2_with fail
    obtain ⟨N, hN⟩ := Int.eq_ofNat_of_zero_le (show (0 : Int) ≤ (x0 : Int) * (x1 : Int) * (x2 : Int) + (x3 : Int) by omega)
    have hN2 : N < 4294967296 := by omega
    rw [hN]
    clear hN
    have hp := put_impl (N : Int) 4
    rw [putS_four N hN2] at hp
    have hb := word_back N hN2
    have hsz : (⟨(putB N 4).toArray⟩ : ByteArray).size = 4 := by show (putB N 4).toArray.size = 4; simp [putB_len]
    generalize (⟨(putB N 4).toArray⟩ : ByteArray) = W at *
    refine (hp _).mono ?_
    rintro e w2 ⟨rfl, hb2⟩
    clear hp
    have B2 := Lib.hid (B1.out.trans (hb2.mono B1.out.size))
    clear hb2
    have hS : (((⟨#[120]⟩ ++ W) ++ ⟨#[121]⟩ : ByteArray)).size = 6 := by
      simp [hsz]
      rfl
    have hget := Lib.hid (fun w' : World => get_yes_impl ((⟨#[120]⟩ ++ W) ++ ⟨#[121]⟩) 1 4 (by decide) (by decide) (by omega) (by unfold maxLen; omega) w')
    have hno := Lib.hid (fun w' : World => get_no_impl W 1 4 (by decide) (by unfold maxLen; omega) (by unfold GetOk; omega) w')
    rw [hb] at hget
    clear hb
    have hl4 : ((W.size : Int) == 4) = true := by rw [hsz]; rfl
    have hW0 := Lib.hid hsz
    clear hS
    go_wp2_with fail
    refine (hget.out _).mono ?_
    rintro e w' ⟨rfl, rfl⟩
    clear hget
    go_wp2_with fail
    refine (hno.out _).mono ?_
    rintro e w' ⟨rfl, rfl⟩
    clear hno
    have hT : (sealS s).size = s.size + 2 := sealS_size s
    have hopen : ∀ w', Calls Try.prog 28 #[.string (sealS s)] w' fun e w'' => e = .returned (.tuple #[.string s, .bool true]) ∧ Below w'.heap.size w' w'' := fun w' => by
      have h := open_impl (sealS s) (by omega) w'
      rw [open_seal s] at h
      exact h
    have hturn := fun t j x hj hx ht => open_turned s t j x hj hx ht
    have hseal := seal_impl s (by omega)
    generalize sealS s = T at *
    have HO := Lib.hid hopen
    have HT := Lib.hid hturn
    clear hopen hturn
    go_wp2_with fail
    refine (hseal _).mono ?_
    rintro e w3 ⟨rfl, hb3⟩
    clear hseal
    have B3 := Lib.hid (B2.out.trans (hb3.mono B2.out.size))
    clear hb3
    go_wp2_with fail
    refine (HO.out _).mono ?_
    rintro e w4 ⟨rfl, hb4⟩
    clear HO
    have B4 := Lib.hid (B3.out.trans (hb4.mono B3.out.size))
    clear hb4
    go_wp2_with fail
    refine (Ha.out _ B4.out 4 (by omega)).mono ?_
    rintro e w' ⟨x4, hx4, rfl, rfl⟩
    go_wp2_with fail
    refine (Ha.out _ B4.out 5 (by omega)).mono ?_
    rintro e w' ⟨x5, hx5, rfl, rfl⟩
    go_wp2_with fail
    refine (turn_any T (by omega) (by omega) x4 x5 (by omega) (by omega) _).mono ?_
    rintro e w5 ⟨t, j, x, hj, hx, ht, rfl, hb5⟩
    have B5 := Lib.hid (B4.out.trans (hb5.mono B4.out.size))
    clear hb5
    have hbad : ∀ w', Calls Try.prog 28 #[.string t] w' fun e w'' => e = .returned (.tuple #[.string ⟨#[]⟩, .bool false]) ∧ Below w'.heap.size w' w'' := fun w' => by
      have hts : t.size = T.size := by
        have h := congrArg List.length ht
        rw [List.length_set] at h
        simpa using h
      have h := open_impl t (by omega) w'
      rw [HT.out t j x hj hx ht] at h
      exact h
    have HB := Lib.hid hbad
    clear hbad hj hx ht HT
    go_wp2_with fail
    refine (HB.out _).mono ?_
    rintro e w6 ⟨rfl, hb6⟩
    clear HB
    have B6 := Lib.hid (B5.out.trans (hb6.mono B5.out.size))
    clear hb6
    have hcrc := crc_lt s
    have hcd : decide ((crc s : Int) ≤ 65535) = true := by simp; omega
    have HK := Lib.hid (fun w' : World => check_impl s (by unfold maxLen; omega) w')
    generalize crc s = C at *
    have hc1 := Lib.hid (fun w' : World => count_impl (N : Int) w')
    have hc2 := Lib.hid (fun w' : World => count_impl ((N : Int) / 2) w')
    have hhalf := count_half N hN2
    have hr := count_range ((N : Int) / 2)
    generalize countN (N : Int) = C1 at *
    generalize countN ((N : Int) / 2) = C2 at *
    have hsum : (C1 == C2 + (N : Int) % 2) = true := by simpa using hhalf
    obtain ⟨hr1, hr2⟩ := hr
    clear hhalf
    go_wp2_with fail
    refine (HK.out _).mono ?_
    rintro e w7 ⟨rfl, pos, hw⟩
    have B7 := Lib.hid (B6.out.trans (show Below w.heap.size w6 w7 by rw [hw]; exact (below_iter w6 s pos).mono B6.out.size))
    clear hw HK
    go_wp2_with fail
    refine (hc1.out _).mono ?_
    rintro e w' ⟨rfl, rfl⟩
    go_wp2_with fail
    refine (hc2.out _).mono ?_
    rintro e w' ⟨rfl, rfl⟩
    go_wp2
    go_ret
    exact ⟨rfl, B7.out⟩
end Go.Proofs.Ytkgpjfemlgocoab
