/- What this text proves: the law of FnExactOfferCommand: the program and the model answer alike, for every sender and text; the argument stays; the answer owns its memory. -/
import Derived.Test.YtmmedhjmilgnbaaOfr
import Derived.Test.YtmmedhjmilgnbaaSnQ
import Derived.Deep.RegionHeld3
import Derived.Deep.Cut
import Derived.Deep.CutRange
namespace Go.Proofs.Ytmmedhjmilgnbaa
open Go.ChangeShapes Go.WideShapes Go.ChangeAt Go.RowKit
set_option linter.unusedVariables false

set_option maxRecDepth 8000 in
set_option maxHeartbeats 8000000 in
theorem law_offer (n b : Int) (A : Option Addr) (l : List Sn) (k : Nat) (d : Int) (x : ByteArray) (hnw : -9223372036854775808 ≤ n ∧ n ≤ 9223372036854775807) (hl : l.length ≤ maxLen) (hs0 : ∀ j (hj : j < l.length), l[j].2.size ≤ maxLen) (hxm : x.size ≤ maxLen) (w : World) (h : SnsAt w w.heap.size A l) :
    Calls Try.prog 6 #[seV n b (.slice A l.length k) d, .string x] w fun e w' => e = .returned (.bool true) ∧ Below w.heap.size w w' := by
  have F0 := Fit.made w (seL n b (.slice A l.length k) d) 37
  by_cases hxz : x.size ≤ 1048576
  · have dx : decide (1048576 < x.size) = false := by simp; omega
    have dx' : decide ((1048576 : Int) < (x.size : Int)) = false := by simp; omega
    have hs := sz_snd n b d A l k 1048576 hl hs0 (Nat.le_refl _) _ ((h.more ((Below.refl _ w).alloc (Nat.le_refl _) (.cells (seL n b (.slice A l.length k) d).toArray 37))).raise (by simp))
    by_cases hL : l.length + totN l l.length ≤ 1048576
    · have hsz : ∀ j (hj : j < l.length), l[j].2.size ≤ 1100000 := fun j hj => by have := totN_at l hj; omega
      have HT := Lib.hid (fun W (hb : Below w.heap.size w W) => to_snd n b d A l k (by omega) W ((h.more hb).raise hb.size))
      have hx : ∀ A2 c2 W B, OwnN W B (.slice A2 l.length c2) l → Calls Try.prog 29 #[seV n b (.slice A2 l.length c2) d, .string x] W fun e w' => ∃ A1 c1, e = .returned (.tuple #[seV (ofN n b l d x) b (.slice A1 (ofL n b l d x).length c1) d, .bool (ofB n b l d x)]) ∧ OwnN w' W.heap.size (.slice A1 (ofL n b l d x).length c1) (ofL n b l d x) ∧ Below W.heap.size W w' :=
        fun A2 c2 W B ho => offer_spec n b d A2 l c2 x (by omega) hsz (by omega) W ho.ats
      have hy : ∀ A2 c2 W B, OwnN W B (.slice A2 l.length c2) l → Calls Try.prog 30 #[seV n b (.slice A2 l.length c2) d, .string x] W fun e w' => ∃ A1 c1, e = .returned (.tuple #[seV (ofN n b l d x) b (.slice A1 (ofL n b l d x).length c1) d, .bool (ofB n b l d x)]) ∧ OwnN w' W.heap.size (.slice A1 (ofL n b l d x).length c1) (ofL n b l d x) ∧ Below W.heap.size W w' :=
        fun A2 c2 W B ho => offer_impl n b d hnw A2 l c2 x (by omega) hsz (by omega) W ho.ats
      have hLl := ofL_len n b l d x
      generalize ofN n b l d x = N at *
      generalize ofL n b l d x = L at *
      generalize ofB n b l d x = B at *
      have HX := Lib.hid hx
      have HY := Lib.hid hy
      have HE := Lib.hid (fun v1 v2 b1 b2 W => eq_snd n b d l (by omega) v1 v2 b1 b2 W)
      have HER := Lib.hid (fun v1 v2 b1 b2 W => eq_snd N b d L (by omega) v1 v2 b1 b2 W)
      have HMX := Lib.hid (fun v base W => mark_snd n b d l (by omega) v base W)
      have HMG := Lib.hid (fun v base W => mark_snd N b d L (by omega) v base W)
      have HHG := Lib.hid (fun v W => held_snd N b d L.length (by omega) v W)
      obtain ⟨K, hK⟩ : ∃ K, 1 + 2 * (l.length : Int) = K := ⟨_, rfl⟩
      obtain ⟨M, hM⟩ : ∃ M, 1 + 2 * (L.length : Int) = M := ⟨_, rfl⟩
      have hK0 : decide (K < 0) = false := by simp; omega
      have hM0 : decide (M < 0) = false := by simp; omega
      have hMM : (M != M) = false := by simp
      have hBB : (B != B) = false := by simp
      simp only [hK] at HMX
      simp only [hM] at HMG HHG
      simp only [if_pos hL] at hs
      have hd0 : decide (1048576 - ((l.length : Int) + (totN l l.length : Int)) < 0) = false := by simp; omega
      have HS := Lib.hid hs
      clear hs h hs0 hsz hx hy hK hM hLl
      generalize (totN l l.length : Int) = tot at *
      go_enter Try.func6, Try.ntmps6
      go_wp2_with fail
      refine HS.out.mono ?_
      rintro e w1 ⟨rfl, hb1⟩
      have F1 := Lib.hid (F0.more hb1)
      obtain ⟨k0, k1, k2, k3⟩ := F1.out.box.fourS
      have hz1 : w.heap.size + 1 ≤ w1.heap.size := F1.out.box.lt
      clear hb1 F0
      go_wp2_with fail
      refine (HT.out _ F1.out.below).mono ?_
      rintro e w2 ⟨A2, c2, rfl, ho2, hb2⟩
      have F2 := Lib.hid (F1.out.more hb2)
      have hz2 := hb2.size
      have HX2 := Lib.hid (HX.out A2 c2 w2 _ ho2)
      clear hb2 k0 k1 k2 k3 ho2
      go_wp2_with fail
      refine HX2.out.mono ?_
      rintro e w3 ⟨A3, c3, rfl, ho3, hb3⟩
      have hz3 := hb3.size
      have F3 := Lib.hid ((F2.out.more hb3).more ((Below.refl _ _).alloc (Nat.le_refl _) (.cells (seL N b (.slice A3 L.length c3) d).toArray 42)))
      have U3 := Lib.hid (OwnR.upto ho3)
      have O3 := Lib.hid (OwnR.more ho3 ((Below.refl _ _).alloc (Nat.le_refl _) (.cells (seL N b (.slice A3 L.length c3) d).toArray 42)))
      have W3 := Lib.hid (Box.made w3 (seL N b (.slice A3 L.length c3) d) 42 w3.heap.size rfl)
      clear hb3 ho3 HX2
      obtain ⟨k0, k1, k2, k3⟩ := F3.out.box.fourS
      go_wp2_with fail
      refine (HT.out _ F3.out.below).mono ?_
      rintro e w4 ⟨A4, c4, rfl, ho4, hb4⟩
      have hz4 : w3.heap.size + 1 ≤ w4.heap.size := by have := hb4.size; simpa using this
      have F4 := Lib.hid ((F3.out.more hb4).more ((Below.refl _ _).alloc (Nat.le_refl _) (.cells (seL n b (.slice A4 l.length c4) d).toArray 42)))
      have W4 := Lib.hid ((W3.out.more hb4).alloc (.cells (seL n b (.slice A4 l.length c4) d).toArray 42))
      have O4 := Lib.hid (OwnR.more (OwnR.more O3.out hb4) ((Below.refl _ _).alloc (Nat.le_refl _) (.cells (seL n b (.slice A4 l.length c4) d).toArray 42)))
      have X4 := Lib.hid (Box.made w4 (seL n b (.slice A4 l.length c4) d) 42 w4.heap.size rfl)
      have UX4 := Lib.hid (OwnR.upto ho4)
      have OX4 := Lib.hid (OwnR.more ho4 ((Below.refl _ _).alloc (Nat.le_refl _) (.cells (seL n b (.slice A4 l.length c4) d).toArray 42)))
      have HY4 := Lib.hid (HY.out A4 c4 _ _ OX4.out)
      clear hb4 ho4 k0 k1 k2 k3 W3 O3 F3
      obtain ⟨k0, k1, k2, k3⟩ := X4.out.fourS
      go_wp2_with fail
      refine HY4.out.mono ?_
      rintro e w5 ⟨A5, c5, rfl, ho5, hb5⟩
      have hz5 : w4.heap.size + 1 ≤ w5.heap.size := by have := hb5.size; simpa using this
      have F5 := Lib.hid ((F4.out.more hb5).more ((Below.refl _ _).alloc (Nat.le_refl _) (.cells (seL N b (.slice A5 L.length c5) d).toArray 42)))
      have Q5 := Lib.hid (show SQ w (w5.alloc (.cells (seL N b (.slice A5 L.length c5) d).toArray 42)) (w.heap.size + 1) (w3.heap.size + 1) (w4.heap.size + 1) w3.heap.size w4.heap.size w5.heap.size (seL N b (.slice A3 L.length c3) d) (seL n b (.slice A4 l.length c4) d) (seL N b (.slice A5 L.length c5) d) (.slice A3 L.length c3) (.slice A4 l.length c4) (.slice A5 L.length c5) L l L from
        ⟨F5.out.below, by omega, (W4.out.more hb5).alloc _, (X4.out.more hb5).alloc _, Box.made w5 (seL N b (.slice A5 L.length c5) d) _ _ rfl,
          OwnR.lower (OwnR.more (OwnR.more O4.out hb5) ((Below.refl _ _).alloc (Nat.le_refl _) _)) (by omega), fun j hj => by have := (U3.out j hj).2; omega,
          OwnR.lower (OwnR.more (OwnR.more OX4.out hb5) ((Below.refl _ _).alloc (Nat.le_refl _) _)) (by simp), fun j hj => by have := (UX4.out j hj).2; omega,
          OwnR.lower (OwnR.more ho5 ((Below.refl _ _).alloc (Nat.le_refl _) _)) (by simp), by omega, by omega, by omega, by omega, by omega,
          fun e => by have := (UX4.out _ e).2; omega, fun e => by have := (OwnR.upto ho5 _ e).2; omega, by simp; omega⟩)
      clear hb5 ho5 k0 k1 k2 k3 W4 O4 X4 OX4 HY4 F4 U3 UX4
      obtain ⟨g0, g1, g2, g3⟩ := Q5.out.bg.fourS
      obtain ⟨m0, m1, m2, m3⟩ := Q5.out.bw.fourS
      have HE5 := Lib.hid (HER.out _ _ _ _ _ Q5.out.og Q5.out.ow)
      go_wp2_with fail
      refine HE5.out.mono ?_
      rintro e w6 ⟨rfl, hb6⟩
      have F6 := Lib.hid (F5.out.more hb6).drew
      have P6 := Lib.hid ((Q5.out.more hb6).more (Below.refl _ _).drew)
      clear hb6 g0 g1 g2 g3 m0 m1 m2 m3 Q5 HE5 F5
      generalize w3.heap.size = gw at *
      generalize w4.heap.size = gx at *
      generalize w5.heap.size = gg at *
      obtain ⟨k0, k1, k2, k3⟩ := F6.out.box.fourS
      obtain ⟨m0, m1, m2, m3⟩ := P6.out.bx.fourS
      have HT6 := Lib.hid ((HT.out _ F6.out.below).mono fun e w' h => (show ∃ A1 c1, e = .returned (seV n b (.slice A1 l.length c1) d) ∧ OwnN w' w.heap.size (.slice A1 l.length c1) l ∧ Below w6.drew.heap.size w6.drew w' ∧ Cells4S w' w.heap.size (.int .i64 n) (.int .i64 b) (.slice A l.length k) (.int .i64 d) ∧ Cells4S w' gx (.int .i64 n) (.int .i64 b) (.slice A4 l.length c4) (.int .i64 d) from by
        obtain ⟨A1, c1, h1, h2, h3⟩ := h
        exact ⟨A1, c1, h1, OwnR.lower h2 F6.out.below.size, h3, (F6.out.more h3).box.fourS, (P6.out.more h3).bx.fourS⟩))
      go_wp2
      go_region_held3 (fun w' => w'.cell? ⟨w.heap.size, 0, none⟩ = some (.int .i64 n) ∧ w'.cell? ⟨w.heap.size, 1, none⟩ = some (.int .i64 b) ∧ w'.cell? ⟨w.heap.size, 2, none⟩ = some (.slice A l.length k) ∧ w'.cell? ⟨w.heap.size, 3, none⟩ = some (.int .i64 d) ∧ w'.cell? ⟨gx, 0, none⟩ = some (.int .i64 n) ∧ w'.cell? ⟨gx, 1, none⟩ = some (.int .i64 b) ∧ w'.cell? ⟨gx, 2, none⟩ = some (.slice A4 l.length c4) ∧ w'.cell? ⟨gx, 3, none⟩ = some (.int .i64 d)) (first | exact ⟨k0, k1, k2, k3, m0, m1, m2, m3⟩ | exact ⟨l4, l5, l6, l7, l0, l1, l2, l3⟩ | exact ⟨n4, n5, n6, n7, n0, n1, n2, n3⟩)
        (first
          | (go_at_call 22; (with_reducible refine HT6.out.mono ?_); rintro e w7 ⟨A7, c7, rfl, O7, B7, ⟨l4, l5, l6, l7⟩, l0, l1, l2, l3⟩)
          | (go_at_call 24; (with_reducible refine (HE.out _ _ (gw + 1) w.heap.size _ (P6.out.more B7).ox O7).mono ?_); rintro e w8 ⟨rfl, B8⟩; obtain ⟨n0, n1, n2, n3⟩ := ((P6.out.more B7).more B8).bx.fourS; obtain ⟨n4, n5, n6, n7⟩ := ((F6.out.more B7).more B8).box.fourS))
      all_goals
        have P8 := Lib.hid ((P6.out.more B7).more B8)
        have F8 := Lib.hid ((F6.out.more B7).more B8).box
        clear k0 k1 k2 k3 m0 m1 m2 m3 l0 l1 l2 l3 l4 l5 l6 l7 n0 n1 n2 n3 n4 n5 n6 n7 B7 B8 O7 HT6 P6 F6
        obtain ⟨k0, k1, k2, k3⟩ := P8.out.bx.fourS
        go_wp2_with fail
        refine (HMX.out _ _ _ P8.out.ox P8.out.nzx).mono ?_
        rintro e w9 ⟨rfl, hg9, _⟩
        have P9 := Lib.hid (P8.out.markX hg9)
        have F9 := Lib.hid (P8.out.argX F8.out (Nat.lt_succ_self _) hg9)
        clear hg9 k0 k1 k2 k3 P8 F8
        obtain ⟨g0, g1, g2, g3⟩ := P9.out.bg.fourS
        obtain ⟨m0, m1, m2, m3⟩ := P9.out.bw.fourS
        have HE9 := Lib.hid (HER.out _ _ _ _ _ P9.out.og P9.out.ow)
        go_wp2_with fail
        refine HE9.out.mono ?_
        rintro e w10 ⟨rfl, hb10⟩
        have P10 := Lib.hid (P9.out.more hb10)
        have F10 := Lib.hid (F9.out.more hb10)
        clear hb10 g0 g1 g2 g3 m0 m1 m2 m3 P9 F9 HE9
        obtain ⟨g0, g1, g2, g3⟩ := P10.out.bg.fourS
        go_wp2_with fail
        refine (HMG.out _ _ _ P10.out.og P10.out.nz).mono ?_
        rintro e w11 ⟨rfl, hg11, hm11⟩
        have P11 := Lib.hid (P10.out.markG hg11)
        have F11 := Lib.hid (P10.out.argG F10.out (Nat.lt_succ_self _) hg11)
        have M11 := Lib.hid hm11
        clear hg11 hm11 g0 g1 g2 g3 P10 F10
        obtain ⟨g0, g1, g2, g3⟩ := P11.out.bg.fourS
        go_wp2_with fail
        refine (HHG.out _ _ M11.out).mono ?_
        rintro e w12 ⟨rfl, hb12⟩
        have P12 := Lib.hid (P11.out.more hb12)
        have F12 := Lib.hid (F11.out.more hb12)
        have M12 := Lib.hid (M11.out.more hb12)
        clear hb12 g0 g1 g2 g3 P11 F11 M11
        obtain ⟨k0, k1, k2, k3⟩ := F12.out.fourS
        go_wp2_with fail
        refine (HT.out _ P12.out.below).mono ?_
        rintro e w13 ⟨A13, c13, rfl, ho13, hb13⟩
        have P13 := Lib.hid (P12.out.more hb13)
        have M13 := Lib.hid (M12.out.more hb13)
        have HY13 := Lib.hid (HY.out A13 c13 w13 _ ho13)
        clear hb13 ho13 k0 k1 k2 k3 P12 F12 M12
        go_wp2_with fail
        refine HY13.out.mono ?_
        rintro e w14 ⟨A14, c14, rfl, ho14, hb14⟩
        have P14 := Lib.hid ((P13.out.more hb14).more ((Below.refl _ _).alloc (Nat.le_refl _) (.cells (seL N b (.slice A14 L.length c14) d).toArray 42)))
        have M14 := Lib.hid ((M13.out.more hb14).more ((Below.refl _ _).alloc (Nat.le_refl _) (.cells (seL N b (.slice A14 L.length c14) d).toArray 42)))
        have O14 := Lib.hid (OwnR.more ho14 ((Below.refl _ _).alloc (Nat.le_refl _) (.cells (seL N b (.slice A14 L.length c14) d).toArray 42)))
        have HE14 := Lib.hid (HER.out _ _ _ _ _ O14.out P14.out.ow)
        clear hb14 ho14 P13 M13 HY13
        obtain ⟨m0, m1, m2, m3⟩ := P14.out.bw.fourS
        go_wp2_with fail
        refine HE14.out.mono ?_
        rintro e w15 ⟨rfl, hb15⟩
        have P15 := Lib.hid (P14.out.more hb15)
        have M15 := Lib.hid (M14.out.more hb15)
        clear hb15 m0 m1 m2 m3 P14 M14 O14 HE14
        obtain ⟨g0, g1, g2, g3⟩ := P15.out.bg.fourS
        go_wp2_with fail
        refine (HHG.out _ _ M15.out).mono ?_
        rintro e w16 ⟨rfl, hb16⟩
        have P16 := Lib.hid (P15.out.more hb16)
        clear hb16 g0 g1 g2 g3 P15 M15
        go_wp2
        go_ret
        exact ⟨rfl, P16.out.below⟩
    · simp only [if_neg hL] at hs
      have HS := Lib.hid hs
      clear hs h
      go_enter Try.func6, Try.ntmps6
      go_wp2_with fail
      refine HS.out.mono ?_
      rintro e w1 ⟨rfl, hb1⟩
      have F1 := Lib.hid (F0.more hb1)
      clear hb1 F0
      go_wp2
      go_ret
      exact ⟨rfl, F1.out.below⟩
  · have dx : decide (1048576 < x.size) = true := by simp; omega
    have dx' : decide ((1048576 : Int) < (x.size : Int)) = true := by simp; omega
    have F1 := Lib.hid F0
    clear h F0 hxz
    go_enter Try.func6, Try.ntmps6
    go_wp2
    go_ret
    exact ⟨rfl, F1.out.below⟩
end Go.Proofs.Ytmmedhjmilgnbaa
