/- What this text proves: the law of FnExactTakeRecords: the program and the model answer alike, for every recorder and number; the argument stays; the answers own their memory. -/
import Derived.Test.YtebfefkknaalpabSTkr
import Derived.Test.YtebfefkknaalpabITkr
import Derived.Test.YtebfefkknaalpabTQ
import Derived.Deep.RegionHeld3
import Derived.Deep.Cut
import Derived.Deep.CutRange
namespace Go.Proofs.Ytebfefkknaalpab
open Go.ChangeShapes Go.WideShapes Go.ChangeAt Go.RowKit
set_option linter.unusedVariables false

theorem totRc_drop_le (l : List Rc) : ∀ (K : Nat), (l.drop K).length ≤ l.length := fun K => by rw [List.length_drop]; omega

set_option maxRecDepth 20000 in
set_option maxHeartbeats 8000000 in
theorem law_takerecords (r : Int) (A : Option Addr) (l : List Rc) (c : Nat) (A2 : Option Addr) (d : List Int) (c2 : Nat) (n : Int) (hl : l.length ≤ maxLen) (hs0 : ∀ j (hj : j < l.length), l[j].2.2.2.size ≤ maxLen) (hd : d.length ≤ maxLen) (_ : -9223372036854775808 ≤ n ∧ n ≤ 9223372036854775807) (w : World) (h1 : LsI 4 w w.heap.size A (l.map rcC)) (h2 : LsI 1 w w.heap.size A2 (d.map inC)) :
    Calls Try.prog 5 #[roV r (.slice A l.length c) (.slice A2 d.length c2), .int .i64 n] w fun e w' => e = .returned (.bool true) ∧ Below w.heap.size w w' := by
  have F0 := Fit.made w (roL r (.slice A l.length c) (.slice A2 d.length c2)) 25
  have hs := sz_ro r A A2 l d c c2 1048576 hl hs0 hd (Nat.le_refl _) _ (h1.full F0.below)
  by_cases hL : l.length + totRc l l.length + d.length ≤ 1048576
  · have HT := Lib.hid (fun W (hb : Below w.heap.size w W) => to_ro r A A2 l d c c2 (by omega) (by omega) W (h1.full hb) (h2.full hb))
    have hx : ∀ v W B, OwnRo W B v r l d → Calls Try.prog 20 #[v, .int .i64 n] W fun e w' => TkrEnd W e w' r l d (tkrK r l d n) := fun v W B ho => by
      obtain ⟨A5, c5, B5, e5, rfl, q1, q2, _⟩ := ho.form
      exact tkr_spec r A5 B5 l d c5 e5 (LsO.cap q1 _ _ _ rfl) n (by omega) (by omega) (by omega) W (LsO.ats q1) (LsO.ats q2)
    have hy : ∀ v W B, OwnRo W B v r l d → Calls Try.prog 21 #[v, .int .i64 n] W fun e w' => TkrEnd W e w' r l d (tkrK r l d n) := fun v W B ho => by
      obtain ⟨A5, c5, B5, e5, rfl, q1, q2, _⟩ := ho.form
      exact tkr_impl r A5 B5 l d c5 e5 (LsO.cap q1 _ _ _ rfl) n (by omega) (by omega) (by omega) W (LsO.ats q1) (LsO.ats q2)
    obtain ⟨L, hLe⟩ : ∃ L, l.drop (tkrK r l d n) = L := ⟨_, rfl⟩
    obtain ⟨T, hTe⟩ : ∃ T, l.take (tkrK r l d n) = T := ⟨_, rfl⟩
    have hLl : L.length ≤ 1048576 := by rw [← hLe, List.length_drop]; omega
    have hTl : T.length ≤ 1048576 := by rw [← hTe, List.length_take]; omega
    have hld : l.length ≤ 1048576 ∧ d.length ≤ 1048576 := by omega
    simp only [TkrEnd, hLe, hTe] at hx hy
    have HX := Lib.hid hx
    have HY := Lib.hid hy
    have HE := Lib.hid (fun v1 v2 b1 b2 W => eq_ro r l d (by omega) (by omega) v1 v2 b1 b2 W)
    have HER := Lib.hid (fun v1 v2 b1 b2 W => eq_ro r L d (by omega) (by omega) v1 v2 b1 b2 W)
    have HEU := Lib.hid (fun v1 v2 b1 b2 W => eqRc_any W b1 b2 v1 v2 T (by omega))
    have HMX := Lib.hid (fun v base W => mark_ro r l d (by omega) (by omega) v base 1 (Nat.le_refl _) (by omega) W)
    have HMG := Lib.hid (fun v base W => mark_ro r L d (by omega) (by omega) v base 1 (Nat.le_refl _) (by omega) W)
    have HMU := Lib.hid (fun v base W (ho : OwnRc W base v T) => (markRc_any W base v (T.map rcC) (by rw [List.length_map]; omega) (1 + 4 * L.length + d.length) (by omega) (by omega) ho).mono fun e w' hh => (show e = .returned (.int .i64 ((1 + 4 * L.length + d.length + 4 * T.length : Nat) : Int)) ∧ Touch W w' (fun k => v.ownBlock = some k) ∧ LsO 4 w' base v ((List.range T.length).map (mkRc (1 + 4 * L.length + d.length))) from by
      rw [List.length_map] at hh
      exact ⟨by rw [hh.1]; congr 2, Touch.of_grown hh.2.1, hh.2.2⟩))
    have HHG := Lib.hid (fun v base W => held_ro L.length d.length (by omega) (by omega) v base 1 (Nat.le_refl _) (by omega) W)
    have HHU := Lib.hid (fun v base W (ho : LsO 4 W base v ((List.range T.length).map (mkRc (1 + 4 * L.length + d.length)))) => (heldRc_any W base (1 + 4 * L.length + d.length) v T.length (by omega) ho (by omega) (by omega)).mono fun e w' hh => (show e = .returned (.int .i64 ((1 + 4 * L.length + d.length + 4 * T.length : Nat) : Int)) ∧ Below W.heap.size W w' from ⟨by rw [hh.1]; congr 2, hh.2⟩))
    obtain ⟨kx, hkx⟩ : ∃ k, ((1 + 4 * l.length + d.length : Nat) : Int) = k := ⟨_, rfl⟩
    obtain ⟨kg, hkg⟩ : ∃ k, ((1 + 4 * L.length + d.length : Nat) : Int) = k := ⟨_, rfl⟩
    obtain ⟨ku, hku⟩ : ∃ k, ((1 + 4 * L.length + d.length + 4 * T.length : Nat) : Int) = k := ⟨_, rfl⟩
    have hkx0 : decide (kx < 0) = false := decide_eq_false (by omega)
    have hkg0 : decide (kg < 0) = false := decide_eq_false (by omega)
    have hku0 : decide (ku < 0) = false := decide_eq_false (by omega)
    have hkuu : (ku != ku) = false := by simp
    simp only [hkx] at HMX
    simp only [hkg] at HMG HHG HMU HHU
    simp only [hku] at HMU HHU
    simp only [if_pos hL] at hs
    have hd0 : decide (((1048576 - (l.length + totRc l l.length + d.length) : Nat) : Int) < 0) = false := decide_eq_false (by omega)
    generalize ((1048576 - (l.length + totRc l l.length + d.length) : Nat) : Int) = LE at *
    have HS := Lib.hid hs
    clear hs h1 h2 hs0 hx hy hLe hTe hLl hTl hkx hkg hku
    go_enter Try.func5, Try.ntmps5
    go_wp2_with fail
    refine HS.out.mono ?_
    rintro e w1 ⟨rfl, hb1⟩
    have F1 := Lib.hid (F0.more hb1)
    obtain ⟨k0, k1, k2⟩ := F1.out.box.threeQ
    have hz1 : w.heap.size + 1 ≤ w1.heap.size := F1.out.box.lt
    clear hb1 F0
    go_wp2_with fail
    refine (HT.out _ F1.out.below).mono ?_
    rintro e w2 ⟨v2, rfl, ho2, hb2⟩
    have F2 := Lib.hid (F1.out.more hb2)
    have hz2 := hb2.size
    have HX2 := Lib.hid (HX.out v2 w2 _ ho2)
    clear hb2 k0 k1 k2 ho2
    go_wp2_with fail
    refine HX2.out.mono ?_
    rintro e w3 ⟨vw, uw, rfl, how, hou, hsw, hb3⟩
    obtain ⟨Aw, cw, Bw, ew, rfl, _, _, _⟩ := id how.form
    have hz3 := hb3.size
    have F3 := Lib.hid ((F2.out.more hb3).more ((Below.refl _ _).alloc (Nat.le_refl _) (.cells (roL r (.slice Aw L.length cw) (.slice Bw d.length ew)).toArray 30)))
    have KW := Lib.hid (fun k (hk : blkRo (roV r (.slice Aw L.length cw) (.slice Bw d.length ew)) k) => (how.blk hk).2)
    have KW2 := Lib.hid (fun k (hk : uw.ownBlock = some k) => (LsO.up hou k hk).2)
    have O3 := Lib.hid (OwnRo.more how ((Below.refl _ _).alloc (Nat.le_refl _) (.cells (roL r (.slice Aw L.length cw) (.slice Bw d.length ew)).toArray 30)))
    have P3 := Lib.hid (LsO.more hou ((Below.refl _ _).alloc (Nat.le_refl _) (.cells (roL r (.slice Aw L.length cw) (.slice Bw d.length ew)).toArray 30)))
    have W3 := Lib.hid (Box.made w3 (roL r (.slice Aw L.length cw) (.slice Bw d.length ew)) 30 w3.heap.size rfl)
    clear hb3 how hou hsw HX2
    obtain ⟨k0, k1, k2⟩ := F3.out.box.threeQ
    go_wp2_with fail
    refine (HT.out _ F3.out.below).mono ?_
    rintro e w4 ⟨vx, rfl, hox, hb4⟩
    obtain ⟨Ax, cx, Bx, ex, rfl, _, _, _⟩ := id hox.form
    have hz4 : w3.heap.size + 1 ≤ w4.heap.size := by have := hb4.size; simpa using this
    have hal := (Below.refl w4.heap.size w4).alloc (Nat.le_refl _) (.cells (roL r (.slice Ax l.length cx) (.slice Bx d.length ex)).toArray 30)
    have F4 := Lib.hid ((F3.out.more hb4).more hal)
    have W4 := Lib.hid ((W3.out.more hb4).more hal)
    have O4 := Lib.hid ((O3.out.more hb4).more hal)
    have P4 := Lib.hid (LsO.more (LsO.more P3.out hb4) hal)
    have X4 := Lib.hid (Box.made w4 (roL r (.slice Ax l.length cx) (.slice Bx d.length ex)) 30 w4.heap.size rfl)
    have KX := Lib.hid (fun k (hk : blkRo (roV r (.slice Ax l.length cx) (.slice Bx d.length ex)) k) => hox.blk hk)
    have OX4 := Lib.hid (hox.more hal)
    have HY4 := Lib.hid (HY.out _ _ _ OX4.out)
    clear hb4 hox hal k0 k1 k2 W3 O3 P3 F3
    obtain ⟨k0, k1, k2⟩ := X4.out.threeQ
    go_wp2_with fail
    refine HY4.out.mono ?_
    rintro e w5 ⟨vg, ug, rfl, hog, hov, hsg, hb5⟩
    obtain ⟨Ag, cg, Bg, eg, rfl, _, _, _⟩ := id hog.form
    have hz5 : w4.heap.size + 1 ≤ w5.heap.size := by have := hb5.size; simpa using this
    have hal := (Below.refl w5.heap.size w5).alloc (Nat.le_refl _) (.cells (roL r (.slice Ag L.length cg) (.slice Bg d.length eg)).toArray 30)
    have hsx : (w4.alloc (.cells (roL r (.slice Ax l.length cx) (.slice Bx d.length ex)).toArray 30)).heap.size = w4.heap.size + 1 := by simp
    have F5 := (F4.out.more hb5).more hal
    have Q5 := Lib.hid (show TQ w (w5.alloc (.cells (roL r (.slice Ag L.length cg) (.slice Bg d.length eg)).toArray 30)) (w.heap.size + 1) (w3.heap.size + 1) (w4.heap.size + 1) w3.heap.size w4.heap.size w5.heap.size (roL r (.slice A l.length c) (.slice A2 d.length c2)) (roL r (.slice Aw L.length cw) (.slice Bw d.length ew)) (roL r (.slice Ax l.length cx) (.slice Bx d.length ex)) (roL r (.slice Ag L.length cg) (.slice Bg d.length eg)) (roV r (.slice Aw L.length cw) (.slice Bw d.length ew)) uw (roV r (.slice Ax l.length cx) (.slice Bx d.length ex)) (roV r (.slice Ag L.length cg) (.slice Bg d.length eg)) ug r l L T d d from
      ⟨F5.below, by omega, F5.box, (W4.out.more hb5).more hal, (X4.out.more hb5).more hal, Box.made w5 _ _ _ rfl,
        OwnRo.lower ((O4.out.more hb5).more hal) (by omega), LsO.lower (LsO.more (LsO.more P4.out hb5) hal) (by omega), fun j hj => by have := KW.out j hj; omega, fun j hj => by have := KW2.out j hj; omega,
        OwnRo.lower ((OX4.out.more hb5).more hal) (by simp), fun j hj => by have := (KX.out j hj).2; omega,
        OwnRo.lower (hog.more hal) (Nat.le_of_eq hsx.symm), LsO.lower (LsO.more hov hal) (Nat.le_of_eq hsx.symm), hsg, by omega, by omega, by omega, by omega, by omega,
        fun e => by have := (hog.blk e).2; omega, fun e => by have := (LsO.up hov _ e).2; omega, fun e => by have := (KX.out _ e).2; omega⟩)
    clear hb5 hog hov hsg hal hsx k0 k1 k2 W4 O4 P4 X4 OX4 HY4 F4 F5 KW KW2 KX
    obtain ⟨g0, g1, g2⟩ := Q5.out.bg.threeQ
    obtain ⟨m0, m1, m2⟩ := Q5.out.bw.threeQ
    have HE5 := Lib.hid (HER.out _ _ _ _ _ Q5.out.og Q5.out.ow)
    go_wp2_with fail
    refine HE5.out.mono ?_
    rintro e w6 ⟨rfl, hb6⟩
    have Q6 := Lib.hid (Q5.out.more hb6)
    clear hb6 g0 g1 g2 m0 m1 m2 Q5 HE5
    have HE6 := Lib.hid (HEU.out _ _ _ _ _ Q6.out.og2 Q6.out.ow2)
    go_wp2_with fail
    refine HE6.out.mono ?_
    rintro e w6b ⟨rfl, hb6⟩
    have P6 := Lib.hid ((Q6.out.more hb6).more (Below.refl _ _).drew)
    clear hb6 Q6 HE6
    generalize w3.heap.size = gw at *
    generalize w4.heap.size = gx at *
    generalize w5.heap.size = gg at *
    obtain ⟨k0, k1, k2⟩ := P6.out.ba.threeQ
    obtain ⟨m0, m1, m2⟩ := P6.out.bx.threeQ
    have HT6 := Lib.hid ((HT.out _ P6.out.below).mono fun e w' h => (show ∃ v, e = .returned v ∧ OwnRo w' w.heap.size v r l d ∧ Below w6b.drew.heap.size w6b.drew w' ∧ Cells3Q w' w.heap.size (.int .i64 r) (.slice A l.length c) (.slice A2 d.length c2) ∧ Cells3Q w' gx (.int .i64 r) (.slice Ax l.length cx) (.slice Bx d.length ex) from by
      obtain ⟨v, h1, h2, h3⟩ := h
      exact ⟨v, h1, OwnRo.lower h2 P6.out.below.size, h3, (P6.out.more h3).ba.threeQ, (P6.out.more h3).bx.threeQ⟩))
    go_wp2
    go_region_held3 (fun w' => w'.cell? ⟨w.heap.size, 0, none⟩ = some (.int .i64 r) ∧ w'.cell? ⟨w.heap.size, 1, none⟩ = some (.slice A l.length c) ∧ w'.cell? ⟨w.heap.size, 2, none⟩ = some (.slice A2 d.length c2) ∧ w'.cell? ⟨gx, 0, none⟩ = some (.int .i64 r) ∧ w'.cell? ⟨gx, 1, none⟩ = some (.slice Ax l.length cx) ∧ w'.cell? ⟨gx, 2, none⟩ = some (.slice Bx d.length ex)) (first | exact ⟨k0, k1, k2, m0, m1, m2⟩ | exact ⟨l3, l4, l5, l0, l1, l2⟩ | exact ⟨n3, n4, n5, n0, n1, n2⟩)
      (first
        | (go_at_call 11; (with_reducible refine HT6.out.mono ?_); rintro e w7 ⟨v7, rfl, O7, B7, ⟨l3, l4, l5⟩, l0, l1, l2⟩)
        | (go_at_call 13; (with_reducible refine (HE.out _ _ (gw + 1) w.heap.size _ (P6.out.more B7).ox O7).mono ?_); rintro e w8 ⟨rfl, B8⟩; obtain ⟨n0, n1, n2⟩ := ((P6.out.more B7).more B8).bx.threeQ; obtain ⟨n3, n4, n5⟩ := ((P6.out.more B7).more B8).ba.threeQ))
    all_goals
      have P8 := Lib.hid ((P6.out.more B7).more B8)
      clear k0 k1 k2 m0 m1 m2 l0 l1 l2 l3 l4 l5 n0 n1 n2 n3 n4 n5 B7 B8 O7 HT6 P6
      obtain ⟨k0, k1, k2⟩ := P8.out.bx.threeQ
      go_wp2_with fail
      refine (HMX.out _ _ _ P8.out.ox).mono ?_
      rintro e w9 ⟨rfl, ht9, _⟩
      have P9 := Lib.hid (P8.out.markX ht9)
      clear ht9 k0 k1 k2 P8
      obtain ⟨g0, g1, g2⟩ := P9.out.bg.threeQ
      obtain ⟨m0, m1, m2⟩ := P9.out.bw.threeQ
      have HE9 := Lib.hid (HER.out _ _ _ _ _ P9.out.og P9.out.ow)
      go_wp2_with fail
      refine HE9.out.mono ?_
      rintro e w10 ⟨rfl, hb10⟩
      have P10 := Lib.hid (P9.out.more hb10)
      clear hb10 g0 g1 g2 m0 m1 m2 P9 HE9
      have HE10 := Lib.hid (HEU.out _ _ _ _ _ P10.out.og2 P10.out.ow2)
      go_wp2_with fail
      refine HE10.out.mono ?_
      rintro e w10b ⟨rfl, hb10⟩
      have P10b := Lib.hid (P10.out.more hb10)
      clear hb10 P10 HE10
      obtain ⟨g0, g1, g2⟩ := P10b.out.bg.threeQ
      go_wp2_with fail
      refine (HMG.out _ _ _ P10b.out.og).mono ?_
      rintro e w11 ⟨rfl, ht11, hm11⟩
      have P11 := Lib.hid (P10b.out.markG ht11)
      have SEP := Lib.hid (fun k (hk : blkRo (roV r (.slice Ag L.length cg) (.slice Bg d.length eg)) k) => P10b.out.sep k hk)
      have M11 := Lib.hid hm11
      clear ht11 hm11 g0 g1 g2 P10b
      go_wp2_with fail
      refine (HMU.out _ _ _ P11.out.og2).mono ?_
      rintro e w12 ⟨rfl, ht12, hm12⟩
      have P12 := Lib.hid (P11.out.markU ht12)
      have M12 := Lib.hid (M11.out.touch ht12 (fun k hk e => SEP.out k hk e))
      have N12 := Lib.hid hm12
      clear ht12 hm12 P11 M11
      obtain ⟨g0, g1, g2⟩ := P12.out.bg.threeQ
      go_wp2_with fail
      refine (HHG.out _ _ _ M12.out).mono ?_
      rintro e w13 ⟨rfl, hb13⟩
      have P13 := Lib.hid (P12.out.more hb13)
      have M13 := Lib.hid (M12.out.more hb13)
      have N13 := Lib.hid (LsO.more N12.out hb13)
      clear hb13 g0 g1 g2 P12 M12 N12
      go_wp2_with fail
      refine (HHU.out _ _ _ N13.out).mono ?_
      rintro e w14 ⟨rfl, hb14⟩
      have P14 := Lib.hid (P13.out.more hb14)
      have M14 := Lib.hid (M13.out.more hb14)
      have N14 := Lib.hid (LsO.more N13.out hb14)
      clear hb14 P13 M13 N13
      obtain ⟨k0, k1, k2⟩ := P14.out.ba.threeQ
      go_wp2_with fail
      refine (HT.out _ P14.out.below).mono ?_
      rintro e w15 ⟨v15, rfl, ho15, hb15⟩
      have P15 := Lib.hid (P14.out.more hb15)
      have M15 := Lib.hid (M14.out.more hb15)
      have N15 := Lib.hid (LsO.more N14.out hb15)
      have HY15 := Lib.hid (HY.out v15 w15 _ ho15)
      clear hb15 ho15 k0 k1 k2 P14 M14 N14
      go_wp2_with fail
      refine HY15.out.mono ?_
      rintro e w16 ⟨vh, uh, rfl, hoh, hou, _, hb16⟩
      obtain ⟨Ah, ch, Bh, eh, rfl, _, _, _⟩ := id hoh.form
      have hal := (Below.refl w16.heap.size w16).alloc (Nat.le_refl _) (.cells (roL r (.slice Ah L.length ch) (.slice Bh d.length eh)).toArray 30)
      have P16 := Lib.hid ((P15.out.more hb16).more hal)
      have M16 := Lib.hid ((M15.out.more hb16).more hal)
      have N16 := Lib.hid (LsO.more (LsO.more N15.out hb16) hal)
      have O16 := Lib.hid (hoh.more hal)
      have U16 := Lib.hid (LsO.more hou hal)
      have HE16 := Lib.hid (HER.out _ _ _ _ _ O16.out P16.out.ow)
      clear hb16 hoh hou hal P15 M15 N15 HY15
      obtain ⟨m0, m1, m2⟩ := P16.out.bw.threeQ
      go_wp2_with fail
      refine HE16.out.mono ?_
      rintro e w17 ⟨rfl, hb17⟩
      have P17 := Lib.hid (P16.out.more hb17)
      have M17 := Lib.hid (M16.out.more hb17)
      have N17 := Lib.hid (LsO.more N16.out hb17)
      have HE17 := Lib.hid (HEU.out _ _ _ _ _ (LsO.more U16.out hb17) P17.out.ow2)
      clear hb17 m0 m1 m2 P16 M16 N16 O16 U16 HE16
      go_wp2_with fail
      refine HE17.out.mono ?_
      rintro e w18 ⟨rfl, hb18⟩
      have P18 := Lib.hid (P17.out.more hb18)
      have M18 := Lib.hid (M17.out.more hb18)
      have N18 := Lib.hid (LsO.more N17.out hb18)
      clear hb18 P17 M17 N17 HE17
      obtain ⟨g0, g1, g2⟩ := P18.out.bg.threeQ
      go_wp2_with fail
      refine (HHG.out _ _ _ M18.out).mono ?_
      rintro e w19 ⟨rfl, hb19⟩
      have P19 := Lib.hid (P18.out.more hb19)
      have N19 := Lib.hid (LsO.more N18.out hb19)
      clear hb19 g0 g1 g2 P18 M18 N18
      go_wp2_with fail
      refine (HHU.out _ _ _ N19.out).mono ?_
      rintro e w20 ⟨rfl, hb20⟩
      have P20 := Lib.hid (P19.out.more hb20)
      clear hb20 P19 N19
      go_wp2
      go_ret
      exact ⟨rfl, P20.out.below⟩
  · simp only [if_neg hL] at hs
    have HS := Lib.hid hs
    clear hs h1 h2
    go_enter Try.func5, Try.ntmps5
    go_wp2_with fail
    refine HS.out.mono ?_
    rintro e w1 ⟨rfl, hb1⟩
    have F1 := Lib.hid (F0.more hb1)
    clear hb1 F0
    go_wp2
    go_ret
    exact ⟨rfl, F1.out.below⟩
end Go.Proofs.Ytebfefkknaalpab
