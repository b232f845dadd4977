/- What this text proves: the law of FnExactHearNotice: the program and the model answer alike, for every sender and notice; the argument stays; the answer owns its memory. -/
import Derived.Test.YtmmedhjmilgnbabHrS
import Derived.Test.YtmmedhjmilgnbabHrI
import Derived.Test.YtmmedhjmilgnbabHrZ
import Derived.Deep.RegionHeld3
import Derived.Deep.Cut
import Derived.Deep.CutRange
namespace Go.Proofs.Ytmmedhjmilgnbab
open Go.ChangeShapes Go.WideShapes Go.ChangeAt Go.RowKit
set_option linter.unusedVariables false

set_option maxRecDepth 8000 in
set_option maxHeartbeats 8000000 in
theorem law_hear (n b : Int) (A : Option Addr) (l : List Sn) (k : Nat) (d : Int) (x : Int) (p q : Bool) (hl : l.length ≤ maxLen) (hs0 : ∀ j (hj : j < l.length), l[j].2.size ≤ maxLen) (hxw : -9223372036854775808 ≤ x ∧ x ≤ 9223372036854775807) (w : World) (h : SnsAt w w.heap.size A l) :
    Calls Try.prog 5 #[seV n b (.slice A l.length k) d, ntV x p q] w fun e w' => e = .returned (.bool true) ∧ Below w.heap.size w w' := by
  have F0 := FH.made w (seL n b (.slice A l.length k) d) (ntL x p q) 34 23
  have hs := sz_snd n b d A l k 1048576 hl hs0 (Nat.le_refl _) _ ((h.more F0.below).raise F0.below.size)
  by_cases hL : l.length + totN l l.length ≤ 1048576
  · have hsz : ∀ j (hj : j < l.length), l[j].2.size ≤ 1100000 := fun j hj => by have := totN_at l hj; omega
    have HT := Lib.hid (fun W (hb : Below w.heap.size w W) => to_snd n b d A l k (by omega) W ((h.more hb).raise hb.size))
    have HN := Lib.hid (fun W => to_ntc x p q W)
    have hx : ∀ A2 c2 W B, OwnN W B (.slice A2 l.length c2) l → Calls Try.prog 13 #[seV n b (.slice A2 l.length c2) d, ntV x p q] W fun e w' => ∃ A1 c1, e = .returned (seV n b (.slice A1 (heL n b d l x).length c1) (heD n b d l x)) ∧ OwnO w' W.heap.size (.slice A1 (heL n b d l x).length c1) (heL n b d l x) ∧ Below W.heap.size W w' :=
      fun A2 c2 W B ho => hear_spec n b d A2 l c2 x p q (by omega) hsz W B ho
    have hy : ∀ A2 c2 W B, OwnN W B (.slice A2 l.length c2) l → Calls Try.prog 15 #[seV n b (.slice A2 l.length c2) d, ntV x p q] W fun e w' => ∃ A1 c1, e = .returned (seV n b (.slice A1 (heL n b d l x).length c1) (heD n b d l x)) ∧ OwnO w' W.heap.size (.slice A1 (heL n b d l x).length c1) (heL n b d l x) ∧ Below W.heap.size W w' :=
      fun A2 c2 W B ho => hear_impl n b d A2 l c2 x p q (by omega) hsz W B ho
    have hLl := heL_len n b d l x
    generalize heD n b d l x = D at *
    generalize heL n b d l x = L at *
    have HX := Lib.hid hx
    have HY := Lib.hid hy
    have HE := Lib.hid (fun v1 v2 b1 b2 W => eq_snd n b d l (by omega) v1 v2 b1 b2 W)
    have HER := Lib.hid (fun v1 v2 b1 b2 W => eq_sno n b D L (by omega) v1 v2 b1 b2 W)
    have HMX := Lib.hid (fun v base W => mark_snd n b d l (by omega) v base W)
    have HMG := Lib.hid (fun v base W => mark_sno n b D L (by omega) v base W)
    have HHG := Lib.hid (fun v W => held_sno n b D L.length (by omega) v W)
    obtain ⟨K, hK⟩ : ∃ K, 1 + 2 * (l.length : Int) = K := ⟨_, rfl⟩
    obtain ⟨M, hM⟩ : ∃ M, 1 + 2 * (L.length : Int) = M := ⟨_, rfl⟩
    have hK0 : decide (K < 0) = false := by simp; omega
    have hM0 : decide (M < 0) = false := by simp; omega
    have hMM : (M != M) = false := by simp
    simp only [hK] at HMX
    simp only [hM] at HMG HHG
    simp only [if_pos hL] at hs
    have hd0 : decide (1048576 - ((l.length : Int) + (totN l l.length : Int)) < 0) = false := by simp; omega
    have HS := Lib.hid hs
    clear hs h hs0 hsz hx hy hK hM hLl
    generalize (totN l l.length : Int) = tot at *
    go_enter Try.func5, Try.ntmps5
    go_wp2_with fail
    refine HS.out.mono ?_
    rintro e w1 ⟨rfl, hb1⟩
    have F1 := Lib.hid (F0.more hb1)
    have B1 := Lib.hid F1.out.below
    have hz1 : w.heap.size + 2 ≤ w1.heap.size := by have := F1.out.nt.lt; omega
    clear hb1 F0
    go_upto_region 5 with fail
    go_cut [6] from 18 to 22 (fun s6 wx => ∃ (g : Nat) (A2 : Option Addr) (c2 : Nat), s6 = .pointer (some ⟨g, 0, none⟩) ∧ KeptH w1 wx [(w.heap.size, seL n b (.slice A l.length k) d), (w.heap.size + 1, ntL x p q)] g (.slice A2 L.length c2) L (seL n b (.slice A2 L.length c2) D))
    case first =>
      clear HY HE HER HMX HMG HHG
      have ZS0 := (F1.out.zb).h l
      have Z0 := ZS0.drew
      have Z1 := (ZS0.new (seL 0 0 (.slice none 0 0) 0) 38).drew
      have Z2 := Z0.new (seL 0 0 (.slice none 0 0) 0) 38
      have FS := Lib.hid (fun W zo (hz : ZH w1 W [(w.heap.size, seL n b (.slice A l.length k) d), (w.heap.size + 1, ntL x p q)] zo none l) => (HT.out W (B1.out.trans (hz.zb.below.mono B1.out.size))).mono fun e w' hh => (show ∃ A1 c1, e = .returned (seV n b (.slice A1 l.length c1) d) ∧ ZH w1 w' [(w.heap.size, seL n b (.slice A l.length k) d), (w.heap.size + 1, ntL x p q)] zo (some (.slice A1 l.length c1)) l from by
        obtain ⟨A1, c1, h1, h2, h3⟩ := hh
        exact ⟨A1, c1, h1, (hz.zb.more h3).hv h2⟩))
      have FS2 := Lib.hid (fun W zo vo (hz : ZH w1 W [(w.heap.size, seL n b (.slice A l.length k) d), (w.heap.size + 1, ntL x p q)] zo vo l) => (HT.out W (B1.out.trans (hz.zb.below.mono B1.out.size))).mono fun e w' hh => (show ∃ A1 c1, e = .returned (seV n b (.slice A1 l.length c1) d) ∧ ZH w1 w' [(w.heap.size, seL n b (.slice A l.length k) d), (w.heap.size + 1, ntL x p q)] zo (some (.slice A1 l.length c1)) l from by
        obtain ⟨A1, c1, h1, h2, h3⟩ := hh
        exact ⟨A1, c1, h1, (hz.zb.more h3).hv h2⟩))
      have FN := Lib.hid (fun W zo vo (hz : ZH w1 W [(w.heap.size, seL n b (.slice A l.length k) d), (w.heap.size + 1, ntL x p q)] zo vo l) => (HN.out W).mono fun e w' hh => (show e = .returned (ntV x p q) ∧ ZH w1 w' [(w.heap.size, seL n b (.slice A l.length k) d), (w.heap.size + 1, ntL x p q)] zo vo l from ⟨hh.1, hz.more hh.2⟩))
      have FX := Lib.hid (fun W zo A1 c1 (hz : ZH w1 W [(w.heap.size, seL n b (.slice A l.length k) d), (w.heap.size + 1, ntL x p q)] zo (some (.slice A1 l.length c1)) l) => (HX.out A1 c1 W 0 (hz.own _ rfl)).mono fun e w' hh => (show ∃ A2 c2, e = .returned (seV n b (.slice A2 L.length c2) D) ∧ OwnO w' W.heap.size (.slice A2 L.length c2) L ∧ ZB w1 w' [(w.heap.size, seL n b (.slice A l.length k) d), (w.heap.size + 1, ntL x p q)] zo ∧ w1.heap.size ≤ W.heap.size ∧ (∀ z, zo = some z → z.1 < W.heap.size) from by
        obtain ⟨A2, c2, h1, h2, h3⟩ := hh
        exact ⟨A2, c2, h1, h2, hz.zb.more h3, hz.zb.below.size, fun z e => (hz.zb.bz z e).1.lt⟩))
      go_wp2
      go_region_held3 (fun w' => w'.cell? ⟨w.heap.size, 0, none⟩ = some (.int .i64 n) ∧ w'.cell? ⟨w.heap.size, 1, none⟩ = some (.int .i64 b) ∧ w'.cell? ⟨w.heap.size, 2, none⟩ = some (.slice A l.length k) ∧ w'.cell? ⟨w.heap.size, 3, none⟩ = some (.int .i64 d) ∧ w'.cell? ⟨w.heap.size + 1, 0, none⟩ = some (.int .i64 x) ∧ w'.cell? ⟨w.heap.size + 1, 1, none⟩ = some (.bool p) ∧ w'.cell? ⟨w.heap.size + 1, 2, none⟩ = some (.bool q))
        (first | with_reducible exact Z0.two | with_reducible exact Z1.two | with_reducible exact Z2.two | with_reducible exact ZN.two | with_reducible exact (ZN.alloc _).two | with_reducible exact ZS.two | with_reducible exact (ZS.alloc _).two | with_reducible exact ZF.two | with_reducible exact (ZF.alloc _).two | exact (ZF.put (seL n b (.slice A2 L.length c2) D) rfl).two)
        (first
          | (go_at_call 14; (first
              | (with_reducible refine (FS2.out _ _ _ Z0).mono ?_)
              | (with_reducible refine (FS2.out _ _ _ Z1).mono ?_)
              | (with_reducible refine (FS2.out _ _ _ Z2).mono ?_)
              | (with_reducible refine (FS2.out _ _ _ ZN).mono ?_)
              | (with_reducible refine (FS2.out _ _ _ (ZN.new (seL 0 0 (.slice none 0 0) 0) 38)).mono ?_)); rintro e wS ⟨A7, c7, rfl, ZS⟩)
          | (go_at_call 7; (first
              | (with_reducible refine (FN.out _ _ _ ZS).mono ?_)
              | (with_reducible refine (FN.out _ _ _ (ZS.new (seL 0 0 (.slice none 0 0) 0) 38)).mono ?_)
              | (with_reducible refine (FN.out _ _ _ Z0).mono ?_)
              | (with_reducible refine (FN.out _ _ _ Z1).mono ?_)
              | (with_reducible refine (FN.out _ _ _ Z2).mono ?_)); rintro e wN ⟨rfl, ZN⟩)
          | (go_at_call 13; (first
              | (with_reducible refine (FX.out _ _ _ _ ZN).mono ?_)
              | (with_reducible refine (FX.out _ _ _ _ (ZN.new (seL 0 0 (.slice none 0 0) 0) 38)).mono ?_)
              | (with_reducible refine (FX.out _ _ _ _ ZS).mono ?_)
              | (with_reducible refine (FX.out _ _ _ _ (ZS.new (seL 0 0 (.slice none 0 0) 0) 38)).mono ?_)); rintro e wF ⟨A2, c2, rfl, OF, ZF, hbn, hzn⟩; try (have zb := ZF.box.1; obtain ⟨z0, z1, z2, z3⟩ := zb.fourS; have zi := zb.ice)))
      all_goals go_wp2_with fail
      all_goals go_meet
      all_goals (first
        | exact ⟨_, A2, c2, rfl, ZF.finH_made OF hbn (seL n b (.slice A2 L.length c2) D) _⟩
        | exact ⟨_, A2, c2, rfl, ZF.finH_put OF hbn (hzn _ rfl) (seL n b (.slice A2 L.length c2) D) rfl⟩)
    case rest =>
      obtain ⟨gw, A3, c3, rfl, ZK3, OW3, NW3⟩ := hcut
      generalize wc = w3 at *
      have F3 := Lib.hid (F1.out.of ZK3)
      have W3 := Lib.hid ZK3.box.1
      have HWL := ZK3.box.1.lt
      have GW3 := Lib.hid ZK3.box.2
      have O3 := Lib.hid OW3
      have hz3 : w1.heap.size ≤ w3.heap.size := ZK3.below.size
      clear ZK3 OW3 NW3 F1
      obtain ⟨k0, k1, k2, k3⟩ := F3.out.box.fourS
      go_wp2_with fail
      refine (HT.out _ F3.out.below).mono ?_
      rintro e w4 ⟨A4, c4, rfl, ho4, hb4⟩
      have hz4 : w3.heap.size ≤ w4.heap.size := hb4.size
      have F5 := Lib.hid ((F3.out.more hb4).more ((Below.refl _ _).alloc (Nat.le_refl _) (.cells (seL n b (.slice A4 l.length c4) d).toArray 38)))
      have W5 := Lib.hid ((W3.out.more hb4).alloc (.cells (seL n b (.slice A4 l.length c4) d).toArray 38))
      have O5 := Lib.hid ((O3.out.more hb4).more ((Below.refl _ _).alloc (Nat.le_refl _) (.cells (seL n b (.slice A4 l.length c4) d).toArray 38)))
      have U5 := Lib.hid O3.out.up
      have X5 := Lib.hid (Box.made w4 (seL n b (.slice A4 l.length c4) d) 38 w4.heap.size rfl)
      have UX5 := Lib.hid (OwnR.upto ho4)
      have OX5 := Lib.hid (OwnR.more ho4 ((Below.refl _ _).alloc (Nat.le_refl _) (.cells (seL n b (.slice A4 l.length c4) d).toArray 38)))
      have hz5 : (w4.alloc (.cells (seL n b (.slice A4 l.length c4) d).toArray 38)).heap.size = w4.heap.size + 1 := by simp
      have B5 := Lib.hid F5.out.below
      have HW3 := Lib.hid (show gw < w3.heap.size from HWL)
      have hz4' : w3.heap.size ≤ w3.heap.size := Nat.le_refl _
      clear hb4 ho4 k0 k1 k2 k3 W3 O3 F3
      go_upto_region 7 with fail
      replace hz5 := Lib.hid hz5
      generalize w4.alloc (.cells #[.int .i64 n, .int .i64 b, .slice A4 l.length c4, .int .i64 d] 38) = w5 at *
      generalize w4.heap.size = gx at *
      go_cut [8] from 25 to 28 (fun s8 wx => ∃ (g : Nat) (A2 : Option Addr) (c2 : Nat), s8 = .pointer (some ⟨g, 0, none⟩) ∧ KeptH w5 wx [(gx, seL n b (.slice A4 l.length c4) d), (w.heap.size + 1, ntL x p q)] g (.slice A2 L.length c2) L (seL n b (.slice A2 L.length c2) D))
      case first =>
        clear HX HE HER HMX HMG HHG
        have ZS0 := (ZB.start2 X5.out F5.out.nt).hv OX5.out
        have Z0 := ZS0.drew
        have Z1 := (ZS0.new (seL 0 0 (.slice none 0 0) 0) 38).drew
        have Z2 := Z0.new (seL 0 0 (.slice none 0 0) 0) 38
        have FN := Lib.hid (fun W zo vo (hz : ZH w5 W [(gx, seL n b (.slice A4 l.length c4) d), (w.heap.size + 1, ntL x p q)] zo vo l) => (HN.out W).mono fun e w' hh => (show e = .returned (ntV x p q) ∧ ZH w5 w' [(gx, seL n b (.slice A4 l.length c4) d), (w.heap.size + 1, ntL x p q)] zo vo l from ⟨hh.1, hz.more hh.2⟩))
        have FX := Lib.hid (fun W zo A1 c1 (hz : ZH w5 W [(gx, seL n b (.slice A4 l.length c4) d), (w.heap.size + 1, ntL x p q)] zo (some (.slice A1 l.length c1)) l) => (HY.out A1 c1 W 0 (hz.own _ rfl)).mono fun e w' hh => (show ∃ A2 c2, e = .returned (seV n b (.slice A2 L.length c2) D) ∧ OwnO w' W.heap.size (.slice A2 L.length c2) L ∧ ZB w5 w' [(gx, seL n b (.slice A4 l.length c4) d), (w.heap.size + 1, ntL x p q)] zo ∧ w5.heap.size ≤ W.heap.size ∧ (∀ z, zo = some z → z.1 < W.heap.size) from by
          obtain ⟨A2, c2, h1, h2, h3⟩ := hh
          exact ⟨A2, c2, h1, h2, hz.zb.more h3, hz.zb.below.size, fun z e => (hz.zb.bz z e).1.lt⟩))
        go_wp2
        go_region_held3 (fun w' => w'.cell? ⟨gx, 0, none⟩ = some (.int .i64 n) ∧ w'.cell? ⟨gx, 1, none⟩ = some (.int .i64 b) ∧ w'.cell? ⟨gx, 2, none⟩ = some (.slice A4 l.length c4) ∧ w'.cell? ⟨gx, 3, none⟩ = some (.int .i64 d) ∧ w'.cell? ⟨w.heap.size + 1, 0, none⟩ = some (.int .i64 x) ∧ w'.cell? ⟨w.heap.size + 1, 1, none⟩ = some (.bool p) ∧ w'.cell? ⟨w.heap.size + 1, 2, none⟩ = some (.bool q))
          (first | with_reducible exact Z0.two | with_reducible exact Z1.two | with_reducible exact Z2.two | with_reducible exact ZN.two | with_reducible exact (ZN.alloc _).two | with_reducible exact ZF.two | with_reducible exact (ZF.alloc _).two | exact (ZF.put (seL n b (.slice A2 L.length c2) D) rfl).two)
          (first
            | (go_at_call 7; (first
                | (with_reducible refine (FN.out _ _ _ Z0).mono ?_)
                | (with_reducible refine (FN.out _ _ _ Z1).mono ?_)
                | (with_reducible refine (FN.out _ _ _ Z2).mono ?_)); rintro e wN ⟨rfl, ZN⟩)
            | (go_at_call 15; (first
                | (with_reducible refine (FX.out _ _ _ _ ZN).mono ?_)
                | (with_reducible refine (FX.out _ _ _ _ (ZN.new (seL 0 0 (.slice none 0 0) 0) 38)).mono ?_)); rintro e wF ⟨A2, c2, rfl, OF, ZF, hbn, hzn⟩; try (have zb := ZF.box.1; obtain ⟨z0, z1, z2, z3⟩ := zb.fourS; have zi := zb.ice)))
        all_goals go_wp2_with fail
        all_goals go_meet
        all_goals (first
          | exact ⟨_, A2, c2, rfl, ZF.finH_made OF hbn (seL n b (.slice A2 L.length c2) D) _⟩
          | exact ⟨_, A2, c2, rfl, ZF.finH_put OF hbn (hzn _ rfl) (seL n b (.slice A2 L.length c2) D) rfl⟩)
      case rest =>
        obtain ⟨gg, A6, c6, rfl, ZK6, OG6, NG6⟩ := hcut
        generalize wc = w6 at *
        have F6 := Lib.hid (F5.out.more ZK6.below)
        have hz6 := ZK6.below.size
        have hzz := hz5.out
        have Q6 := Lib.hid (show SO w w6 w1.heap.size w3.heap.size (gx + 1) gw gx gg (seL n b (.slice A3 L.length c3) D) (seL n b (.slice A4 l.length c4) d) (seL n b (.slice A6 L.length c6) D) (.slice A3 L.length c3) (.slice A4 l.length c4) (.slice A6 L.length c6) L l L from
          ⟨F6.out.below, by omega, W5.out.more ZK6.below, X5.out.more ZK6.below, ZK6.box.1,
            O5.out.more ZK6.below, fun j hj => (U5.out j hj).2,
            OwnR.lower (OwnR.more OX5.out ZK6.below) hz4', fun j hj => by have := (UX5.out j hj).2; omega,
            OG6.lower (by omega), GW3.out, HW3.out, by omega, by omega, by have := ZK6.box.2; omega,
            fun e => by have := (UX5.out _ e).2; omega, NG6, by omega⟩)
        clear ZK6 OG6 NG6 W5 O5 X5 OX5 F5 U5 UX5
        generalize w1.heap.size = n0 at *
        generalize w3.heap.size = n1 at *
        obtain ⟨g0, g1, g2, g3⟩ := Q6.out.bg.fourS
        obtain ⟨m0, m1, m2, m3⟩ := Q6.out.bw.fourS
        have HE5 := Lib.hid (HER.out _ _ _ _ _ Q6.out.og Q6.out.ow)
        go_wp2_with fail
        refine HE5.out.mono ?_
        rintro e w7 ⟨rfl, hb7⟩
        have F7 := Lib.hid (F6.out.more (hb7.trans (Below.refl _ _).drew))
        have P7 := Lib.hid ((Q6.out.more hb7).more (Below.refl _ _).drew)
        clear hb7 g0 g1 g2 g3 m0 m1 m2 m3 Q6 HE5 F6
        obtain ⟨k0, k1, k2, k3⟩ := F7.out.box.fourS
        obtain ⟨m0, m1, m2, m3⟩ := P7.out.bx.fourS
        have HT7 := Lib.hid ((HT.out _ F7.out.below).mono fun e w' h => (show ∃ A1 c1, e = .returned (seV n b (.slice A1 l.length c1) d) ∧ OwnN w' w.heap.size (.slice A1 l.length c1) l ∧ Below w7.drew.heap.size w7.drew w' ∧ Cells4S w' w.heap.size (.int .i64 n) (.int .i64 b) (.slice A l.length k) (.int .i64 d) ∧ Cells4S w' gx (.int .i64 n) (.int .i64 b) (.slice A4 l.length c4) (.int .i64 d) from by
          obtain ⟨A1, c1, h1, h2, h3⟩ := h
          exact ⟨A1, c1, h1, OwnR.lower h2 F7.out.below.size, h3, (F7.out.more h3).box.fourS, (P7.out.more h3).bx.fourS⟩))
        go_wp2
        go_region_held3 (fun w' => w'.cell? ⟨w.heap.size, 0, none⟩ = some (.int .i64 n) ∧ w'.cell? ⟨w.heap.size, 1, none⟩ = some (.int .i64 b) ∧ w'.cell? ⟨w.heap.size, 2, none⟩ = some (.slice A l.length k) ∧ w'.cell? ⟨w.heap.size, 3, none⟩ = some (.int .i64 d) ∧ w'.cell? ⟨gx, 0, none⟩ = some (.int .i64 n) ∧ w'.cell? ⟨gx, 1, none⟩ = some (.int .i64 b) ∧ w'.cell? ⟨gx, 2, none⟩ = some (.slice A4 l.length c4) ∧ w'.cell? ⟨gx, 3, none⟩ = some (.int .i64 d))
          (first | exact ⟨k0, k1, k2, k3, m0, m1, m2, m3⟩ | exact ⟨l4, l5, l6, l7, l0, l1, l2, l3⟩ | exact ⟨n4, n5, n6, n7, n0', n1', n2', n3'⟩)
          (first
            | (go_at_call 14; (with_reducible refine HT7.out.mono ?_); rintro e w8 ⟨A8, c8, rfl, O8, B8, ⟨l4, l5, l6, l7⟩, l0, l1, l2, l3⟩)
            | (go_at_call 16; (with_reducible refine (HE.out _ _ n1 w.heap.size _ (P7.out.more B8).ox O8).mono ?_); rintro e w9 ⟨rfl, B9⟩; obtain ⟨n0', n1', n2', n3'⟩ := ((P7.out.more B8).more B9).bx.fourS; obtain ⟨n4, n5, n6, n7⟩ := ((F7.out.more B8).more B9).box.fourS))
        all_goals
          have P9 := Lib.hid ((P7.out.more B8).more B9)
          have F9 := Lib.hid ((F7.out.more B8).more B9)
          clear k0 k1 k2 k3 m0 m1 m2 m3 l0 l1 l2 l3 l4 l5 l6 l7 n0' n1' n2' n3' n4 n5 n6 n7 B8 B9 O8 HT7 P7 F7
          obtain ⟨k0, k1, k2, k3⟩ := P9.out.bx.fourS
          go_wp2_with fail
          refine (HMX.out _ _ _ P9.out.ox P9.out.nzx).mono ?_
          rintro e w10 ⟨rfl, hg10, _⟩
          have P10 := Lib.hid (P9.out.markX hg10)
          have F10 := Lib.hid (show FH w w10 _ _ from ⟨P10.out.below, P9.out.argX F9.out.box (by omega) hg10, P9.out.argX F9.out.nt (by omega) hg10⟩)
          clear hg10 k0 k1 k2 k3 P9 F9
          obtain ⟨g0, g1, g2, g3⟩ := P10.out.bg.fourS
          obtain ⟨m0, m1, m2, m3⟩ := P10.out.bw.fourS
          have HE10 := Lib.hid (HER.out _ _ _ _ _ P10.out.og P10.out.ow)
          go_wp2_with fail
          refine HE10.out.mono ?_
          rintro e w11 ⟨rfl, hb11⟩
          have P11 := Lib.hid (P10.out.more hb11)
          have F11 := Lib.hid (F10.out.more hb11)
          clear hb11 g0 g1 g2 g3 m0 m1 m2 m3 P10 F10 HE10
          obtain ⟨g0, g1, g2, g3⟩ := P11.out.bg.fourS
          go_wp2_with fail
          refine (HMG.out _ _ _ P11.out.og P11.out.nz).mono ?_
          rintro e w12 ⟨rfl, hg12, hm12⟩
          have P12 := Lib.hid (P11.out.markG hg12)
          have F12 := Lib.hid (show FH w w12 _ _ from ⟨P12.out.below, P11.out.argG F11.out.box (by omega) hg12, P11.out.argG F11.out.nt (by omega) hg12⟩)
          have M12 := Lib.hid hm12
          clear hg12 hm12 g0 g1 g2 g3 P11 F11
          obtain ⟨g0, g1, g2, g3⟩ := P12.out.bg.fourS
          go_wp2_with fail
          refine (HHG.out _ _ M12.out).mono ?_
          rintro e w13 ⟨rfl, hb13⟩
          have P13 := Lib.hid (P12.out.more hb13)
          have F13 := Lib.hid (F12.out.more hb13)
          have M13 := Lib.hid (M12.out.more hb13)
          have B13 := Lib.hid F13.out.below
          clear hb13 g0 g1 g2 g3 P12 F12 M12
          go_upto_region 24 with fail
          go_cut [12] from 60 to 64 (fun s12 wx => ∃ (g : Nat) (A2 : Option Addr) (c2 : Nat), s12 = .pointer (some ⟨g, 0, none⟩) ∧ KeptH w13 wx [(w.heap.size, seL n b (.slice A l.length k) d), (w.heap.size + 1, ntL x p q)] g (.slice A2 L.length c2) L (seL n b (.slice A2 L.length c2) D))
          case first =>
            clear HX HE HER HMX HMG HHG P13 M13
            have ZS0 := (F13.out.zb).h l
            have Z0 := ZS0.drew
            have Z1 := (ZS0.new (seL 0 0 (.slice none 0 0) 0) 38).drew
            have Z2 := Z0.new (seL 0 0 (.slice none 0 0) 0) 38
            have FS := Lib.hid (fun W zo (hz : ZH w13 W [(w.heap.size, seL n b (.slice A l.length k) d), (w.heap.size + 1, ntL x p q)] zo none l) => (HT.out W (B13.out.trans (hz.zb.below.mono B13.out.size))).mono fun e w' hh => (show ∃ A1 c1, e = .returned (seV n b (.slice A1 l.length c1) d) ∧ ZH w13 w' [(w.heap.size, seL n b (.slice A l.length k) d), (w.heap.size + 1, ntL x p q)] zo (some (.slice A1 l.length c1)) l from by
              obtain ⟨A1, c1, h1, h2, h3⟩ := hh
              exact ⟨A1, c1, h1, (hz.zb.more h3).hv h2⟩))
            have FS2 := Lib.hid (fun W zo vo (hz : ZH w13 W [(w.heap.size, seL n b (.slice A l.length k) d), (w.heap.size + 1, ntL x p q)] zo vo l) => (HT.out W (B13.out.trans (hz.zb.below.mono B13.out.size))).mono fun e w' hh => (show ∃ A1 c1, e = .returned (seV n b (.slice A1 l.length c1) d) ∧ ZH w13 w' [(w.heap.size, seL n b (.slice A l.length k) d), (w.heap.size + 1, ntL x p q)] zo (some (.slice A1 l.length c1)) l from by
              obtain ⟨A1, c1, h1, h2, h3⟩ := hh
              exact ⟨A1, c1, h1, (hz.zb.more h3).hv h2⟩))
            have FN := Lib.hid (fun W zo vo (hz : ZH w13 W [(w.heap.size, seL n b (.slice A l.length k) d), (w.heap.size + 1, ntL x p q)] zo vo l) => (HN.out W).mono fun e w' hh => (show e = .returned (ntV x p q) ∧ ZH w13 w' [(w.heap.size, seL n b (.slice A l.length k) d), (w.heap.size + 1, ntL x p q)] zo vo l from ⟨hh.1, hz.more hh.2⟩))
            have FX := Lib.hid (fun W zo A1 c1 (hz : ZH w13 W [(w.heap.size, seL n b (.slice A l.length k) d), (w.heap.size + 1, ntL x p q)] zo (some (.slice A1 l.length c1)) l) => (HY.out A1 c1 W 0 (hz.own _ rfl)).mono fun e w' hh => (show ∃ A2 c2, e = .returned (seV n b (.slice A2 L.length c2) D) ∧ OwnO w' W.heap.size (.slice A2 L.length c2) L ∧ ZB w13 w' [(w.heap.size, seL n b (.slice A l.length k) d), (w.heap.size + 1, ntL x p q)] zo ∧ w13.heap.size ≤ W.heap.size ∧ (∀ z, zo = some z → z.1 < W.heap.size) from by
              obtain ⟨A2, c2, h1, h2, h3⟩ := hh
              exact ⟨A2, c2, h1, h2, hz.zb.more h3, hz.zb.below.size, fun z e => (hz.zb.bz z e).1.lt⟩))
            go_wp2
            go_region_held3 (fun w' => w'.cell? ⟨w.heap.size, 0, none⟩ = some (.int .i64 n) ∧ w'.cell? ⟨w.heap.size, 1, none⟩ = some (.int .i64 b) ∧ w'.cell? ⟨w.heap.size, 2, none⟩ = some (.slice A l.length k) ∧ w'.cell? ⟨w.heap.size, 3, none⟩ = some (.int .i64 d) ∧ w'.cell? ⟨w.heap.size + 1, 0, none⟩ = some (.int .i64 x) ∧ w'.cell? ⟨w.heap.size + 1, 1, none⟩ = some (.bool p) ∧ w'.cell? ⟨w.heap.size + 1, 2, none⟩ = some (.bool q))
              (first | with_reducible exact Z0.two | with_reducible exact Z1.two | with_reducible exact Z2.two | with_reducible exact ZN.two | with_reducible exact (ZN.alloc _).two | with_reducible exact ZS.two | with_reducible exact (ZS.alloc _).two | with_reducible exact ZF.two | with_reducible exact (ZF.alloc _).two | exact (ZF.put (seL n b (.slice A2 L.length c2) D) rfl).two)
              (first
                | (go_at_call 14; (first
                    | (with_reducible refine (FS2.out _ _ _ Z0).mono ?_)
                    | (with_reducible refine (FS2.out _ _ _ Z1).mono ?_)
                    | (with_reducible refine (FS2.out _ _ _ Z2).mono ?_)
                    | (with_reducible refine (FS2.out _ _ _ ZN).mono ?_)
                    | (with_reducible refine (FS2.out _ _ _ (ZN.new (seL 0 0 (.slice none 0 0) 0) 38)).mono ?_)); rintro e wS ⟨A7, c7, rfl, ZS⟩)
                | (go_at_call 7; (first
                    | (with_reducible refine (FN.out _ _ _ ZS).mono ?_)
                    | (with_reducible refine (FN.out _ _ _ (ZS.new (seL 0 0 (.slice none 0 0) 0) 38)).mono ?_)
                    | (with_reducible refine (FN.out _ _ _ Z0).mono ?_)
                    | (with_reducible refine (FN.out _ _ _ Z1).mono ?_)
                    | (with_reducible refine (FN.out _ _ _ Z2).mono ?_)); rintro e wN ⟨rfl, ZN⟩)
                | (go_at_call 15; (first
                    | (with_reducible refine (FX.out _ _ _ _ ZN).mono ?_)
                    | (with_reducible refine (FX.out _ _ _ _ (ZN.new (seL 0 0 (.slice none 0 0) 0) 38)).mono ?_)
                    | (with_reducible refine (FX.out _ _ _ _ ZS).mono ?_)
                    | (with_reducible refine (FX.out _ _ _ _ (ZS.new (seL 0 0 (.slice none 0 0) 0) 38)).mono ?_)); rintro e wF ⟨A2, c2, rfl, OF, ZF, hbn, hzn⟩; try (have zb := ZF.box.1; obtain ⟨z0, z1, z2, z3⟩ := zb.fourS; have zi := zb.ice)))
            all_goals go_wp2_with fail
            all_goals go_meet
            all_goals (first
              | exact ⟨_, A2, c2, rfl, ZF.finH_made OF hbn (seL n b (.slice A2 L.length c2) D) _⟩
              | exact ⟨_, A2, c2, rfl, ZF.finH_put OF hbn (hzn _ rfl) (seL n b (.slice A2 L.length c2) D) rfl⟩)
          case rest =>
            obtain ⟨ga, A14, c14, rfl, ZK14, OA14, _⟩ := hcut
            generalize wc = w14 at *
            have P14 := Lib.hid (P13.out.more (ZK14.below))
            have M14 := Lib.hid (M13.out.more (ZK14.below))
            have A14b := Lib.hid ZK14.box.1
            have O14 := Lib.hid OA14
            clear ZK14 OA14 P13 M13 F13
            obtain ⟨m0, m1, m2, m3⟩ := P14.out.bw.fourS
            obtain ⟨g0, g1, g2, g3⟩ := A14b.out.fourS
            have HE14 := Lib.hid (HER.out _ _ _ _ _ O14.out P14.out.ow)
            go_wp2_with fail
            refine HE14.out.mono ?_
            rintro e w15 ⟨rfl, hb15⟩
            have P15 := Lib.hid (P14.out.more hb15)
            have M15 := Lib.hid (M14.out.more hb15)
            clear hb15 m0 m1 m2 m3 g0 g1 g2 g3 P14 M14 O14 HE14 A14b
            obtain ⟨g0, g1, g2, g3⟩ := P15.out.bg.fourS
            go_wp2_with fail
            refine (HHG.out _ _ M15.out).mono ?_
            rintro e w16 ⟨rfl, hb16⟩
            have P16 := Lib.hid (P15.out.more hb16)
            clear hb16 g0 g1 g2 g3 P15 M15
            go_wp2
            go_ret
            exact ⟨rfl, P16.out.below⟩
  · simp only [if_neg hL] at hs
    have HS := Lib.hid hs
    clear hs h
    go_enter Try.func5, Try.ntmps5
    go_wp2_with fail
    refine HS.out.mono ?_
    rintro e w1 ⟨rfl, hb1⟩
    have F1 := Lib.hid (F0.more hb1)
    clear hb1 F0
    go_wp2
    go_ret
    exact ⟨rfl, F1.out.below⟩
end Go.Proofs.Ytmmedhjmilgnbab
