/- What this text proves: the law of FnExactPackPacket: the program and the model answer alike, for every packer and packet; the arguments stay; the answer owns its memory. -/
import Derived.Test.YtcjeaahlhfoccabIPp
import Derived.Test.YtcjeaahlhfoccabZz
import Derived.Deep.RegionHeld3
import Derived.Deep.Cut
import Derived.Deep.CutRange
namespace Go.Proofs.Ytcjeaahlhfoccab
open Go.ChangeShapes Go.WideShapes Go.ChangeAt Go.RowKit
set_option linter.unusedVariables false

theorem packL_len' (c n : Int) (r : ByteArray) (l : List Int) (a q : Int) (d : ByteArray) : (packL c n r l a q d).length ≤ l.length + 1 := by
  unfold packL
  cases packB c n r l a q d <;> simp

set_option maxRecDepth 8000 in
set_option maxHeartbeats 8000000 in
theorem law_packpacket (c n : Int) (r : ByteArray) (A : Option Addr) (l : List Int) (k : Nat) (a q : Int) (d : ByteArray) (hr : r.size ≤ maxLen) (hl : l.length ≤ maxLen) (_ : -9223372036854775808 ≤ a ∧ a ≤ 9223372036854775807) (_ : -9223372036854775808 ≤ q ∧ q ≤ 9223372036854775807) (hd : d.size ≤ maxLen) (w : World) (h : IntsAt w w.heap.size A l) :
    Calls Try.prog 3 #[paV c n r (.slice A l.length k), pkV a q d] w fun e w' => e = .returned (.bool true) ∧ Below w.heap.size w w' := by
  have F0 : Fit w ((w.alloc (.cells #[.int .i64 c, .int .i64 n, .string r, .slice A l.length k] 24)).alloc (.cells #[.int .i64 a, .int .i64 q, .string d] 26)) w.heap.size (paL c n r (.slice A l.length k)) := (Fit.made w (paL c n r (.slice A l.length k)) _).more ((Below.refl _ _).alloc (Nat.le_refl _) _)
  have G0 : Box ((w.alloc (.cells #[.int .i64 c, .int .i64 n, .string r, .slice A l.length k] 24)).alloc (.cells #[.int .i64 a, .int .i64 q, .string d] 26)) (w.heap.size + 1) (pkL a q d) := Box.made (w.alloc (.cells (paL c n r (.slice A l.length k)).toArray 24)) (pkL a q d) _ _ (by simp)
  have hs := fun W => sz_pak c n r A l.length k 1048576 (Nat.le_refl _) hr hl W
  by_cases hL : r.size + l.length ≤ 1048576
  · simp only [if_pos hL] at hs
    have hd0 : decide (1048576 - ((r.size : Int) + (l.length : Int)) < 0) = false := by simp; omega
    have hs2 := fun W => sz_pkt a q d (1048576 - (r.size + l.length)) (by omega) hd W
    rw [show ((r.size + l.length : Nat) : Int) = (r.size : Int) + (l.length : Int) by omega] at hs
    rw [show ((1048576 - (r.size + l.length) : Nat) : Int) = 1048576 - ((r.size : Int) + (l.length : Int)) by omega] at hs2
    have HS := Lib.hid hs
    clear hs
    by_cases hL2 : d.size ≤ 1048576 - (r.size + l.length)
    · simp only [if_pos hL2] at hs2
      have hd1 : decide (1048576 - ((r.size : Int) + (l.length : Int)) - (d.size : Int) < 0) = false := by simp; omega
      have HS2 := Lib.hid hs2
      have HT := Lib.hid (fun W (hb : Below w.heap.size w W) => to_pak c n r A l k (by omega) W ((h.more hb).raise hb.size))
      have HP := Lib.hid (to_pkt a q d)
      have hx : ∀ v W, OwnI W w.heap.size v l → Calls Try.prog 13 #[paV c n r v, pkV a q d] W fun e w' => ∃ v, e = .returned (.tuple #[paV c n (packR c n r l a q d) v, .bool (packB c n r l a q d)]) ∧ OwnI w' W.heap.size v (packL c n r l a q d) ∧ Below W.heap.size W w' := fun v W ho => by
        obtain ⟨A2, c2, rfl⟩ := ho.form
        exact pack_spec c n r A2 l c2 a q d (by omega) (by omega) (by omega) W ho.ints
      have hy : ∀ v W, OwnI W w.heap.size v l → Calls Try.prog 16 #[paV c n r v, pkV a q d] W fun e w' => ∃ v, e = .returned (.tuple #[paV c n (packR c n r l a q d) v, .bool (packB c n r l a q d)]) ∧ OwnI w' W.heap.size v (packL c n r l a q d) ∧ Below W.heap.size W w' := fun v W ho => by
        obtain ⟨A2, c2, rfl⟩ := ho.form
        exact pack_impl c n r A2 l c2 a q d (by omega) (by omega) (by omega) W ho.ints
      have hLl := packL_len' c n r l a q d
      generalize packR c n r l a q d = R at *
      generalize packL c n r l a q d = L at *
      generalize packB c n r l a q d = B at *
      have HX := Lib.hid hx
      have HY := Lib.hid hy
      have HE := Lib.hid (fun v1 v2 b1 b2 W => eq_pak c n r l (by omega) v1 v2 b1 b2 W)
      have HER := Lib.hid (fun v1 v2 b1 b2 W => eq_pak c n R L (by omega) v1 v2 b1 b2 W)
      have HMX := Lib.hid (fun v b W => mark_grown c n r l (by omega) v b W)
      have HMG := Lib.hid (fun v b W => mark_grown c n R L (by omega) v b W)
      have HHG := Lib.hid (fun v b W => held_pak c n R L.length (by omega) v b W)
      obtain ⟨K, hK⟩ : ∃ K, ((1 + l.length : Nat) : Int) = K := ⟨_, rfl⟩
      obtain ⟨M, hM⟩ : ∃ M, ((1 + L.length : Nat) : Int) = M := ⟨_, rfl⟩
      have hK0 : decide (K < 0) = false := by rw [← hK]; simp; omega
      have hM0 : decide (M < 0) = false := by rw [← hM]; simp; omega
      have hMM : (M != M) = false := by simp
      have hBB : (B != B) = false := by simp
      rw [hK] at HMX
      rw [hM] at HMG HHG
      clear h hx hy hK hM hLl hs2
      go_enter Try.func3, Try.ntmps3
      go_wp2_with fail
      refine (HS.out _).mono ?_
      rintro e w1 ⟨rfl, hb1⟩
      have F1 := Lib.hid (F0.more hb1)
      have G1 := Lib.hid (G0.more hb1)
      obtain ⟨y0, y1, y2⟩ := G1.out.three
      clear hb1 F0 G0
      go_wp2_with fail
      refine (HS2.out _).mono ?_
      rintro e w2 ⟨rfl, hb2⟩
      have HB := Lib.hid (F1.out.more hb2).below
      have P2 := Lib.hid (F1.out.more hb2).box
      have X2 := Lib.hid (G1.out.more hb2)
      clear hb2 y0 y1 y2
      go_upto_region 8 with fail
      go_cut [6, 7] from 26 to 33 (fun s6 s7 wx => ∃ (g : Nat) (v : Value), s6 = .pointer (some ⟨g, 0, none⟩) ∧ s7 = .bool B ∧ Kept1 w2 wx (fun v => paL c n R v) L g v)
      case first =>
        have Z0 := (ZZ.start P2.out X2.out).drew
        have Z1 := ((ZZ.start P2.out X2.out).new (paL 0 0 ⟨#[]⟩ (.slice none 0 0)) 29).drew
        have Z2 := Z0.new (paL 0 0 ⟨#[]⟩ (.slice none 0 0)) 29
        have FA := Lib.hid (fun W zo (hz : ZZ w2 W w.heap.size (w.heap.size + 1) (paL c n r (.slice A l.length k)) (pkL a q d) zo) (hw : Below w.heap.size w W) => (HT.out W hw).mono fun e w' hh => (show ∃ A1 c1, e = .returned (paV c n r (.slice A1 l.length c1)) ∧ OwnI w' w2.heap.size (.slice A1 l.length c1) l ∧ Below W.heap.size W w' ∧ ZZ w2 w' w.heap.size (w.heap.size + 1) (paL c n r (.slice A l.length k)) (pkL a q d) zo from by
          obtain ⟨v, h1, h2, h3⟩ := hh
          obtain ⟨A1, c1, rfl⟩ := h2.form
          exact ⟨A1, c1, h1, h2.lower hz.below.size, h3, hz.more h3⟩))
        have FB := Lib.hid (fun W zo (hz : ZZ w2 W w.heap.size (w.heap.size + 1) (paL c n r (.slice A l.length k)) (pkL a q d) zo) => (HP.out W).mono fun e w' hh => (show e = .returned (pkV a q d) ∧ Below W.heap.size W w' ∧ ZZ w2 w' w.heap.size (w.heap.size + 1) (paL c n r (.slice A l.length k)) (pkL a q d) zo from ⟨hh.1, hh.2, hz.more hh.2⟩))
        have FF := Lib.hid (fun W v zo (hz : ZZ w2 W w.heap.size (w.heap.size + 1) (paL c n r (.slice A l.length k)) (pkL a q d) zo) (ho : OwnI W w2.heap.size v l) (hwb : w.heap.size ≤ w2.heap.size) => (HX.out v W (ho.lower hwb)).mono fun e w' hh => (show ∃ A2 c2, e = .returned (.tuple #[paV c n R (.slice A2 L.length c2), .bool B]) ∧ OwnI w' W.heap.size (.slice A2 L.length c2) L ∧ ZZ w2 w' w.heap.size (w.heap.size + 1) (paL c n r (.slice A l.length k)) (pkL a q d) zo ∧ w2.heap.size ≤ W.heap.size ∧ (∀ z, zo = some z → z.1 < W.heap.size) from by
          obtain ⟨v, h1, h2, h3⟩ := hh
          obtain ⟨A2, c2, rfl⟩ := h2.form
          exact ⟨A2, c2, h1, h2, hz.more h3, hz.below.size, fun z e => (hz.bz z e).1.lt⟩))
        have hwb := HB.out.size
        have HWB := Lib.hid (fun W zo (hz : ZZ w2 W w.heap.size (w.heap.size + 1) (paL c n r (.slice A l.length k)) (pkL a q d) zo) => HB.out.trans (hz.below.mono hwb))
        go_wp2
        go_region_held3 (fun w' => w'.cell? ⟨w.heap.size, 0, none⟩ = some (.int .i64 c) ∧ w'.cell? ⟨w.heap.size, 1, none⟩ = some (.int .i64 n) ∧ w'.cell? ⟨w.heap.size, 2, none⟩ = some (.string r) ∧ w'.cell? ⟨w.heap.size, 3, none⟩ = some (.slice A l.length k) ∧ w'.cell? ⟨w.heap.size + 1, 0, none⟩ = some (.int .i64 a) ∧ w'.cell? ⟨w.heap.size + 1, 1, none⟩ = some (.int .i64 q) ∧ w'.cell? ⟨w.heap.size + 1, 2, none⟩ = some (.string d))
          (first | with_reducible exact Z0.cells43 | with_reducible exact Z1.cells43 | with_reducible exact Z2.cells43 | with_reducible exact ZF.cells43 | with_reducible exact (ZF.alloc _).cells43 | with_reducible exact ZA.cells43 | with_reducible exact ZB.cells43 | with_reducible exact (ZA.alloc _).cells43 | with_reducible exact (ZB.alloc _).cells43 | exact (ZF.put (paL c n R (.slice A2 L.length c2)) rfl).cells43)
          (first
            | (go_at_call 14; (first
                | (with_reducible refine (FA.out _ _ Z0 (HWB.out _ _ Z0)).mono ?_)
                | (with_reducible refine (FA.out _ _ Z1 (HWB.out _ _ Z1)).mono ?_)
                | (with_reducible refine (FA.out _ _ Z2 (HWB.out _ _ Z2)).mono ?_)
                | (with_reducible refine (FA.out _ _ ZB (HWB.out _ _ ZB)).mono ?_)
                | (with_reducible refine (FA.out _ _ (ZB.new (paL 0 0 ⟨#[]⟩ (.slice none 0 0)) 29) (HWB.out _ _ (ZB.new (paL 0 0 ⟨#[]⟩ (.slice none 0 0)) 29))).mono ?_)); rintro e wA ⟨A1, c1, rfl, OA, BA, ZA⟩)
            | (go_at_call 15; (first
                | (with_reducible refine (FB.out _ _ Z0).mono ?_)
                | (with_reducible refine (FB.out _ _ Z1).mono ?_)
                | (with_reducible refine (FB.out _ _ Z2).mono ?_)
                | (with_reducible refine (FB.out _ _ ZA).mono ?_)
                | (with_reducible refine (FB.out _ _ (ZA.new (paL 0 0 ⟨#[]⟩ (.slice none 0 0)) 29)).mono ?_)); rintro e wB ⟨rfl, BB, ZB⟩)
            | (go_at_call 13; (first
                | (with_reducible refine (FF.out _ _ _ ZB (by first | exact OA.more BB | exact (OA.more ((Below.refl _ _).alloc (Nat.le_refl _) _)).more BB) hwb).mono ?_)
                | (with_reducible refine (FF.out _ _ _ ZA OA hwb).mono ?_)
                | (with_reducible refine (FF.out _ _ _ (ZB.new (paL 0 0 ⟨#[]⟩ (.slice none 0 0)) 29) ((OA.more BB).more ((Below.refl _ _).alloc (Nat.le_refl _) _)) hwb).mono ?_)
                | (with_reducible refine (FF.out _ _ _ (ZA.new (paL 0 0 ⟨#[]⟩ (.slice none 0 0)) 29) (OA.more ((Below.refl _ _).alloc (Nat.le_refl _) _)) hwb).mono ?_)); rintro e wF ⟨A2, c2, rfl, OF, ZF, hbn, hzn⟩; try (have zb := ZF.box.1; obtain ⟨z0, z1, z2, z3⟩ := zb.fourP; have zi := zb.ice)))
        all_goals go_wp2_with fail
        all_goals go_meet
        all_goals (first
          | exact ⟨_, _, rfl, rfl, ZF.fin_made (fun v => paL c n R v) OF hbn _⟩
          | exact ⟨_, _, rfl, rfl, ZF.fin_put (fun v => paL c n R v) OF (hzn _ rfl) rfl⟩)
      case rest =>
        obtain ⟨g4, vw, rfl, rfl, B4, W4, l4, O4, ne4⟩ := hcut
        generalize wc = w4 at *
        have FB4 := Lib.hid (HB.out.trans (B4.mono HB.out.size))
        have P4 := Lib.hid (P2.out.more B4)
        have X4 := Lib.hid (X2.out.more B4)
        have HW4 := Lib.hid W4
        have HO4 := Lib.hid (O4.lower (show w.heap.size + 2 ≤ w2.heap.size by have := X2.out.lt; omega))
        have HU4 := Lib.hid (upto O4)
        obtain ⟨Aw, cw, hvw⟩ := O4.form
        subst hvw
        clear B4 W4 O4 ne4 l4 HB
        obtain ⟨k0, k1, k2, k3⟩ := P4.out.fourP
        go_wp2_with fail
        refine (HT.out _ FB4.out).mono ?_
        rintro e w5 ⟨vx, rfl, ox5, hb5⟩
        obtain ⟨Ax, cx, hvx⟩ := ox5.form
        subst hvx
        have B6 : Below w.heap.size w (w5.alloc (.cells #[.int .i64 c, .int .i64 n, .string r, .slice Ax l.length cx] 29)) := (FB4.out.trans (hb5.mono FB4.out.size)).alloc (Nat.le_trans FB4.out.size hb5.size) _
        have P6 : Box (w5.alloc (.cells #[.int .i64 c, .int .i64 n, .string r, .slice Ax l.length cx] 29)) w.heap.size (paL c n r (.slice A l.length k)) := (P4.out.more hb5).alloc _
        have Y6 : Box (w5.alloc (.cells #[.int .i64 c, .int .i64 n, .string r, .slice Ax l.length cx] 29)) (w.heap.size + 1) (pkL a q d) := (X4.out.more hb5).alloc _
        have W6 : Box (w5.alloc (.cells #[.int .i64 c, .int .i64 n, .string r, .slice Ax l.length cx] 29)) g4 (paL c n R (.slice Aw L.length cw)) := (HW4.out.more hb5).alloc _
        have X6 : Box (w5.alloc (.cells #[.int .i64 c, .int .i64 n, .string r, .slice Ax l.length cx] 29)) w5.heap.size (paL c n r (.slice Ax l.length cx)) := Box.made w5 (paL c n r (.slice Ax l.length cx)) _ _ rfl
        have OW6 : OwnI (w5.alloc (.cells #[.int .i64 c, .int .i64 n, .string r, .slice Ax l.length cx] 29)) (w.heap.size + 2) (.slice Aw L.length cw) L := (HO4.out.more hb5).more ((Below.refl _ _).alloc (Nat.le_refl _) _)
        have OX6 : OwnI (w5.alloc (.cells #[.int .i64 c, .int .i64 n, .string r, .slice Ax l.length cx] 29)) w4.heap.size (.slice Ax l.length cx) l := ox5.more ((Below.refl _ _).alloc (Nat.le_refl _) _)
        have U6 : (Value.slice Ax l.length cx).ownBlock ≠ some w5.heap.size := fun e => Nat.lt_irrefl _ (upto ox5 _ e)
        have S6 : w4.heap.size ≤ w5.heap.size := hb5.size
        clear ox5 hb5 k0 k1 k2 k3
        go_upto_region 10 with fail
        generalize w5.alloc (.cells #[.int .i64 c, .int .i64 n, .string r, .slice Ax l.length cx] 29) = w6 at *
        generalize w5.heap.size = g6 at *
        have HOX6 := Lib.hid OX6
        have HX6 := Lib.hid X6
        have HY6 := Lib.hid Y6
        have HR6 := Lib.hid (And.intro B6 (And.intro P6 (And.intro W6 (And.intro OW6 (And.intro U6 S6)))))
        clear OX6 X6 Y6 B6 P6 W6 OW6 U6 S6
        go_cut [9, 10] from 36 to 42 (fun s9 s10 wx => ∃ (g : Nat) (v : Value), s9 = .pointer (some ⟨g, 0, none⟩) ∧ s10 = .bool B ∧ Kept1 w6 wx (fun v => paL c n R v) L g v)
        case first =>
          have Z0 := (ZZ.start HX6.out HY6.out).drew
          have Z1 := ((ZZ.start HX6.out HY6.out).new (paL 0 0 ⟨#[]⟩ (.slice none 0 0)) 29).drew
          have Z2 := Z0.new (paL 0 0 ⟨#[]⟩ (.slice none 0 0)) 29
          have FB := Lib.hid (fun W zo (hz : ZZ w6 W g6 (w.heap.size + 1) (paL c n r (.slice Ax l.length cx)) (pkL a q d) zo) => (HP.out W).mono fun e w' hh => (show e = .returned (pkV a q d) ∧ Below W.heap.size W w' ∧ ZZ w6 w' g6 (w.heap.size + 1) (paL c n r (.slice Ax l.length cx)) (pkL a q d) zo from ⟨hh.1, hh.2, hz.more hh.2⟩))
          have FF := Lib.hid (fun W zo (hz : ZZ w6 W g6 (w.heap.size + 1) (paL c n r (.slice Ax l.length cx)) (pkL a q d) zo) => (HY.out _ W ((HOX6.out.more hz.below).lower FB4.out.size)).mono fun e w' hh => (show ∃ A2 c2, e = .returned (.tuple #[paV c n R (.slice A2 L.length c2), .bool B]) ∧ OwnI w' W.heap.size (.slice A2 L.length c2) L ∧ ZZ w6 w' g6 (w.heap.size + 1) (paL c n r (.slice Ax l.length cx)) (pkL a q d) zo ∧ w6.heap.size ≤ W.heap.size ∧ (∀ z, zo = some z → z.1 < W.heap.size) from by
            obtain ⟨v, h1, h2, h3⟩ := hh
            obtain ⟨A2, c2, rfl⟩ := h2.form
            exact ⟨A2, c2, h1, h2, hz.more h3, hz.below.size, fun z e => (hz.bz z e).1.lt⟩))
          go_wp2
          go_region_held3 (fun w' => w'.cell? ⟨g6, 0, none⟩ = some (.int .i64 c) ∧ w'.cell? ⟨g6, 1, none⟩ = some (.int .i64 n) ∧ w'.cell? ⟨g6, 2, none⟩ = some (.string r) ∧ w'.cell? ⟨g6, 3, none⟩ = some (.slice Ax l.length cx) ∧ w'.cell? ⟨w.heap.size + 1, 0, none⟩ = some (.int .i64 a) ∧ w'.cell? ⟨w.heap.size + 1, 1, none⟩ = some (.int .i64 q) ∧ w'.cell? ⟨w.heap.size + 1, 2, none⟩ = some (.string d))
            (first | with_reducible exact Z0.cells43 | with_reducible exact Z1.cells43 | with_reducible exact Z2.cells43 | with_reducible exact ZF.cells43 | with_reducible exact (ZF.alloc _).cells43 | with_reducible exact ZB.cells43 | with_reducible exact (ZB.alloc _).cells43 | exact (ZF.put (paL c n R (.slice A2 L.length c2)) rfl).cells43)
            (first
              | (go_at_call 15; (first
                  | (with_reducible refine (FB.out _ _ Z0).mono ?_)
                  | (with_reducible refine (FB.out _ _ Z1).mono ?_)
                  | (with_reducible refine (FB.out _ _ Z2).mono ?_)); rintro e wB ⟨rfl, BB, ZB⟩)
              | (go_at_call 16; (first
                  | (with_reducible refine (FF.out _ _ ZB).mono ?_)
                  | (with_reducible refine (FF.out _ _ (ZB.new (paL 0 0 ⟨#[]⟩ (.slice none 0 0)) 29)).mono ?_)); rintro e wF ⟨A2, c2, rfl, OF, ZF, hbn, hzn⟩; try (have zb := ZF.box.1; obtain ⟨z0, z1, z2, z3⟩ := zb.fourP; have zi := zb.ice)))
          all_goals go_wp2_with fail
          all_goals go_meet
          all_goals (first
            | exact ⟨_, _, rfl, rfl, ZF.fin_made (fun v => paL c n R v) OF hbn _⟩
            | exact ⟨_, _, rfl, rfl, ZF.fin_put (fun v => paL c n R v) OF (hzn _ rfl) rfl⟩)
        case rest =>
          obtain ⟨g8, vg, rfl, rfl, B8, W8, l8, O8, ne8⟩ := hcut
          generalize wc = w8 at *
          obtain ⟨Ag, cg, hvg⟩ := O8.form
          subst hvg
          obtain ⟨B6, P6, W6, OW6, U6, S6⟩ := HR6.out
          have P8 := Lib.hid (show LQ w w8 w4.heap.size w6.heap.size g4 g6 g8 (paL c n r (.slice A l.length k)) (pkL a q d) (paL c n R (.slice Aw L.length cw)) (paL c n r (.slice Ax l.length cx)) (paL c n R (.slice Ag L.length cg)) (.slice Aw L.length cw) (.slice Ax l.length cx) (.slice Ag L.length cg) L l L from
            ⟨B6.trans (B8.mono B6.size), P6.more B8, HY6.out.more B8, W6.more B8, HX6.out.more B8, W8, OW6.more B8, HU4.out, HOX6.out.more B8, upto HOX6.out, O8, HW4.out.lt, S6, HX6.out.lt, l8, X4.out.lt, U6, ne8, B8.size⟩)
          clear B8 W8 l8 O8 ne8 B6 P6 W6 OW6 U6 S6 HR6 HOX6 HX6 HY6
          obtain ⟨g0, g1, g2, g3⟩ := P8.out.bg.fourP
          obtain ⟨m0, m1, m2, m3⟩ := P8.out.bw.fourP
          have HE8 := Lib.hid (HER.out _ _ _ _ w8 P8.out.og P8.out.ow)
          go_wp2_with fail
          refine HE8.out.mono ?_
          rintro e w9 ⟨rfl, hb9⟩
          have P9 := Lib.hid (P8.out.more hb9)
          have P9d := Lib.hid (P9.out.more (Below.refl _ _).drew)
          clear hb9 g0 g1 g2 g3 m0 m1 m2 m3
          obtain ⟨k0, k1, k2, k3⟩ := P9d.out.bp.fourP
          obtain ⟨x0, x1, x2, x3⟩ := P9d.out.bx.fourP
          have HT9 := Lib.hid ((HT.out _ P9d.out.below).mono fun e w' h => (show ∃ v, e = .returned (paV c n r v) ∧ OwnI w' w.heap.size v l ∧ Below w9.drew.heap.size w9.drew w' ∧ Cells4P w' w.heap.size (.int .i64 c) (.int .i64 n) (.string r) (.slice A l.length k) ∧ Cells4P w' g6 (.int .i64 c) (.int .i64 n) (.string r) (.slice Ax l.length cx) from by
            obtain ⟨v, h1, h2, h3⟩ := h
            exact ⟨v, h1, h2.lower P9d.out.below.size, h3, (P9d.out.more h3).bp.fourP, (P9d.out.more h3).bx.fourP⟩))
          go_wp2
          go_region_held3 (fun w' => w'.cell? ⟨w.heap.size, 0, none⟩ = some (.int .i64 c) ∧ w'.cell? ⟨w.heap.size, 1, none⟩ = some (.int .i64 n) ∧ w'.cell? ⟨w.heap.size, 2, none⟩ = some (.string r) ∧ w'.cell? ⟨w.heap.size, 3, none⟩ = some (.slice A l.length k) ∧ w'.cell? ⟨g6, 0, none⟩ = some (.int .i64 c) ∧ w'.cell? ⟨g6, 1, none⟩ = some (.int .i64 n) ∧ w'.cell? ⟨g6, 2, none⟩ = some (.string r) ∧ w'.cell? ⟨g6, 3, none⟩ = some (.slice Ax l.length cx)) (first | exact ⟨k0, k1, k2, k3, x0, x1, x2, x3⟩ | exact ⟨l4, l5, l6, l7, l0, l1, l2, l3⟩ | exact ⟨n4, n5, n6, n7, n0, n1, n2, n3⟩)
            (first
              | (go_at_call 14; (with_reducible refine HT9.out.mono ?_); rintro e w10 ⟨v10, rfl, O10, B10, ⟨l4, l5, l6, l7⟩, l0, l1, l2, l3⟩)
              | (go_at_call 17; (with_reducible refine (HE.out _ _ w4.heap.size w.heap.size _ (P9d.out.more B10).ox O10).mono ?_); rintro e w11 ⟨rfl, B11⟩; obtain ⟨n0, n1, n2, n3⟩ := ((P9d.out.more B10).more B11).bx.fourP; obtain ⟨n4, n5, n6, n7⟩ := ((P9d.out.more B10).more B11).bp.fourP))
          all_goals
            have P11 := Lib.hid ((P9d.out.more B10).more B11)
            clear k0 k1 k2 k3 x0 x1 x2 x3 l0 l1 l2 l3 l4 l5 l6 l7 B10 B11 O10
            go_wp2_with fail
            refine (HMX.out _ _ _ P11.out.ox P11.out.z1).mono ?_
            rintro e w12 ⟨rfl, ox12, hg12⟩
            have P12 := Lib.hid (P11.out.markX ox12 hg12)
            obtain ⟨g0, g1, g2, g3⟩ := P12.out.bg.fourP
            obtain ⟨m0, m1, m2, m3⟩ := P12.out.bw.fourP
            have HE12 := Lib.hid (HER.out _ _ _ _ w12 P12.out.og P12.out.ow)
            clear ox12 hg12 n0 n1 n2 n3 n4 n5 n6 n7
            go_wp2_with fail
            refine HE12.out.mono ?_
            rintro e w13 ⟨rfl, hb13⟩
            have P13 := Lib.hid (P12.out.more hb13)
            clear hb13 g0 g1 g2 g3 m0 m1 m2 m3
            obtain ⟨g0, g1, g2, g3⟩ := P13.out.bg.fourP
            go_wp2_with fail
            refine (HMG.out _ _ _ P13.out.og P13.out.nz).mono ?_
            rintro e w14 ⟨rfl, og14, hg14⟩
            have P14 := Lib.hid (P13.out.markG og14 hg14)
            clear og14 hg14 g0 g1 g2 g3
            obtain ⟨g0, g1, g2, g3⟩ := P14.out.bg.fourP
            have HH14 := Lib.hid (HHG.out _ _ w14 P14.out.og)
            go_wp2_with fail
            refine HH14.out.mono ?_
            rintro e w15 ⟨rfl, hb15⟩
            have P15 := Lib.hid (P14.out.more hb15)
            have HB := Lib.hid P15.out.below
            clear hb15 g0 g1 g2 g3
            go_upto_region 27 with fail
            go_cut [14, 15] from 84 to 91 (fun s14 s15 wx => ∃ (g : Nat) (v : Value), s14 = .pointer (some ⟨g, 0, none⟩) ∧ s15 = .bool B ∧ Kept1 w15 wx (fun v => paL c n R v) L g v)
            case first =>
              have Z0 := (ZZ.start P15.out.bp P15.out.by_).drew
              have Z1 := ((ZZ.start P15.out.bp P15.out.by_).new (paL 0 0 ⟨#[]⟩ (.slice none 0 0)) 29).drew
              have Z2 := Z0.new (paL 0 0 ⟨#[]⟩ (.slice none 0 0)) 29
              have FA := Lib.hid (fun W zo (hz : ZZ w15 W w.heap.size (w.heap.size + 1) (paL c n r (.slice A l.length k)) (pkL a q d) zo) (hw : Below w.heap.size w W) => (HT.out W hw).mono fun e w' hh => (show ∃ A1 c1, e = .returned (paV c n r (.slice A1 l.length c1)) ∧ OwnI w' w15.heap.size (.slice A1 l.length c1) l ∧ Below W.heap.size W w' ∧ ZZ w15 w' w.heap.size (w.heap.size + 1) (paL c n r (.slice A l.length k)) (pkL a q d) zo from by
                obtain ⟨v, h1, h2, h3⟩ := hh
                obtain ⟨A1, c1, rfl⟩ := h2.form
                exact ⟨A1, c1, h1, h2.lower hz.below.size, h3, hz.more h3⟩))
              have FB := Lib.hid (fun W zo (hz : ZZ w15 W w.heap.size (w.heap.size + 1) (paL c n r (.slice A l.length k)) (pkL a q d) zo) => (HP.out W).mono fun e w' hh => (show e = .returned (pkV a q d) ∧ Below W.heap.size W w' ∧ ZZ w15 w' w.heap.size (w.heap.size + 1) (paL c n r (.slice A l.length k)) (pkL a q d) zo from ⟨hh.1, hh.2, hz.more hh.2⟩))
              have FF := Lib.hid (fun W v zo (hz : ZZ w15 W w.heap.size (w.heap.size + 1) (paL c n r (.slice A l.length k)) (pkL a q d) zo) (ho : OwnI W w15.heap.size v l) (hwb : w.heap.size ≤ w15.heap.size) => (HY.out v W (ho.lower hwb)).mono fun e w' hh => (show ∃ A2 c2, e = .returned (.tuple #[paV c n R (.slice A2 L.length c2), .bool B]) ∧ OwnI w' W.heap.size (.slice A2 L.length c2) L ∧ ZZ w15 w' w.heap.size (w.heap.size + 1) (paL c n r (.slice A l.length k)) (pkL a q d) zo ∧ w15.heap.size ≤ W.heap.size ∧ (∀ z, zo = some z → z.1 < W.heap.size) from by
                obtain ⟨v, h1, h2, h3⟩ := hh
                obtain ⟨A2, c2, rfl⟩ := h2.form
                exact ⟨A2, c2, h1, h2, hz.more h3, hz.below.size, fun z e => (hz.bz z e).1.lt⟩))
              have hwb := HB.out.size
              have HWB := Lib.hid (fun W zo (hz : ZZ w15 W w.heap.size (w.heap.size + 1) (paL c n r (.slice A l.length k)) (pkL a q d) zo) => HB.out.trans (hz.below.mono hwb))
              go_wp2
              go_region_held3 (fun w' => w'.cell? ⟨w.heap.size, 0, none⟩ = some (.int .i64 c) ∧ w'.cell? ⟨w.heap.size, 1, none⟩ = some (.int .i64 n) ∧ w'.cell? ⟨w.heap.size, 2, none⟩ = some (.string r) ∧ w'.cell? ⟨w.heap.size, 3, none⟩ = some (.slice A l.length k) ∧ w'.cell? ⟨w.heap.size + 1, 0, none⟩ = some (.int .i64 a) ∧ w'.cell? ⟨w.heap.size + 1, 1, none⟩ = some (.int .i64 q) ∧ w'.cell? ⟨w.heap.size + 1, 2, none⟩ = some (.string d))
                (first | with_reducible exact Z0.cells43 | with_reducible exact Z1.cells43 | with_reducible exact Z2.cells43 | with_reducible exact ZF.cells43 | with_reducible exact (ZF.alloc _).cells43 | with_reducible exact ZA.cells43 | with_reducible exact ZB.cells43 | with_reducible exact (ZA.alloc _).cells43 | with_reducible exact (ZB.alloc _).cells43 | exact (ZF.put (paL c n R (.slice A2 L.length c2)) rfl).cells43)
                (first
                  | (go_at_call 14; (first
                      | (with_reducible refine (FA.out _ _ Z0 (HWB.out _ _ Z0)).mono ?_)
                      | (with_reducible refine (FA.out _ _ Z1 (HWB.out _ _ Z1)).mono ?_)
                      | (with_reducible refine (FA.out _ _ Z2 (HWB.out _ _ Z2)).mono ?_)
                      | (with_reducible refine (FA.out _ _ ZB (HWB.out _ _ ZB)).mono ?_)
                      | (with_reducible refine (FA.out _ _ (ZB.new (paL 0 0 ⟨#[]⟩ (.slice none 0 0)) 29) (HWB.out _ _ (ZB.new (paL 0 0 ⟨#[]⟩ (.slice none 0 0)) 29))).mono ?_)); rintro e wA ⟨A1, c1, rfl, OA, BA, ZA⟩)
                  | (go_at_call 15; (first
                      | (with_reducible refine (FB.out _ _ Z0).mono ?_)
                      | (with_reducible refine (FB.out _ _ Z1).mono ?_)
                      | (with_reducible refine (FB.out _ _ Z2).mono ?_)
                      | (with_reducible refine (FB.out _ _ ZA).mono ?_)
                      | (with_reducible refine (FB.out _ _ (ZA.new (paL 0 0 ⟨#[]⟩ (.slice none 0 0)) 29)).mono ?_)); rintro e wB ⟨rfl, BB, ZB⟩)
                  | (go_at_call 16; (first
                      | (with_reducible refine (FF.out _ _ _ ZB (by first | exact OA.more BB | exact (OA.more ((Below.refl _ _).alloc (Nat.le_refl _) _)).more BB) hwb).mono ?_)
                      | (with_reducible refine (FF.out _ _ _ ZA OA hwb).mono ?_)
                      | (with_reducible refine (FF.out _ _ _ (ZB.new (paL 0 0 ⟨#[]⟩ (.slice none 0 0)) 29) ((OA.more BB).more ((Below.refl _ _).alloc (Nat.le_refl _) _)) hwb).mono ?_)
                      | (with_reducible refine (FF.out _ _ _ (ZA.new (paL 0 0 ⟨#[]⟩ (.slice none 0 0)) 29) (OA.more ((Below.refl _ _).alloc (Nat.le_refl _) _)) hwb).mono ?_)); rintro e wF ⟨A2, c2, rfl, OF, ZF, hbn, hzn⟩; try (have zb := ZF.box.1; obtain ⟨z0, z1, z2, z3⟩ := zb.fourP; have zi := zb.ice)))
              all_goals go_wp2_with fail
              all_goals go_meet
              all_goals (first
                | exact ⟨_, _, rfl, rfl, ZF.fin_made (fun v => paL c n R v) OF hbn _⟩
                | exact ⟨_, _, rfl, rfl, ZF.fin_put (fun v => paL c n R v) OF (hzn _ rfl) rfl⟩)
            case rest =>
              obtain ⟨g18, vh, rfl, rfl, B18, W18, l18, O18, ne18⟩ := hcut
              generalize wc = w18 at *
              obtain ⟨Ah, ch, hvh⟩ := O18.form
              subst hvh
              have P18 := Lib.hid (P15.out.more B18)
              obtain ⟨x0, x1, x2, x3⟩ := W18.fourP
              obtain ⟨m0, m1, m2, m3⟩ := P18.out.bw.fourP
              have HE18 := Lib.hid (HER.out _ _ _ _ w18 O18 P18.out.ow)
              clear B18 W18 l18 O18 ne18
              go_wp2_with fail
              refine HE18.out.mono ?_
              rintro e w19 ⟨rfl, hb19⟩
              have P19 := Lib.hid (P18.out.more hb19)
              clear hb19 x0 x1 x2 x3 m0 m1 m2 m3
              obtain ⟨g0, g1, g2, g3⟩ := P19.out.bg.fourP
              have HH19 := Lib.hid (HHG.out _ _ w19 P19.out.og)
              go_wp2_with fail
              refine HH19.out.mono ?_
              rintro e w20 ⟨rfl, hb20⟩
              have P20 := Lib.hid (P19.out.more hb20)
              clear hb20 g0 g1 g2 g3
              go_wp2
              go_ret
              exact ⟨rfl, P20.out.below⟩
    · simp only [if_neg hL2] at hs2
      have HS2 := Lib.hid hs2
      clear h hs2
      go_enter Try.func3, Try.ntmps3
      go_wp2_with fail
      refine (HS.out _).mono ?_
      rintro e w1 ⟨rfl, hb1⟩
      have F1 := Lib.hid (F0.more hb1)
      have G1 := Lib.hid (G0.more hb1)
      obtain ⟨y0, y1, y2⟩ := G1.out.three
      clear hb1 F0 G0
      go_wp2_with fail
      refine (HS2.out _).mono ?_
      rintro e w2 ⟨rfl, hb2⟩
      have HB := Lib.hid (F1.out.more hb2).below
      clear hb2 y0 y1 y2
      go_wp2
      go_ret
      exact ⟨rfl, HB.out⟩
  · simp only [if_neg hL] at hs
    have HS := Lib.hid hs
    clear hs h
    go_enter Try.func3, Try.ntmps3
    go_wp2_with fail
    refine (HS.out _).mono ?_
    rintro e w1 ⟨rfl, hb1⟩
    have F1 := Lib.hid (F0.more hb1)
    clear hb1 F0 G0
    go_wp2
    go_ret
    exact ⟨rfl, F1.out.below⟩
end Go.Proofs.Ytcjeaahlhfoccab
