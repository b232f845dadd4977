/- What this text proves: the law of FnExactPushFrame: the program and the model answer alike, for every unpacker and frame; the answer owns its memory. -/
import Derived.Test.YtegahdlfjdjcaabSPu
import Derived.Test.YtegahdlfjdjcaabZz
import Derived.Test.YtegahdlfjdjcaabPktK
import Derived.Deep.RegionHeld3
import Derived.Deep.Cut
import Derived.Deep.CutRange
namespace Go.Proofs.Ytegahdlfjdjcaab
open Go.ChangeShapes Go.WideShapes Go.ChangeAt Go.RowKit
set_option linter.unusedVariables false

theorem puL_len (c n : Int) (s : Bool × ByteArray × Int) (f : Int × Int × Int × ByteArray) : (puL c n s f).length ≤ 67 := by
  unfold puL
  split
  · rename_i h
    have h1 := takeP_len (g2 f.2.2.1 f.2.2.2 (g1 n f.2.1 s)).2.1
    have h2 := g2_size (fi := f.2.2.1) (d := f.2.2.2) (s := g1 n f.2.1 s)
    have h3 := g1_size (n := n) (co := f.2.1) (s := s)
    have h4 := h.1.2.2.2.2
    have h5 := h.2.1.2.2.2
    omega
  · exact Nat.zero_le _
theorem OwnR.moreAt {E : TypeId} {sz n : Nat} {W W' : World} {b : Nat} {v : Value} {l : List (List Value)} (h : OwnR E sz W b v l) (hb : Below n W W') (hn : ∀ k, v.ownBlock = some k → k < n) : OwnR E sz W' b v l := by
  refine ⟨⟨h.1.1, ?_⟩, h.2⟩
  rcases h.1.2 with h1 | ⟨g, cap, cur, hv, hg, hh, r⟩
  · exact .inl h1
  · exact .inr ⟨g, cap, cur, hv, hg, (hb.block g (hn g (by rw [hv]; rfl))).trans hh, r⟩

set_option maxRecDepth 8000 in
set_option maxHeartbeats 20000000 in
theorem law_pushframe (c n : Int) (b : Bool) (r : ByteArray) (l : Int) (ch co fi : Int) (d : ByteArray) (_ : -9223372036854775808 ≤ c ∧ c ≤ 9223372036854775807) (_ : -9223372036854775808 ≤ n ∧ n ≤ 9223372036854775807) (hr : r.size ≤ maxLen) (_ : -9223372036854775808 ≤ l ∧ l ≤ 9223372036854775807)
    (_ : -9223372036854775808 ≤ ch ∧ ch ≤ 9223372036854775807) (_ : -9223372036854775808 ≤ co ∧ co ≤ 9223372036854775807) (_ : -9223372036854775808 ≤ fi ∧ fi ≤ 9223372036854775807) (hd : d.size ≤ maxLen) (w : World) :
    Calls Try.prog 7 #[unV c n b r l, frV ch co fi d] w fun e w' => e = .returned (.bool true) ∧ Below w.heap.size w w' := by
  have F0 : Fit w ((w.alloc (.cells #[.int .i64 c, .int .i64 n, .bool b, .string r, .int .i64 l] 42)).alloc (.cells #[.int .i64 ch, .int .i64 co, .int .i64 fi, .string d] 51)) w.heap.size (unL c n b r l) := (Fit.made w (unL c n b r l) _).more ((Below.refl _ _).alloc (Nat.le_refl _) _)
  have G0 : Box ((w.alloc (.cells #[.int .i64 c, .int .i64 n, .bool b, .string r, .int .i64 l] 42)).alloc (.cells #[.int .i64 ch, .int .i64 co, .int .i64 fi, .string d] 51)) (w.heap.size + 1) (frL ch co fi d) := Box.made (w.alloc (.cells (unL c n b r l).toArray 42)) (frL ch co fi d) _ _ (by simp)
  have hs := fun W => sz_unp c n b r l 1048576 (Nat.le_refl _) hr W
  by_cases hL : r.size ≤ 1048576
  · simp only [if_pos hL] at hs
    have hd0 : decide (1048576 - (r.size : Int) < 0) = false := by simp; omega
    have hs2 := fun W => sz_frm ch co fi d (1048576 - r.size) (by omega) hd W
    rw [show ((1048576 - r.size : Nat) : Int) = 1048576 - (r.size : Int) by omega] at hs2
    have HS := Lib.hid hs
    clear hs
    by_cases hL2 : d.size ≤ 1048576 - r.size
    · simp only [if_pos hL2] at hs2
      have hd1 : decide (1048576 - (r.size : Int) - (d.size : Int) < 0) = false := by simp; omega
      have HS2 := Lib.hid hs2
      have HT := Lib.hid (to_unp c n b r l)
      have HP := Lib.hid (to_frm ch co fi d)
      have hx : ∀ W, Calls Try.prog 30 #[unV c n b r l, frV ch co fi d] W fun e w' => ∃ v, e = .returned (.tuple #[unW c (puN c n (b, r, l) (ch, co, fi, d)) (puS c n (b, r, l) (ch, co, fi, d)), v]) ∧ OwnP w' W.heap.size v (puL c n (b, r, l) (ch, co, fi, d)) ∧ Below W.heap.size W w' := fun W => push_spec c n b r l ch co fi d W
      have hy : ∀ W, Calls Try.prog 32 #[unV c n b r l, frV ch co fi d] W fun e w' => ∃ v, e = .returned (.tuple #[unW c (puN c n (b, r, l) (ch, co, fi, d)) (puS c n (b, r, l) (ch, co, fi, d)), v]) ∧ OwnP w' W.heap.size v (puL c n (b, r, l) (ch, co, fi, d)) ∧ Below W.heap.size W w' := fun W => push_impl c n b r l ch co fi d W
      have hLl := puL_len c n (b, r, l) (ch, co, fi, d)
      obtain ⟨⟨B, R, Lo⟩, hSS⟩ : ∃ S, puS c n (b, r, l) (ch, co, fi, d) = S := ⟨_, rfl⟩
      rw [hSS] at hx hy
      clear hSS
      generalize puN c n (b, r, l) (ch, co, fi, d) = N at *
      generalize puL c n (b, r, l) (ch, co, fi, d) = L at *
      have HX := Lib.hid hx
      have HY := Lib.hid hy
      have HEU := Lib.hid (eq_unp c N B R Lo)
      have HEL := Lib.hid (fun v1 v2 b1 b2 W => eqP_any W b1 b2 v1 v2 L (by omega))
      have HMK := Lib.hid (fun v b W => markP_mks W b v L (by omega) 1 (by omega) (by omega))
      have HHD := Lib.hid (fun v W (h : MksP W 1 v L.length) => heldP_mks W 1 v L.length (by omega) h (by omega) (by omega))
      obtain ⟨M, hM⟩ : ∃ M, ((1 : Nat) : Int) + 3 * (L.length : Int) = M := ⟨_, rfl⟩
      have hM0 : decide (M < 0) = false := by rw [← hM]; simp; omega
      have hMM : (M != M) = false := by simp
      rw [hM] at HMK HHD
      have HLL := Lib.hid hLl
      clear hx hy hM hLl hs2
      go_enter Try.func7, Try.ntmps7
      go_wp2_with fail
      refine (HS.out _).mono ?_
      rintro e w1 ⟨rfl, hb1⟩
      have F1 := Lib.hid (F0.more hb1)
      have G1 := Lib.hid (G0.more hb1)
      obtain ⟨y0, y1, y2, y3⟩ := G1.out.four
      clear hb1 F0 G0
      go_wp2_with fail
      refine (HS2.out _).mono ?_
      rintro e w2 ⟨rfl, hb2⟩
      have HB := Lib.hid (F1.out.more hb2).below
      have P2 := Lib.hid (F1.out.more hb2).box
      have X2 := Lib.hid (G1.out.more hb2)
      clear hb2 y0 y1 y2 y3
      go_upto_region 8 with fail
      go_cut [6, 7] from 24 to 31 (fun s6 s7 wx => ∃ g : Nat, s6 = .pointer (some ⟨g, 0, none⟩) ∧ Below w2.heap.size w2 wx ∧ Box wx g (unL c N B R Lo) ∧ w2.heap.size ≤ g ∧ OwnP wx w2.heap.size s7 L)
      case first =>
        have Z0 := (ZZ.start P2.out X2.out).drew
        have Z1 := ((ZZ.start P2.out X2.out).new (unL 0 0 false ⟨#[]⟩ 0) 45).drew
        have Z2 := Z0.new (unL 0 0 false ⟨#[]⟩ 0) 45
        have FA := Lib.hid (fun W zo (hz : ZZ w2 W w.heap.size (w.heap.size + 1) (unL c n b r l) (frL ch co fi d) zo) => (HT.out W).mono fun e w' hh => (show e = .returned (unV c n b r l) ∧ Below W.heap.size W w' ∧ ZZ w2 w' w.heap.size (w.heap.size + 1) (unL c n b r l) (frL ch co fi d) zo from ⟨hh.1, hh.2, hz.more hh.2⟩))
        have FB := Lib.hid (fun W zo (hz : ZZ w2 W w.heap.size (w.heap.size + 1) (unL c n b r l) (frL ch co fi d) zo) => (HP.out W).mono fun e w' hh => (show e = .returned (frV ch co fi d) ∧ Below W.heap.size W w' ∧ ZZ w2 w' w.heap.size (w.heap.size + 1) (unL c n b r l) (frL ch co fi d) zo from ⟨hh.1, hh.2, hz.more hh.2⟩))
        have FF := Lib.hid (fun W zo (hz : ZZ w2 W w.heap.size (w.heap.size + 1) (unL c n b r l) (frL ch co fi d) zo) => (HX.out W).mono fun e w' hh => (show ∃ v, e = .returned (.tuple #[unV c N B R Lo, v]) ∧ OwnP w' W.heap.size v L ∧ ZZ w2 w' w.heap.size (w.heap.size + 1) (unL c n b r l) (frL ch co fi d) zo ∧ w2.heap.size ≤ W.heap.size ∧ (∀ z, zo = some z → z.1 < W.heap.size) from by
          obtain ⟨v, h1, h2, h3⟩ := hh
          exact ⟨v, h1, h2, hz.more h3, hz.below.size, fun z e => (hz.bz z e).1.lt⟩))
        (try clear HT); (try clear HP); (try clear HX); (try clear HY); (try clear HEU); (try clear HEL); (try clear HMK); (try clear HHD); (try clear HLL); (try clear HS); (try clear HS2); (try clear HB); (try clear P2); (try clear X2); (try clear FB4); (try clear P4); (try clear X4); (try clear HW4); (try clear HO4); (try clear FB8); (try clear P8); (try clear X8); (try clear HW8); (try clear HO8); (try clear HVG); (try clear HZ8); (try clear HE9); (try clear HB9); (try clear BB); (try clear HMK10); (try clear B11); (try clear P11); (try clear X11); (try clear W11); (try clear O11); (try clear FB11); (try clear HMKP); (try clear P12); (try clear X12); (try clear W12); (try clear O12); (try clear FB12); (try clear HMKP12); (try clear F1); (try clear G1); (try clear hM0); (try clear hMM); (try clear hd0); (try clear hd1)
        go_wp2
        go_region_held3 (fun w' => w'.cell? ⟨w.heap.size, 0, none⟩ = some (.int .i64 c) ∧ w'.cell? ⟨w.heap.size, 1, none⟩ = some (.int .i64 n) ∧ w'.cell? ⟨w.heap.size, 2, none⟩ = some (.bool b) ∧ w'.cell? ⟨w.heap.size, 3, none⟩ = some (.string r) ∧ w'.cell? ⟨w.heap.size, 4, none⟩ = some (.int .i64 l) ∧ w'.cell? ⟨w.heap.size + 1, 0, none⟩ = some (.int .i64 ch) ∧ w'.cell? ⟨w.heap.size + 1, 1, none⟩ = some (.int .i64 co) ∧ w'.cell? ⟨w.heap.size + 1, 2, none⟩ = some (.int .i64 fi) ∧ w'.cell? ⟨w.heap.size + 1, 3, none⟩ = some (.string d))
          (first | with_reducible exact Z0.cells54 | with_reducible exact Z1.cells54 | with_reducible exact Z2.cells54 | with_reducible exact ZF.cells54 | with_reducible exact (ZF.alloc _).cells54 | with_reducible exact ZA.cells54 | with_reducible exact ZB.cells54 | with_reducible exact (ZA.alloc _).cells54 | with_reducible exact (ZB.alloc _).cells54 | exact (ZF.put (unL c N B R Lo) rfl).cells54)
          (first
            | (go_at_call 24; (first
                | (with_reducible refine (FA.out _ _ Z0).mono ?_)
                | (with_reducible refine (FA.out _ _ Z1).mono ?_)
                | (with_reducible refine (FA.out _ _ Z2).mono ?_)
                | (with_reducible refine (FA.out _ _ ZB).mono ?_)
                | (with_reducible refine (FA.out _ _ (ZB.new (unL 0 0 false ⟨#[]⟩ 0) 45)).mono ?_)); rintro e wA ⟨rfl, BA, ZA⟩)
            | (go_at_call 31; (first
                | (with_reducible refine (FB.out _ _ Z0).mono ?_)
                | (with_reducible refine (FB.out _ _ Z1).mono ?_)
                | (with_reducible refine (FB.out _ _ Z2).mono ?_)
                | (with_reducible refine (FB.out _ _ ZA).mono ?_)
                | (with_reducible refine (FB.out _ _ (ZA.new (unL 0 0 false ⟨#[]⟩ 0) 45)).mono ?_)); rintro e wB ⟨rfl, BB, ZB⟩)
            | (go_at_call 30; (first
                | (with_reducible refine (FF.out _ _ ZB).mono ?_)
                | (with_reducible refine (FF.out _ _ ZA).mono ?_)
                | (with_reducible refine (FF.out _ _ (ZB.new (unL 0 0 false ⟨#[]⟩ 0) 45)).mono ?_)
                | (with_reducible refine (FF.out _ _ (ZA.new (unL 0 0 false ⟨#[]⟩ 0) 45)).mono ?_)); rintro e wF ⟨v, rfl, OF, ZF, hbn, hzn⟩; try (have zb := ZF.box.1; obtain ⟨z0, z1, z2, z3, z4⟩ := zb.five; have zi := zb.ice)))
        all_goals go_wp2_with fail
        all_goals go_meet
        all_goals (first
          | exact ⟨_, rfl, (ZF.alloc _).below, Box.made _ (unL c N B R Lo) _ _ rfl, ZF.below.size, OwnR.lower (OwnR.more OF ((Below.refl _ _).alloc (Nat.le_refl _) _)) hbn⟩
          | exact ⟨_, rfl, (ZF.put (unL c N B R Lo) rfl).below, (ZF.put (unL c N B R Lo) rfl).box.1, ZF.box.2, OwnR.lower (OwnR.cellsAway (fun e => by have h1 := (OwnR.upto OF _ e).1; have h2 := hzn _ rfl; simp only at h2; omega) (unL c N B R Lo) 0 _ OF) hbn⟩)
      case rest =>
        obtain ⟨g4, rfl, B4, W4, l4, O4⟩ := hcut
        generalize wc = w4 at *
        rename_i vw
        have FB4 := Lib.hid (HB.out.trans (B4.mono HB.out.size))
        have P4 := Lib.hid (P2.out.more B4)
        have X4 := Lib.hid (X2.out.more B4)
        have HW4 := Lib.hid W4
        have HO4 := Lib.hid O4
        clear B4 W4 O4 l4
        (try clear HB); (try clear P2); (try clear X2); (try clear F1); (try clear G1); (try clear HX); (try clear HS); (try clear HS2); (try clear HT0)
        go_upto_region 9 with fail
        go_cut [8, 9] from 32 to 39 (fun s8 s9 wx => ∃ g : Nat, s8 = .pointer (some ⟨g, 0, none⟩) ∧ Below w4.heap.size w4 wx ∧ Box wx g (unL c N B R Lo) ∧ w4.heap.size ≤ g ∧ OwnP wx w4.heap.size s9 L)
        case first =>
          have Z0 := (ZZ.start P4.out X4.out).drew
          have Z1 := ((ZZ.start P4.out X4.out).new (unL 0 0 false ⟨#[]⟩ 0) 45).drew
          have Z2 := Z0.new (unL 0 0 false ⟨#[]⟩ 0) 45
          have FA := Lib.hid (fun W zo (hz : ZZ w4 W w.heap.size (w.heap.size + 1) (unL c n b r l) (frL ch co fi d) zo) => (HT.out W).mono fun e w' hh => (show e = .returned (unV c n b r l) ∧ Below W.heap.size W w' ∧ ZZ w4 w' w.heap.size (w.heap.size + 1) (unL c n b r l) (frL ch co fi d) zo from ⟨hh.1, hh.2, hz.more hh.2⟩))
          have FB := Lib.hid (fun W zo (hz : ZZ w4 W w.heap.size (w.heap.size + 1) (unL c n b r l) (frL ch co fi d) zo) => (HP.out W).mono fun e w' hh => (show e = .returned (frV ch co fi d) ∧ Below W.heap.size W w' ∧ ZZ w4 w' w.heap.size (w.heap.size + 1) (unL c n b r l) (frL ch co fi d) zo from ⟨hh.1, hh.2, hz.more hh.2⟩))
          have FF := Lib.hid (fun W zo (hz : ZZ w4 W w.heap.size (w.heap.size + 1) (unL c n b r l) (frL ch co fi d) zo) => (HY.out W).mono fun e w' hh => (show ∃ v, e = .returned (.tuple #[unV c N B R Lo, v]) ∧ OwnP w' W.heap.size v L ∧ ZZ w4 w' w.heap.size (w.heap.size + 1) (unL c n b r l) (frL ch co fi d) zo ∧ w4.heap.size ≤ W.heap.size ∧ (∀ z, zo = some z → z.1 < W.heap.size) from by
            obtain ⟨v, h1, h2, h3⟩ := hh
            exact ⟨v, h1, h2, hz.more h3, hz.below.size, fun z e => (hz.bz z e).1.lt⟩))
          (try clear HT); (try clear HP); (try clear HX); (try clear HY); (try clear HEU); (try clear HEL); (try clear HMK); (try clear HHD); (try clear HLL); (try clear HS); (try clear HS2); (try clear HB); (try clear P2); (try clear X2); (try clear FB4); (try clear P4); (try clear X4); (try clear HW4); (try clear HO4); (try clear FB8); (try clear P8); (try clear X8); (try clear HW8); (try clear HO8); (try clear HVG); (try clear HZ8); (try clear HE9); (try clear HB9); (try clear BB); (try clear HMK10); (try clear B11); (try clear P11); (try clear X11); (try clear W11); (try clear O11); (try clear FB11); (try clear HMKP); (try clear P12); (try clear X12); (try clear W12); (try clear O12); (try clear FB12); (try clear HMKP12); (try clear F1); (try clear G1); (try clear hM0); (try clear hMM); (try clear hd0); (try clear hd1)
          go_wp2
          go_region_held3 (fun w' => w'.cell? ⟨w.heap.size, 0, none⟩ = some (.int .i64 c) ∧ w'.cell? ⟨w.heap.size, 1, none⟩ = some (.int .i64 n) ∧ w'.cell? ⟨w.heap.size, 2, none⟩ = some (.bool b) ∧ w'.cell? ⟨w.heap.size, 3, none⟩ = some (.string r) ∧ w'.cell? ⟨w.heap.size, 4, none⟩ = some (.int .i64 l) ∧ w'.cell? ⟨w.heap.size + 1, 0, none⟩ = some (.int .i64 ch) ∧ w'.cell? ⟨w.heap.size + 1, 1, none⟩ = some (.int .i64 co) ∧ w'.cell? ⟨w.heap.size + 1, 2, none⟩ = some (.int .i64 fi) ∧ w'.cell? ⟨w.heap.size + 1, 3, none⟩ = some (.string d))
            (first | with_reducible exact Z0.cells54 | with_reducible exact Z1.cells54 | with_reducible exact Z2.cells54 | with_reducible exact ZF.cells54 | with_reducible exact (ZF.alloc _).cells54 | with_reducible exact ZA.cells54 | with_reducible exact ZB.cells54 | with_reducible exact (ZA.alloc _).cells54 | with_reducible exact (ZB.alloc _).cells54 | exact (ZF.put (unL c N B R Lo) rfl).cells54)
            (first
              | (go_at_call 24; (first
                  | (with_reducible refine (FA.out _ _ Z0).mono ?_)
                  | (with_reducible refine (FA.out _ _ Z1).mono ?_)
                  | (with_reducible refine (FA.out _ _ Z2).mono ?_)
                  | (with_reducible refine (FA.out _ _ ZB).mono ?_)
                  | (with_reducible refine (FA.out _ _ (ZB.new (unL 0 0 false ⟨#[]⟩ 0) 45)).mono ?_)); rintro e wA ⟨rfl, BA, ZA⟩)
              | (go_at_call 31; (first
                  | (with_reducible refine (FB.out _ _ Z0).mono ?_)
                  | (with_reducible refine (FB.out _ _ Z1).mono ?_)
                  | (with_reducible refine (FB.out _ _ Z2).mono ?_)
                  | (with_reducible refine (FB.out _ _ ZA).mono ?_)
                  | (with_reducible refine (FB.out _ _ (ZA.new (unL 0 0 false ⟨#[]⟩ 0) 45)).mono ?_)); rintro e wB ⟨rfl, BB, ZB⟩)
              | (go_at_call 32; (first
                  | (with_reducible refine (FF.out _ _ ZB).mono ?_)
                  | (with_reducible refine (FF.out _ _ ZA).mono ?_)
                  | (with_reducible refine (FF.out _ _ (ZB.new (unL 0 0 false ⟨#[]⟩ 0) 45)).mono ?_)
                  | (with_reducible refine (FF.out _ _ (ZA.new (unL 0 0 false ⟨#[]⟩ 0) 45)).mono ?_)); rintro e wF ⟨v, rfl, OF, ZF, hbn, hzn⟩; try (have zb := ZF.box.1; obtain ⟨z0, z1, z2, z3, z4⟩ := zb.five; have zi := zb.ice)))
          all_goals go_wp2_with fail
          all_goals go_meet
          all_goals (first
            | exact ⟨_, rfl, (ZF.alloc _).below, Box.made _ (unL c N B R Lo) _ _ rfl, ZF.below.size, OwnR.lower (OwnR.more OF ((Below.refl _ _).alloc (Nat.le_refl _) _)) hbn⟩
            | exact ⟨_, rfl, (ZF.put (unL c N B R Lo) rfl).below, (ZF.put (unL c N B R Lo) rfl).box.1, ZF.box.2, OwnR.lower (OwnR.cellsAway (fun e => by have h1 := (OwnR.upto OF _ e).1; have h2 := hzn _ rfl; simp only at h2; omega) (unL c N B R Lo) 0 _ OF) hbn⟩)
        case rest =>
          obtain ⟨g8, rfl, B8, W8, l8, O8⟩ := hcut
          generalize wc = w8 at *
          rename_i vg
          have FB8 := Lib.hid (FB4.out.trans (B8.mono FB4.out.size))
          have P8 := Lib.hid (P4.out.more B8)
          have X8 := Lib.hid (X4.out.more B8)
          have HW8 := Lib.hid (HW4.out.more B8)
          have HO8 := Lib.hid (OwnR.more HO4.out B8)
          have HVG := Lib.hid O8
          have HZ8 := Lib.hid B8.size
          obtain ⟨g0, g1, g2, g3, g4'⟩ := W8.five
          obtain ⟨m0, m1, m2, m3, m4⟩ := HW8.out.five
          clear B8 W8 O8 l8
          (try clear FB4x); (try clear P4x)
          go_wp2_with fail
          refine (HEU.out _).mono ?_
          rintro e w9 ⟨rfl, hb9⟩
          have HE9 := Lib.hid (HEL.out _ _ _ _ w9 (OwnR.more HVG.out hb9) (OwnR.more HO8.out hb9))
          have HB9 := Lib.hid hb9
          clear hb9 g0 g1 g2 g3 g4' m0 m1 m2 m3 m4
          go_wp2_with fail
          refine HE9.out.mono ?_
          rintro e w10 ⟨rfl, hb10⟩
          have BB := Lib.hid (HB9.out.trans (hb10.mono HB9.out.size))
          clear hb10
          have HMK10 := Lib.hid (HMK.out _ w4.heap.size w10 (OwnR.more HVG.out BB.out) (Nat.le_trans HZ8.out BB.out.size))
          go_wp2_with fail
          refine HMK10.out.mono ?_
          rintro e w11 ⟨rfl, hb11, hz11, hmk⟩
          have B11 := Lib.hid (BB.out.mono HZ8.out |>.trans hb11)
          have P11 := Lib.hid (P8.out.moreAt B11.out P4.out.lt B11.out.size)
          have X11 := Lib.hid (X8.out.moreAt B11.out X4.out.lt B11.out.size)
          have W11 := Lib.hid (HW8.out.moreAt B11.out HW4.out.lt B11.out.size)
          have O11 := Lib.hid (OwnR.moreAt HO8.out B11.out (fun k hk => (OwnR.upto HO4.out k hk).2))
          have FB11 := Lib.hid (FB8.out.trans (B11.out.mono FB4.out.size))
          have HMKP := Lib.hid hmk
          have HH11 := Lib.hid (HHD.out _ w11 hmk)
          clear hb11 hz11 hmk
          (try clear FB8); (try clear P8); (try clear X8); (try clear HW8); (try clear HO8); (try clear HVG); (try clear HZ8); (try clear HE9); (try clear HB9); (try clear BB); (try clear HMK10); (try clear B11); (try clear FB4); (try clear P4); (try clear X4); (try clear HW4); (try clear HO4); (try clear HMK)
          go_wp2_with fail
          refine HH11.out.mono ?_
          rintro e w12 ⟨rfl, hb12⟩
          have P12 := Lib.hid (P11.out.more hb12)
          have X12 := Lib.hid (X11.out.more hb12)
          have W12 := Lib.hid (W11.out.more hb12)
          have O12 := Lib.hid (OwnR.more O11.out hb12)
          have FB12 := Lib.hid (FB11.out.trans (hb12.mono FB11.out.size))
          have HMKP12 := Lib.hid (HMKP.out.more hb12)
          clear hb12
          (try clear P11); (try clear X11); (try clear W11); (try clear O11); (try clear FB11); (try clear HMKP)
          go_upto_region 20 with fail
          go_cut [12, 13] from 61 to 68 (fun s12 s13 wx => ∃ g : Nat, s12 = .pointer (some ⟨g, 0, none⟩) ∧ Below w12.heap.size w12 wx ∧ Box wx g (unL c N B R Lo) ∧ w12.heap.size ≤ g ∧ OwnP wx w12.heap.size s13 L)
          case first =>
            have Z0 := (ZZ.start P12.out X12.out).drew
            have Z1 := ((ZZ.start P12.out X12.out).new (unL 0 0 false ⟨#[]⟩ 0) 45).drew
            have Z2 := Z0.new (unL 0 0 false ⟨#[]⟩ 0) 45
            have FA := Lib.hid (fun W zo (hz : ZZ w12 W w.heap.size (w.heap.size + 1) (unL c n b r l) (frL ch co fi d) zo) => (HT.out W).mono fun e w' hh => (show e = .returned (unV c n b r l) ∧ Below W.heap.size W w' ∧ ZZ w12 w' w.heap.size (w.heap.size + 1) (unL c n b r l) (frL ch co fi d) zo from ⟨hh.1, hh.2, hz.more hh.2⟩))
            have FB := Lib.hid (fun W zo (hz : ZZ w12 W w.heap.size (w.heap.size + 1) (unL c n b r l) (frL ch co fi d) zo) => (HP.out W).mono fun e w' hh => (show e = .returned (frV ch co fi d) ∧ Below W.heap.size W w' ∧ ZZ w12 w' w.heap.size (w.heap.size + 1) (unL c n b r l) (frL ch co fi d) zo from ⟨hh.1, hh.2, hz.more hh.2⟩))
            have FF := Lib.hid (fun W zo (hz : ZZ w12 W w.heap.size (w.heap.size + 1) (unL c n b r l) (frL ch co fi d) zo) => (HY.out W).mono fun e w' hh => (show ∃ v, e = .returned (.tuple #[unV c N B R Lo, v]) ∧ OwnP w' W.heap.size v L ∧ ZZ w12 w' w.heap.size (w.heap.size + 1) (unL c n b r l) (frL ch co fi d) zo ∧ w12.heap.size ≤ W.heap.size ∧ (∀ z, zo = some z → z.1 < W.heap.size) from by
              obtain ⟨v, h1, h2, h3⟩ := hh
              exact ⟨v, h1, h2, hz.more h3, hz.below.size, fun z e => (hz.bz z e).1.lt⟩))
            (try clear HT); (try clear HP); (try clear HX); (try clear HY); (try clear HEU); (try clear HEL); (try clear HMK); (try clear HHD); (try clear HLL); (try clear HS); (try clear HS2); (try clear HB); (try clear P2); (try clear X2); (try clear FB4); (try clear P4); (try clear X4); (try clear HW4); (try clear HO4); (try clear FB8); (try clear P8); (try clear X8); (try clear HW8); (try clear HO8); (try clear HVG); (try clear HZ8); (try clear HE9); (try clear HB9); (try clear BB); (try clear HMK10); (try clear B11); (try clear P11); (try clear X11); (try clear W11); (try clear O11); (try clear FB11); (try clear HMKP); (try clear P12); (try clear X12); (try clear W12); (try clear O12); (try clear FB12); (try clear HMKP12); (try clear F1); (try clear G1); (try clear hM0); (try clear hMM); (try clear hd0); (try clear hd1)
            go_wp2
            go_region_held3 (fun w' => w'.cell? ⟨w.heap.size, 0, none⟩ = some (.int .i64 c) ∧ w'.cell? ⟨w.heap.size, 1, none⟩ = some (.int .i64 n) ∧ w'.cell? ⟨w.heap.size, 2, none⟩ = some (.bool b) ∧ w'.cell? ⟨w.heap.size, 3, none⟩ = some (.string r) ∧ w'.cell? ⟨w.heap.size, 4, none⟩ = some (.int .i64 l) ∧ w'.cell? ⟨w.heap.size + 1, 0, none⟩ = some (.int .i64 ch) ∧ w'.cell? ⟨w.heap.size + 1, 1, none⟩ = some (.int .i64 co) ∧ w'.cell? ⟨w.heap.size + 1, 2, none⟩ = some (.int .i64 fi) ∧ w'.cell? ⟨w.heap.size + 1, 3, none⟩ = some (.string d))
              (first | with_reducible exact Z0.cells54 | with_reducible exact Z1.cells54 | with_reducible exact Z2.cells54 | with_reducible exact ZF.cells54 | with_reducible exact (ZF.alloc _).cells54 | with_reducible exact ZA.cells54 | with_reducible exact ZB.cells54 | with_reducible exact (ZA.alloc _).cells54 | with_reducible exact (ZB.alloc _).cells54 | exact (ZF.put (unL c N B R Lo) rfl).cells54)
              (first
                | (go_at_call 24; (first
                    | (with_reducible refine (FA.out _ _ Z0).mono ?_)
                    | (with_reducible refine (FA.out _ _ Z1).mono ?_)
                    | (with_reducible refine (FA.out _ _ Z2).mono ?_)
                    | (with_reducible refine (FA.out _ _ ZB).mono ?_)
                    | (with_reducible refine (FA.out _ _ (ZB.new (unL 0 0 false ⟨#[]⟩ 0) 45)).mono ?_)); rintro e wA ⟨rfl, BA, ZA⟩)
                | (go_at_call 31; (first
                    | (with_reducible refine (FB.out _ _ Z0).mono ?_)
                    | (with_reducible refine (FB.out _ _ Z1).mono ?_)
                    | (with_reducible refine (FB.out _ _ Z2).mono ?_)
                    | (with_reducible refine (FB.out _ _ ZA).mono ?_)
                    | (with_reducible refine (FB.out _ _ (ZA.new (unL 0 0 false ⟨#[]⟩ 0) 45)).mono ?_)); rintro e wB ⟨rfl, BB, ZB⟩)
                | (go_at_call 32; (first
                    | (with_reducible refine (FF.out _ _ ZB).mono ?_)
                    | (with_reducible refine (FF.out _ _ ZA).mono ?_)
                    | (with_reducible refine (FF.out _ _ (ZB.new (unL 0 0 false ⟨#[]⟩ 0) 45)).mono ?_)
                    | (with_reducible refine (FF.out _ _ (ZA.new (unL 0 0 false ⟨#[]⟩ 0) 45)).mono ?_)); rintro e wF ⟨v, rfl, OF, ZF, hbn, hzn⟩; try (have zb := ZF.box.1; obtain ⟨z0, z1, z2, z3, z4⟩ := zb.five; have zi := zb.ice)))
            all_goals go_wp2_with fail
            all_goals go_meet
            all_goals (first
              | exact ⟨_, rfl, (ZF.alloc _).below, Box.made _ (unL c N B R Lo) _ _ rfl, ZF.below.size, OwnR.lower (OwnR.more OF ((Below.refl _ _).alloc (Nat.le_refl _) _)) hbn⟩
              | exact ⟨_, rfl, (ZF.put (unL c N B R Lo) rfl).below, (ZF.put (unL c N B R Lo) rfl).box.1, ZF.box.2, OwnR.lower (OwnR.cellsAway (fun e => by have h1 := (OwnR.upto OF _ e).1; have h2 := hzn _ rfl; simp only at h2; omega) (unL c N B R Lo) 0 _ OF) hbn⟩)
          case rest =>
            obtain ⟨g18, rfl, B18, W18, l18, O18⟩ := hcut
            generalize wc = w18 at *
            rename_i vh
            have HW18 := Lib.hid (W12.out.more B18)
            have HO18 := Lib.hid (OwnR.more O12.out B18)
            have HVH := Lib.hid O18
            have FB18 := Lib.hid (FB12.out.trans (B18.mono FB12.out.size))
            have HMKP18 := Lib.hid (HMKP12.out.more B18)
            obtain ⟨g0, g1, g2, g3, g4'⟩ := W18.five
            obtain ⟨m0, m1, m2, m3, m4⟩ := HW18.out.five
            clear B18 W18 O18 l18
            (try clear P12); (try clear X12); (try clear W12); (try clear O12); (try clear FB12); (try clear HMKP12); (try clear HT); (try clear HP); (try clear HY)
            go_wp2_with fail
            refine (HEU.out _).mono ?_
            rintro e w19 ⟨rfl, hb19⟩
            have HE19 := Lib.hid (HEL.out _ _ _ _ w19 (OwnR.more HVH.out hb19) (OwnR.more HO18.out hb19))
            have FB19 := Lib.hid (FB18.out.trans (hb19.mono FB18.out.size))
            have HMKP19 := Lib.hid (HMKP18.out.more hb19)
            clear hb19 g0 g1 g2 g3 g4' m0 m1 m2 m3 m4
            go_wp2_with fail
            refine HE19.out.mono ?_
            rintro e w20 ⟨rfl, hb20⟩
            have FB20 := Lib.hid (FB19.out.trans (hb20.mono FB19.out.size))
            have HH20 := Lib.hid (HHD.out _ w20 (HMKP19.out.more hb20))
            clear hb20
            go_wp2_with fail
            refine HH20.out.mono ?_
            rintro e w21 ⟨rfl, hb21⟩
            have FB21 := Lib.hid (FB20.out.trans (hb21.mono FB20.out.size))
            clear hb21
            go_wp2
            go_ret
            exact ⟨rfl, FB21.out⟩
    · simp only [if_neg hL2] at hs2
      have HS2 := Lib.hid hs2
      clear hs2
      go_enter Try.func7, Try.ntmps7
      go_wp2_with fail
      refine (HS.out _).mono ?_
      rintro e w1 ⟨rfl, hb1⟩
      have F1 := Lib.hid (F0.more hb1)
      have G1 := Lib.hid (G0.more hb1)
      obtain ⟨y0, y1, y2, y3⟩ := G1.out.four
      clear hb1 F0 G0
      go_wp2_with fail
      refine (HS2.out _).mono ?_
      rintro e w2 ⟨rfl, hb2⟩
      have HB := Lib.hid (F1.out.more hb2).below
      clear hb2 y0 y1 y2 y3
      go_wp2
      go_ret
      exact ⟨rfl, HB.out⟩
  · simp only [if_neg hL] at hs
    have HS := Lib.hid hs
    clear hs
    go_enter Try.func7, Try.ntmps7
    go_wp2_with fail
    refine (HS.out _).mono ?_
    rintro e w1 ⟨rfl, hb1⟩
    have F1 := Lib.hid (F0.more hb1)
    clear hb1 F0 G0
    go_wp2
    go_ret
    exact ⟨rfl, F1.out.below⟩
end Go.Proofs.Ytegahdlfjdjcaab
