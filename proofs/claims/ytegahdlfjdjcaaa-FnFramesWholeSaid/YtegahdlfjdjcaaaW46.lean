/- What this text proves: the parts LWholeLaw of the proof, each under its own words. -/
import Derived.Test.YtegahdlfjdjcaaaW42
import Derived.Test.YtegahdlfjdjcaaaW44
import Derived.Test.YtegahdlfjdjcaaaW45
import Derived.Test.YtegahdlfjdjcaaaW25
import Derived.Test.YtegahdlfjdjcaaaW26
import Derived.Test.YtegahdlfjdjcaaaW24
import Derived.Test.YtegahdlfjdjcaaaW39
import Derived.Deep.RegionHeld3
import Derived.Deep.Cut
import Derived.Deep.CutRange
/- What this text proves: the law that all packets come out of their frames, in order, and nothing is left, returns true for every bytes that it draws from. -/
namespace Go.Proofs.Ytegahdlfjdjcaaa
open Go.ChangeShapes Go.WideShapes Go.ChangeAt Go.RowKit
set_option linter.unusedVariables false

theorem pack_call {n : Int} {r : ByteArray} {l : List Int} {t : Un4} {A : List Pk} (h : Wh n r l t A) {p : Pk} (hp : OkQ p) (hs : r.size ≤ 1000) (hl : l.length ≤ 1000) :
    ∃ (r' : ByteArray) (l' : List Int), Wh n r' l' t (A ++ [p]) ∧ r'.size ≤ r.size + 44 ∧ l'.length ≤ l.length + 1 ∧
      (∀ v W b, OwnI W b v l → Calls Try.prog 20 #[paV 0 n r v, pkV p.1 p.2.1 p.2.2] W fun e w' => ∃ A1 c1, e = .returned (.tuple #[paV 0 n r' (.slice A1 l'.length c1), .bool true]) ∧ OwnI w' W.heap.size (.slice A1 l'.length c1) l' ∧ Below W.heap.size W w') := by
  have hd := hp.2.2
  obtain ⟨h1, h2⟩ := h.pack hp (by omega)
  obtain ⟨p1, p2, p3, _⟩ := packed h.pa hp (by omega)
  refine ⟨_, _, h2, by rw [p2, ByteArray.size_append, pkT_size hp]; omega, by rw [p3]; simp, fun v W b ho => ?_⟩
  obtain ⟨A1, c1, rfl⟩ := ho.form
  refine (pack_impl 0 n r A1 l c1 p.1 p.2.1 p.2.2 (by omega) (by omega) (by omega) W ho.ints).mono ?_
  rintro e w' ⟨v, e1, e2, e3⟩
  rw [h1] at e1
  obtain ⟨A2, c2, rfl⟩ := e2.form
  exact ⟨A2, c2, e1, e2, e3⟩
theorem fill_call {n : Int} {r : ByteArray} {l : List Int} {t : Un4} {A : List Pk} (h : Wh n r l t A) (hs : r.size ≤ 1000) (hl : l.length ≤ 1000) :
    ∃ (r' : ByteArray) (l' : List Int) (A' : List Pk), Wh n r' l' t A' ∧ realQ A' = realQ A ∧ r'.size % 24 = 0 ∧ r'.size ≤ r.size + 27 ∧ l'.length ≤ l.length + 1 ∧
      (∀ v W b, OwnI W b v l → Calls Try.prog 23 #[paV 0 n r v] W fun e w' => ∃ A1 c1, e = .returned (paV 0 n r' (.slice A1 l'.length c1)) ∧ OwnI w' W.heap.size (.slice A1 l'.length c1) l' ∧ Below W.heap.size W w') := by
  obtain ⟨h1, h2, h3, h4⟩ := h.fill (by omega)
  refine ⟨_, _, _, h1, by rw [realQ_app, (idleQ_ok r.size).2, List.append_nil], h2, h3, h4, fun v W b ho => ?_⟩
  obtain ⟨A1, c1, rfl⟩ := ho.form
  refine (fill_impl 0 n r A1 l c1 (by omega) (by omega) W ho.ints).mono ?_
  rintro e w' ⟨v, e1, e2, e3⟩
  obtain ⟨A2, c2, rfl⟩ := e2.form
  exact ⟨A2, c2, e1, e2, e3⟩

set_option maxRecDepth 100000 in
set_option maxHeartbeats 16000000 in
theorem law_framesWhole (A : Option Addr) (n c : Nat) (hm : n ≤ maxLen) (w : World) (hc : CodeOk w w.heap.size A n) :
    Calls Try.prog 4 #[.slice A n c] w fun e w' => e = .returned (.bool true) ∧ Below w.heap.size w w' := by
  by_cases hbig : 1048576 < n
  · go_enter Try.func4, Try.ntmps4
    go_wp2_with (go_at_call 15; refine (big_yes _ _ _ hbig hm _).mono ?_; rintro e w' ⟨rfl, rfl⟩)
    go_ret
    exact ⟨rfl, Below.refl _ _⟩
  · have hn : n ≤ 1048576 := by omega
    have Ha := Lib.hid (fun (w1 : World) (hb : Below w.heap.size w w1) i hi => at_any w.heap.size A n c hn i hi w1 (hc.more hb))
    have Hd := Lib.hid (draw_packets A n c hn w hc)
    clear hc hbig
    go_enter Try.func4, Try.ntmps4
    go_wp2_with (go_at_call 15; refine (big_no _ _ _ hn _).mono ?_; rintro e w' ⟨rfl, rfl⟩)
    refine Hd.out.mono ?_
    rintro e w1 ⟨v, L, hL1, hL7, hgood, rfl, hown, hb1⟩
    have HOL := Lib.hid hown
    obtain ⟨gl, cap, rfl, _, hgl, hcells, _⟩ := OwnP.rows hown (by omega)
    have HK := Lib.hid (fun p (hp : p ∈ L) => show OkQ p ∧ realP p = [p] from by
      have h := hgood p hp
      refine ⟨⟨⟨h.a0, by have := h.a1; omega⟩, ⟨h.q0, h.q1⟩, h.d⟩, ?_⟩
      unfold realP
      rw [if_neg (by have := h.a1; omega)])
    have HC := Lib.hid hcells
    have B1 := Lib.hid hb1
    obtain ⟨ip, hip, hp0, hp1, hp2⟩ := info_parts info_pktD
    have HIP := Lib.hid (And.intro hip (And.intro hp0 (And.intro hp1 hp2)))
    clear hcells hb1 hown hgood Hd hip hp0 hp1 hp2
    go_wp2_with fail
    refine (Ha.out _ B1.out 0 (by omega)).mono ?_
    rintro e w' ⟨x0, hx0, rfl, rfl⟩
    go_wp2_with fail
    refine (new_impl 0 _).mono ?_
    rintro e w2 ⟨rfl, hb2⟩
    have P1 := Box.made w1 (paL 0 (x0 : Int) ⟨#[]⟩ (.slice none 0 0)) 34 _ rfl
    have B0 : Below w1.heap.size w1 (w1.alloc (.cells (paL 0 (x0 : Int) ⟨#[]⟩ (.slice none 0 0)).toArray 34)) := (Below.refl _ _).alloc (Nat.le_refl _) _
    have hz2 : w1.heap.size < w2.heap.size := by have := hb2.size; simp at this; omega
    have P2 := (P1.more hb2).alloc (.cells (unL 0 (-1) false ⟨#[]⟩ 0).toArray 49)
    have U2 := Box.made w2 (unL 0 (-1) false ⟨#[]⟩ 0) 49 _ rfl
    have B2 := (B0.trans (hb2.mono B0.size)).alloc (by omega) (.cells (unL 0 (-1) false ⟨#[]⟩ 0).toArray 49)
    have F3 := Lib.hid (show FW w1 ((w2.alloc (.cells (unL 0 (-1) false ⟨#[]⟩ 0).toArray 49)).alloc (.cells #[] 28)) w1.heap.size w2.heap.size (paL 0 (x0 : Int) ⟨#[]⟩ (.slice none 0 0)) (unL 0 (-1) false ⟨#[]⟩ 0) (.slice none 0 0) [] (.slice (some ⟨w2.heap.size + 1, 0, none⟩) 0 0) [] from
      ⟨B2.alloc B2.size _, P2.alloc _, U2.alloc _, OwnI.nil _ _, by
        have h := OwnR.empty (E := 28) (sz := 3) (w2.alloc (.cells (unL 0 (-1) false ⟨#[]⟩ 0).toArray 49)) (w2.heap.size + 1) (by simp)
        rw [show (w2.alloc (.cells (unL 0 (-1) false ⟨#[]⟩ 0).toArray 49)).heap.size = w2.heap.size + 1 by simp] at h
        exact h, Nat.le_refl _, hz2⟩)
    clear P1 B0 hb2 P2 U2 B2
    go_upto_region 7 with fail
    generalize (w2.alloc (.cells #[.int .i64 0, .int .i64 (-1), .bool false, .string ⟨#[]⟩, .int .i64 0] 49)).alloc (.cells #[] 28) = w3 at *
    generalize w2.heap.size = gU at *
    have W0 : Wh (x0 : Int) ⟨#[]⟩ [] (-1, false, ⟨#[]⟩, 0) [] := ⟨pa_empty (by omega) (by omega), (fun p hp => by cases hp), nil_app _, rfl, by decide, (fun p B hB => by cases hB), .inr ⟨rfl, rfl, rfl, fun h => absurd h (by decide), fun h => absurd h (by decide)⟩⟩
    have HW0 := Lib.hid W0
    clear W0 hz2
    go_wp2
    go_loopg [6, 7] L.length (fun g v6 v7 wx => ∃ (k : Nat) (nn : Int) (r : ByteArray) (l : List Int) (t : Un4) (P G : List Pk) (vl : Value), k ≤ L.length ∧ g = L.length - k ∧ v7 = .int .i64 (k : Int) ∧ FW w1 wx w1.heap.size gU (paL 0 nn r vl) (unL 0 t.1 t.2.1 t.2.2.1 t.2.2.2) vl l v6 G ∧ Wh nn r l t P ∧ G ++ realQ P = L.take k ∧ r.size ≤ 23 ∧ l.length ≤ 2 * k)
    case atStart => exact ⟨0, _, _, _, _, _, _, _, by omega, by omega, by go_num, F3.out, HW0.out, rfl, by decide, by decide⟩
    case round =>
      obtain ⟨k, nn, r, l, ⟨tn, tb, tr, tl⟩, P, G, vl, hk, rfl, rfl, hF, hW, hG, hr, hl⟩ := hrel
      clear F3 HW0
      by_cases hlt : k < L.length
      · have hd : decide (k < L.length) = true := by simp; omega
        have F4 := Lib.hid hF
        obtain ⟨hp, hrp⟩ := HK.out _ (List.getElem_mem hlt)
        have hq1 : realQ [L[k]'hlt] = [L[k]'hlt] := by unfold realQ; simp [hrp]
        have hG1 : G ++ realQ (P ++ [L[k]'hlt]) = L.take (k + 1) := by rw [realQ_app, ← List.append_assoc, hG, hq1, takeQ_snoc L k hlt]
        obtain ⟨r1, l1, hW1, hr1, hl1, hPK⟩ := pack_call hW hp (by omega) (by omega)
        obtain ⟨x0, x1, x2⟩ := HC.out k hlt
        have k7 := Lib.hid (show Cells7 wr w1.heap.size gl (k * 3) _ _ _ _ _ _ _ from ⟨hF.bp.fourP.1, hF.bp.fourP.2.1, hF.bp.fourP.2.2.1, hF.bp.fourP.2.2.2, (hF.below.cell (p := ⟨gl, k * 3, none⟩) hgl).trans x0, (hF.below.cell (p := ⟨gl, k * 3 + 1, none⟩) hgl).trans x1, (hF.below.cell (p := ⟨gl, k * 3 + 2, none⟩) hgl).trans x2⟩)
        have lP : w1.heap.size < wr.heap.size := hF.bp.lt
        have lL : gl < wr.heap.size := by omega
        have HG1 := Lib.hid hG1
        generalize P ++ [L[k]'hlt] = P1 at *
        generalize (L[k]'hlt).1 = a at *
        generalize (L[k]'hlt).2.1 = q at *
        generalize (L[k]'hlt).2.2 = d at *
        have HPK := Lib.hid hPK
        obtain ⟨r2, l2, P2, hW2, hq2, _, hr2, hl2, hFC⟩ := fill_call hW1 (by omega) (by omega)
        have HFC := Lib.hid hFC
        have HW1 := Lib.hid hW1
        have HW2 := Lib.hid hW2
        have HQ2 := Lib.hid hq2
        have hl3 : l1.length ≤ 2 * k + 1 := by omega
        have hl4 : l2.length ≤ 2 * k + 2 := by omega
        have hr3 : r1.size ≤ 67 := by omega
        have hr4 : r2.size ≤ 94 := by omega
        clear hF hW hp hrp hq1 hG1 x0 x1 x2 hPK hFC hW1 hW2 hq2 hG hl1 hl2 hr1 hr2 hr hl
        generalize hwr : wr = w4 at *
        clear hwr
        go_upto_region 10 with fail
        go_cut [8, 9] from 32 to 40 (fun s8 s9 wx => ∃ (g : Nat) (v : Value), s8 = .pointer (some ⟨g, 0, none⟩) ∧ s9 = .bool true ∧ Kept7 w4 wx (fun v => paL 0 nn r1 v) l1 g v)
        case first =>
          have ZS : Z7 w4 w4 w1.heap.size gl (k * 3) (.int .i64 0) (.int .i64 nn) (.string r) vl (.int .i64 a) (.int .i64 q) (.string d) none := ⟨Below.refl _ _, k7.out, lP, lL, fun z e => by cases e⟩
          have Z0 := ZS.drew
          have Z1 := (ZS.new (paL 0 0 ⟨#[]⟩ (.slice none 0 0)) 34).drew
          have Z2 := Z0.new (paL 0 0 ⟨#[]⟩ (.slice none 0 0)) 34
          have FF := Lib.hid (fun W zo (hz : Z7 w4 W w1.heap.size gl (k * 3) (.int .i64 0) (.int .i64 nn) (.string r) vl (.int .i64 a) (.int .i64 q) (.string d) zo) => (HPK.out vl W _ (F4.out.oi.more hz.below)).mono fun e w' hh => (show ∃ A2 c2, e = .returned (.tuple #[paV 0 nn r1 (.slice A2 l1.length c2), .bool true]) ∧ OwnI w' W.heap.size (.slice A2 l1.length c2) l1 ∧ Z7 w4 w' w1.heap.size gl (k * 3) (.int .i64 0) (.int .i64 nn) (.string r) vl (.int .i64 a) (.int .i64 q) (.string d) zo ∧ w4.heap.size ≤ W.heap.size ∧ (∀ z, zo = some z → z.1 < W.heap.size) from by
            obtain ⟨A2, c2, h1, h2, h3⟩ := hh
            exact ⟨A2, c2, h1, h2, hz.more h3, hz.below.size, fun z e => (hz.bz z e).1.lt⟩))
          clear HPK HFC HW1 HW2 HQ2 HG1 HOL HIP B1
          go_wp2
          go_region_held3 (fun w' => Cells7 w' w1.heap.size gl (k * 3) (.int .i64 0) (.int .i64 nn) (.string r) vl (.int .i64 a) (.int .i64 q) (.string d))
            (first | with_reducible exact Z0.cs | with_reducible exact Z1.cs | with_reducible exact Z2.cs | with_reducible exact ZF.cs | with_reducible exact (ZF.alloc _).cs | exact (ZF.put (paL 0 nn r1 (.slice A2 l1.length c2)) rfl).cs)
            (first
              | (go_at_call 20; (first
                  | (with_reducible refine (FF.out _ _ Z0).mono ?_)
                  | (with_reducible refine (FF.out _ _ Z1).mono ?_)
                  | (with_reducible refine (FF.out _ _ Z2).mono ?_)); rintro e wF ⟨A2, c2, rfl, OF, ZF, hbn, hzn⟩; try (have zb := ZF.box.1; obtain ⟨z0, z1, z2, z3⟩ := zb.fourP; have zi := zb.ice)))
          all_goals go_wp2_with fail
          all_goals go_meet
          all_goals (first
            | exact ⟨_, _, rfl, rfl, ZF.fin_made (fun v => paL 0 nn r1 v) OF hbn _⟩
            | exact ⟨_, _, rfl, rfl, ZF.fin_put (fun v => paL 0 nn r1 v) OF (hzn _ rfl) rfl⟩)
        case rest =>
          obtain ⟨g8, v, rfl, rfl, hb5, P5, lg8, O5⟩ := hcut
          generalize wc = w5 at *
          have F5 := Lib.hid (F4.out.fresh hb5 O5)
          have hU8 : gU < g8 := by have := F4.out.far; omega
          have h68 := Lib.hid (show u6.ownBlock ≠ some g8 from fun e => by have := (OwnR.upto F4.out.og _ e).2; omega)
          have P5h := Lib.hid P5
          have FW5 := Lib.hid (B1.out.trans (F5.out.below.mono B1.out.size))
          clear hb5 P5 O5 F4 k7 lP lL HPK
          go_wp2_with fail
          refine (show Calls Try.prog 21 #[.slice A n c, .int .i64 ((k : Int) + 1)] w5 (Small w5) from Ha.out _ FW5.out (k + 1) (by omega)).mono ?_
          rintro e w' ⟨x3, hx3, rfl, rfl⟩
          go_upto_if 48 with fail
          generalize ((x3 : Int) % 3 == 0) = B at *
          go_cut [9] from 49 to 50 (fun s9 wx => s9 = .bool true ∧ ∃ (r3 : ByteArray) (l3 : List Int) (P3 : List Pk) (v3 : Value), Box wx g8 (paL 0 nn r3 v3) ∧ FW w1 wx w1.heap.size gU (paL 0 nn r vl) (unL 0 tn tb tr tl) v3 l3 u6 G ∧ Wh nn r3 l3 (tn, tb, tr, tl) P3 ∧ realQ P3 = realQ P1 ∧ r3.size ≤ 94 ∧ l3.length ≤ 2 * k + 2)
          case first =>
            cases B with
            | true =>
              obtain ⟨k0, k1, k2, k3⟩ := P5h.out.fourP
              have ki := P5h.out.ice
              go_wp2_with fail
              refine (HFC.out _ _ _ F5.out.oi).mono ?_
              rintro e w6 ⟨A6, c6, rfl, O6, hb6⟩
              have P6 := P5h.out.more hb6
              have F6 := Lib.hid (F5.out.freshPut hb6 O6 hU8 P5h.out.lt h68.out (paL 0 nn r2 (.slice A6 l2.length c6)))
              have P7 := Lib.hid (P6.all (us := paL 0 nn r2 (.slice A6 l2.length c6)) rfl)
              obtain ⟨m0, m1, m2, m3⟩ := P6.fourP
              have mi := P6.ice
              clear O6 hb6 P6 k0 k1 k2 k3 ki
              go_wp2_with fail
              go_meet
              exact ⟨rfl, _, _, _, _, P7.out, F6.out, HW2.out, HQ2.out, hr4, hl4⟩
            | false =>
              go_wp2_with fail
              go_meet
              exact ⟨rfl, _, _, _, _, P5h.out, F5.out, HW1.out, rfl, by omega, by omega⟩
          case rest =>
            obtain ⟨rfl, r3, l3, P3, v3, hP6, hF6, hW3, hq3, hr5, hl5⟩ := hcut
            obtain ⟨n4, r4, l4, ⟨un, ub, ur, ul⟩, P4, FL, PL, hW4, hq4, hr6, hl6, _, hTK, hPU⟩ := hW3.turn (by omega) (by omega)
            have HTK := Lib.hid hTK
            have HPU := Lib.hid hPU
            have HW4 := Lib.hid hW4
            have HG4 := Lib.hid (show G ++ PL ++ realQ P4 = L.take (k + 1) from by rw [List.append_assoc, hq4, hq3, HG1.out])
            have hlen := congrArg List.length HG4.out
            rw [List.length_append, List.length_append, List.length_take] at hlen
            have hl7 : l4.length ≤ 2 * (k + 1) := by omega
            have hGP : G.length + PL.length ≤ 7 := by omega
            have F6 := Lib.hid hF6
            have P6 := Lib.hid hP6
            clear hTK hPU hW4 hq4 hW3 hq3 hl6 hlen hF6 hP6 HG1 HW1 HW2 HQ2 HFC F5 P5h h68
            generalize wc = w6 at *
            obtain ⟨k0, k1, k2, k3⟩ := P6.out.fourP
            go_wp2_with fail
            refine (HTK.out _ _ _ F6.out.oi).mono ?_
            rintro e w7 ⟨A7, c7, v7, rfl, O7, OF7, hb7⟩
            have F7 := Lib.hid ((F6.out.fresh hb7 O7).more ((Below.refl _ _).alloc (Nat.le_refl _) (.cells (paL 0 n4 r4 (.slice A7 l4.length c7)).toArray 34)))
            have R7 := Lib.hid (Box.made w7 (paL 0 n4 r4 (.slice A7 l4.length c7)) 34 _ rfl)
            have OF8 := Lib.hid (OwnR.more OF7 ((Below.refl _ _).alloc (Nat.le_refl _) (.cells (paL 0 n4 r4 (.slice A7 l4.length c7)).toArray 34)))
            have lt7 : w1.heap.size < w6.heap.size := F6.out.bp.lt
            have lt8 := Lib.hid (show w1.heap.size ≠ w7.heap.size from by have := hb7.size; omega)
            clear O7 OF7 hb7 k0 k1 k2 k3 F6 P6 HTK
            go_upto_region 16 with fail
            generalize w7.alloc (.cells #[.int .i64 0, .int .i64 n4, .string r4, .slice A7 l4.length c7] 34) = w8 at *
            generalize w7.heap.size = g10 at *
            obtain ⟨k0, k1, k2, k3⟩ := R7.out.fourP
            obtain ⟨m0, m1, m2, m3⟩ := F7.out.bp.fourP
            have mi := F7.out.bp.ice
            have F8 := Lib.hid (show FW w1 ((((w8.setCell ⟨w1.heap.size, 0, none⟩ (.int .i64 0)).setCell ⟨w1.heap.size, 1, none⟩ (.int .i64 n4)).setCell ⟨w1.heap.size, 2, none⟩ (.string r4)).setCell ⟨w1.heap.size, 3, none⟩ (.slice A7 l4.length c7)) w1.heap.size gU (paL 0 n4 r4 (.slice A7 l4.length c7)) (unL 0 tn tb tr tl) (.slice A7 l4.length c7) l4 u6 G from F7.out.putP (paL 0 n4 r4 (.slice A7 l4.length c7)) rfl)
            have OF9 := Lib.hid (show OwnF ((((w8.setCell ⟨w1.heap.size, 0, none⟩ (.int .i64 0)).setCell ⟨w1.heap.size, 1, none⟩ (.int .i64 n4)).setCell ⟨w1.heap.size, 2, none⟩ (.string r4)).setCell ⟨w1.heap.size, 3, none⟩ (.slice A7 l4.length c7)) w6.heap.size v7 FL from OwnR.cellsAway (fun e => by have := (OwnR.upto OF8.out _ e).1; omega) (paL 0 n4 r4 (.slice A7 l4.length c7)) 0 _ OF8.out)
            go_upto_region 17 with fail
            clear k0 k1 k2 k3 m0 m1 m2 m3 mi F7 R7 OF8 lt8 lt7
            generalize (((w8.setCell ⟨w1.heap.size, 0, none⟩ (.int .i64 0)).setCell ⟨w1.heap.size, 1, none⟩ (.int .i64 n4)).setCell ⟨w1.heap.size, 2, none⟩ (.string r4)).setCell ⟨w1.heap.size, 3, none⟩ (.slice A7 l4.length c7) = w9 at *
            obtain ⟨k0, k1, k2, k3, k4⟩ := F8.out.bu.five
            go_wp2_with fail
            refine (HPU.out _ _ _ OF9.out).mono ?_
            rintro e w10 ⟨A10, c10, rfl, O10, hb10⟩
            have F10 := Lib.hid ((F8.out.more hb10).more ((Below.refl _ _).alloc (Nat.le_refl _) (.cells (unL 0 un ub ur ul).toArray 49)))
            have R10 := Lib.hid (Box.made w10 (unL 0 un ub ur ul) 49 _ rfl)
            have OP10 := Lib.hid (OwnR.more O10 ((Below.refl _ _).alloc (Nat.le_refl _) (.cells (unL 0 un ub ur ul).toArray 49)))
            have lt9 := Lib.hid (show gU < w9.heap.size from F8.out.bu.lt)
            clear O10 hb10 k0 k1 k2 k3 k4 F8 OF9 HPU
            go_upto_region 18 with fail
            generalize w10.alloc (.cells #[.int .i64 0, .int .i64 un, .bool ub, .string ur, .int .i64 ul] 49) = w11 at *
            generalize w10.heap.size = g12 at *
            obtain ⟨k0, k1, k2, k3, k4⟩ := R10.out.five
            obtain ⟨m0, m1, m2, m3, m4⟩ := F10.out.bu.five
            have mi := F10.out.bu.ice
            have F11 := Lib.hid (show FW w1 (((((w11.setCell ⟨gU, 0, none⟩ (.int .i64 0)).setCell ⟨gU, 1, none⟩ (.int .i64 un)).setCell ⟨gU, 2, none⟩ (.bool ub)).setCell ⟨gU, 3, none⟩ (.string ur)).setCell ⟨gU, 4, none⟩ (.int .i64 ul)) w1.heap.size gU (paL 0 n4 r4 (.slice A7 l4.length c7)) (unL 0 un ub ur ul) (.slice A7 l4.length c7) l4 u6 G from F10.out.putU (unL 0 un ub ur ul) rfl)
            have OP11 := Lib.hid (show OwnP (((((w11.setCell ⟨gU, 0, none⟩ (.int .i64 0)).setCell ⟨gU, 1, none⟩ (.int .i64 un)).setCell ⟨gU, 2, none⟩ (.bool ub)).setCell ⟨gU, 3, none⟩ (.string ur)).setCell ⟨gU, 4, none⟩ (.int .i64 ul)) w9.heap.size (.slice A10 PL.length c10) PL from OwnR.cellsAway (fun e => by have := (OwnR.upto OP10.out _ e).1; have := lt9.out; omega) (unL 0 un ub ur ul) 0 _ OP10.out)
            go_upto_region 19 with fail
            clear k0 k1 k2 k3 k4 m0 m1 m2 m3 m4 mi F10 R10 OP10
            generalize ((((w11.setCell ⟨gU, 0, none⟩ (.int .i64 0)).setCell ⟨gU, 1, none⟩ (.int .i64 un)).setCell ⟨gU, 2, none⟩ (.bool ub)).setCell ⟨gU, 3, none⟩ (.string ur)).setCell ⟨gU, 4, none⟩ (.int .i64 ul) = w12 at *
            have HAT := Lib.hid (show RowsAt w12 A10 (PL.map pkC) from by
              have := OP11.out
              exact OwnR.at this)
            have hwz : gU + 1 ≤ w12.heap.size := F11.out.far
            have hll2 : (G.map pkC).length + (PL.map pkC).length ≤ 1099511 := by simp only [List.length_map]; omega
            have hone : ∀ x ∈ PL.map pkC, x.length = 3 ∧ ∀ u ∈ x, u.oneCell' = true := by
              intro x hx
              obtain ⟨q, _, rfl⟩ := List.mem_map.1 hx
              refine ⟨rfl, fun u hu => ?_⟩
              simp at hu
              rcases hu with rfl | rfl | rfl <;> rfl
            go_wp2_with (at_builtin; go_loud (refine app_rows 28 24 3 32 (pkV 0 0 ⟨#[]⟩) ip _ rfl _ _ rfl Try.underlying24 HIP.out.1 HIP.out.2.1 HIP.out.2.2.1 HIP.out.2.2.2 rfl (by decide) (by decide) (gU + 1) u6 (G.map pkC) rfl F11.out.og A10 (PL.map pkC) c10 (by rw [List.length_map]; rfl) (fun x hx => (hone x hx).1) (fun x hx => (hone x hx).2) HAT.out hll2 hwz ?_))
            intro v13 w13 hown13 hg13 hor13
            have F13 := Lib.hid (F11.out.app (G' := G ++ PL) (by
              show OwnR _ _ _ _ _ ((G ++ PL).map pkC)
              rw [List.map_append]
              exact hown13) hg13)
            clear hown13 hg13 hor13 F11 OP11 HAT hwz hll2 hone
            go_wp2
            go_roundg (L.length - (k + 1))
            case measure => omega
            case rel => exact ⟨k + 1, n4, r4, l4, (un, ub, ur, ul), P4, G ++ PL, _, by omega, rfl, by go_num, F13.out, HW4.out, HG4.out, hr6, hl7⟩
      · obtain rfl : k = L.length := by omega
        have hd : decide (L.length < L.length) = false := by simp
        rw [List.take_length] at hG
        obtain ⟨r1, l1, P1, hW1, hq1, h24, hr1, hl1, hFC⟩ := fill_call hW (by omega) (by omega)
        obtain ⟨n4, r4, l4, ⟨un, ub, ur, ul⟩, P4, FL, PL, hW4, hq4, hr4, hl4, h0, hTK, hPU⟩ := hW1.turn (by omega) (by omega)
        obtain ⟨e1, e2, e3, e4⟩ := hW4.done (h0 h24)
        have e5 : ul = 0 := hW4.lost
        have e4' : ur = ⟨#[]⟩ := e4
        clear e4
        subst e1 e2 e3 e4' e5
        have hGL : G ++ PL = L := by
          rw [← hG, ← hq1, ← hq4]
          show _ = G ++ (PL ++ [])
          rw [List.append_nil]
        have hpB := paB_yes hW4.pa
        have hup : UpOk 0 un ub ⟨#[]⟩ 0 := ⟨by decide, by
          have hn := hW4.pa.2.2.1
          rcases hW4.sync with ⟨e, _⟩ | ⟨e, _⟩ <;> (have e' : un = _ := e; omega), by decide, .inr rfl, by decide⟩
        have HFC := Lib.hid hFC
        have HTK := Lib.hid hTK
        have HPU := Lib.hid hPU
        have HPO := Lib.hid (fun A1 c1 W (ho : ∃ b, OwnI W b (.slice A1 0 c1) []) => show Calls Try.prog 32 #[paV 0 n4 ⟨#[]⟩ (.slice A1 0 c1)] W fun e w' => e = .returned (.bool true) ∧ Below W.heap.size W w' from by
          obtain ⟨b, ho⟩ := ho
          have h := po_impl 0 n4 ⟨#[]⟩ A1 [] c1 (by decide) (by decide) W (.inl rfl)
          rw [hpB] at h
          exact h)
        have HUO := Lib.hid (up_impl 0 un ub ⟨#[]⟩ 0)
        rw [decide_eq_true hup] at HUO
        have hlen := congrArg List.length hGL
        rw [List.length_append] at hlen
        have hGP : G.length + PL.length ≤ 7 := by omega
        have HGL := Lib.hid hGL
        have F4 := Lib.hid hF
        clear hW hG hW1 hq1 h24 hr1 hl1 hFC hW4 hq4 hr4 hl4 h0 hTK hPU hGL hpB hup hlen hF
        generalize hwr : wr = w4 at *
        clear hwr
        obtain ⟨k0, k1, k2, k3⟩ := F4.out.bp.fourP
        go_wp2_with fail
        refine (HFC.out _ _ _ F4.out.oi).mono ?_
        rintro e w5 ⟨A5, c5, rfl, O5, hb5⟩
        have F5 := Lib.hid (F4.out.fresh hb5 O5)
        clear hb5 O5 k0 k1 k2 k3 F4 HFC
        go_wp2_with fail
        refine (HTK.out _ _ _ F5.out.oi).mono ?_
        rintro e w6 ⟨A6, c6, v6, rfl, O6, OF6, hb6⟩
        have F6 := Lib.hid (F5.out.fresh hb6 O6)
        have lt5 : w1.heap.size < w5.heap.size := F5.out.bp.lt
        obtain ⟨m0, m1, m2, m3⟩ := F6.out.bp.fourP
        have mi := F6.out.bp.ice
        have F8 := Lib.hid (show FW w1 ((((w6.setCell ⟨w1.heap.size, 0, none⟩ (.int .i64 0)).setCell ⟨w1.heap.size, 1, none⟩ (.int .i64 n4)).setCell ⟨w1.heap.size, 2, none⟩ (.string ⟨#[]⟩)).setCell ⟨w1.heap.size, 3, none⟩ (.slice A6 0 c6)) w1.heap.size gU (paL 0 n4 ⟨#[]⟩ (.slice A6 0 c6)) (unL 0 tn tb tr tl) (.slice A6 0 c6) [] u6 G from F6.out.putP (paL 0 n4 ⟨#[]⟩ (.slice A6 0 c6)) rfl)
        have OF9 := Lib.hid (show OwnF ((((w6.setCell ⟨w1.heap.size, 0, none⟩ (.int .i64 0)).setCell ⟨w1.heap.size, 1, none⟩ (.int .i64 n4)).setCell ⟨w1.heap.size, 2, none⟩ (.string ⟨#[]⟩)).setCell ⟨w1.heap.size, 3, none⟩ (.slice A6 0 c6)) w5.heap.size v6 FL from OwnR.cellsAway (fun e => by have := (OwnR.upto OF6 _ e).1; omega) (paL 0 n4 ⟨#[]⟩ (.slice A6 0 c6)) 0 _ OF6)
        clear hb6 O6 OF6 F5 F6 HTK
        go_upto_region 21 with fail
        clear m0 m1 m2 m3 mi lt5
        generalize (((w6.setCell ⟨w1.heap.size, 0, none⟩ (.int .i64 0)).setCell ⟨w1.heap.size, 1, none⟩ (.int .i64 n4)).setCell ⟨w1.heap.size, 2, none⟩ (.string ⟨#[]⟩)).setCell ⟨w1.heap.size, 3, none⟩ (.slice A6 0 c6) = w9 at *
        obtain ⟨k0, k1, k2, k3, k4⟩ := F8.out.bu.five
        go_wp2_with fail
        refine (HPU.out _ _ _ OF9.out).mono ?_
        rintro e w10 ⟨A10, c10, rfl, O10, hb10⟩
        have F10 := Lib.hid ((F8.out.more hb10).more ((Below.refl _ _).alloc (Nat.le_refl _) (.cells (unL 0 un ub ⟨#[]⟩ 0).toArray 49)))
        have R10 := Lib.hid (Box.made w10 (unL 0 un ub ⟨#[]⟩ 0) 49 _ rfl)
        have OP10 := Lib.hid (OwnR.more O10 ((Below.refl _ _).alloc (Nat.le_refl _) (.cells (unL 0 un ub ⟨#[]⟩ 0).toArray 49)))
        have lt9 := Lib.hid (show gU < w10.heap.size from Nat.lt_of_lt_of_le F8.out.bu.lt hb10.size)
        have lt8 := Lib.hid (show ∀ g, u6.ownBlock = some g → g < w10.heap.size from fun g e => Nat.lt_of_lt_of_le (OwnR.upto F8.out.og _ e).2 hb10.size)
        clear O10 hb10 k0 k1 k2 k3 k4 F8 OF9 HPU
        go_upto_region 22 with fail
        generalize w10.alloc (.cells #[.int .i64 0, .int .i64 un, .bool ub, .string ⟨#[]⟩, .int .i64 0] 49) = w11 at *
        generalize w10.heap.size = g15 at *
        have HAT := Lib.hid (show RowsAt w11 A10 (PL.map pkC) from by
          have := OP10.out
          exact OwnR.at this)
        have hwz : gU + 1 ≤ w11.heap.size := F10.out.far
        have hll2 : (G.map pkC).length + (PL.map pkC).length ≤ 1099511 := by simp only [List.length_map]; omega
        have hone : ∀ x ∈ PL.map pkC, x.length = 3 ∧ ∀ u ∈ x, u.oneCell' = true := by
          intro x hx
          obtain ⟨q, _, rfl⟩ := List.mem_map.1 hx
          refine ⟨rfl, fun u hu => ?_⟩
          simp at hu
          rcases hu with rfl | rfl | rfl <;> rfl
        go_wp2_with (at_builtin; go_loud (refine app_rows 28 24 3 32 (pkV 0 0 ⟨#[]⟩) ip _ rfl _ _ rfl Try.underlying24 HIP.out.1 HIP.out.2.1 HIP.out.2.2.1 HIP.out.2.2.2 rfl (by decide) (by decide) (gU + 1) u6 (G.map pkC) rfl F10.out.og A10 (PL.map pkC) c10 (by rw [List.length_map]; rfl) (fun x hx => (hone x hx).1) (fun x hx => (hone x hx).2) HAT.out hll2 hwz ?_))
        intro v13 w13 hown13 hg13 hor13
        have F13 := Lib.hid (F10.out.app (G' := G ++ PL) (by
          show OwnR _ _ _ _ _ ((G ++ PL).map pkC)
          rw [List.map_append]
          exact hown13) hg13)
        have R13 := Lib.hid (R10.out.grown hg13 (fun e => by have := lt8.out _ e; omega))
        clear hown13 hg13 hor13 F10 R10 OP10 HAT hwz hll2 hone lt8 lt9
        have HSP := Lib.hid (same_pkts w13 _ _ v13 _ L (by omega) (by have := F13.out.og; rw [HGL.out] at this; exact this) (OwnR.more HOL.out (F13.out.below)))
        go_wp2_with fail
        refine HSP.out.mono ?_
        rintro e w14 ⟨rfl, hb14⟩
        have F14 := Lib.hid (F13.out.more hb14)
        have R14 := Lib.hid (R13.out.more hb14)
        clear hb14 F13 R13 HSP
        obtain ⟨k0, k1, k2, k3⟩ := F14.out.bp.fourP
        obtain ⟨m0, m1, m2, m3, m4⟩ := R14.out.five
        go_wp2_with fail
        refine (HPO.out _ _ _ ⟨_, F14.out.oi⟩).mono ?_
        rintro e w15 ⟨rfl, hb15⟩
        have F15 := Lib.hid (F14.out.more hb15)
        have R15 := Lib.hid (R14.out.more hb15)
        clear hb15 F14 R14 k0 k1 k2 k3 m0 m1 m2 m3 m4
        obtain ⟨m0, m1, m2, m3, m4⟩ := R15.out.five
        go_wp2_with fail
        refine (HUO.out _).mono ?_
        rintro e w16 ⟨rfl, hb16⟩
        go_wp2
        go_ret
        exact ⟨rfl, B1.out.trans ((F15.out.more hb16).below.mono B1.out.size)⟩
end Go.Proofs.Ytegahdlfjdjcaaa
