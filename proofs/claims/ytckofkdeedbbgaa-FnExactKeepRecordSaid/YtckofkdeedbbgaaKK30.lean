/- What this text proves: the parts LKpLaw of the proof, each under its own words. -/
import Derived.Test.YtckofkdeedbbgaaKK25
import Derived.Test.YtckofkdeedbbgaaKK28
import Derived.Test.YtckofkdeedbbgaaKK19
import Derived.Test.YtckofkdeedbbgaaKK29
import Derived.Deep.RegionHeld3
import Derived.Deep.Cut
import Derived.Deep.CutRange
/- What this text proves: the law of FnExactKeepRecord: the program and the model answer alike, for all arguments; the argument stays; the answer owns its memory. -/
namespace Go.Proofs.Ytckofkdeedbbgaa
open Go.ChangeShapes Go.WideShapes Go.ChangeAt Go.RowKit
set_option linter.unusedVariables false

theorem keepR_cap (r : Int) (l : List Rc) (d : List Int) (x : Rc) (hl : l.length ≤ 1048576) (hd : d.length ≤ 1048576) : ((keepR r l d x).1.length ≤ 1048576) ∧ (keepR r l d x).2.length ≤ 1048576 := by
  by_cases h : KpIn r l d x ∧ RcrOk r (kpRaw r l d x).1 (kpRaw r l d x).2
  · rw [keepR_yes h.1 h.2]
    have := rcr_short h.2
    omega
  · unfold keepR
    rw [if_neg h]
    exact ⟨hl, hd⟩

set_option maxRecDepth 20000 in
set_option maxHeartbeats 16000000 in
theorem law_keeprecord (r : Int) (A : Option Addr) (l : List Rc) (c : Nat) (A2 : Option Addr) (d : List Int) (c2 : Nat) (x0 x1 x2 : Int) (x3 : ByteArray) (hl : l.length ≤ maxLen) (hs0 : ∀ j (hj : j < l.length), l[j].2.2.2.size ≤ maxLen) (hd : d.length ≤ maxLen) (_ : -9223372036854775808 ≤ x0 ∧ x0 ≤ 9223372036854775807) (_ : -9223372036854775808 ≤ x1 ∧ x1 ≤ 9223372036854775807) (_ : -9223372036854775808 ≤ x2 ∧ x2 ≤ 9223372036854775807) (hx3 : x3.size ≤ maxLen) (w : World) (h1 : LsI 4 w w.heap.size A (l.map rcC)) (h2 : LsI 1 w w.heap.size A2 (d.map inC)) :
    Calls Try.prog 7 #[(roV r (.slice A l.length c) (.slice A2 d.length c2)), rdV x0 x1 x2 x3] w fun e w' => e = .returned (.bool true) ∧ Below w.heap.size w w' := by
  have S0 := Lib.hid (show St w ((w.alloc (.cells (roL r (.slice A l.length c) (.slice A2 d.length c2)).toArray 81)).alloc (.cells (rdL x0 x1 x2 x3).toArray 82)) [boxT (w.heap.size + 1) (rdL x0 x1 x2 x3), boxT w.heap.size (roL r (.slice A l.length c) (.slice A2 d.length c2))] from by have h := ((St.start w).made (roL r (.slice A l.length c) (.slice A2 d.length c2)) 81).made (rdL x0 x1 x2 x3) 82; simpa using h)
  have hs := sz_ro r A A2 l d c c2 1048576 hl hs0 hd (Nat.le_refl _) _ (h1.full S0.out.below)
  by_cases hL : l.length + totRc l l.length + d.length ≤ 1048576
  · obtain ⟨LE, hLE⟩ : ∃ LE : Nat, 1048576 - (l.length + totRc l l.length + d.length) = LE := ⟨_, rfl⟩
    rw [if_pos hL, hLE] at hs
    have HS := Lib.hid hs
    have hLE2 : LE ≤ 1048576 := by omega
    have dL : decide ((LE : Int) < 0) = false := by simp
    have HSX := Lib.hid (fun W => sz_rcd x0 x1 x2 x3 LE hLE2 hx3 W)
    by_cases hL2 : x3.size ≤ LE
    · rw [if_pos hL2] at HSX
      have dL2 : decide ((LE : Int) - (x3.size : Int) < 0) = false := by simp; omega
      generalize (LE : Int) - (x3.size : Int) = LF at *
      have bl : l.length ≤ 1048576 := by omega
      have bd : d.length ≤ 1048576 := by omega
      have bt : totRc l l.length ≤ 1048576 := by omega
      have HT := Lib.hid (fun W (hb : Below w.heap.size w W) => ro_gives (to_ro r A A2 l d c c2 (by omega) (by omega) W (h1.full hb) (h2.full hb)))
      have HE := Lib.hid (fun v1 v2 W (g1 : (roT v1 r l d).P W) (g2 : (roT v2 r l d).P W) => eq_ro r l d (by omega) (by omega) v1 v2 0 0 W g1 g2)
      have HN := Lib.hid (fun W => to_rcd x0 x1 x2 x3 W)
      have hHX : ∀ (v : Value) (W : World) (o : (roT v r l d).P W), Calls Try.prog 37 #[v, rdV x0 x1 x2 x3] W (Gives W fun v => rrT v r (keepR r l d (x0, x1, x2, x3)).1 (keepR r l d (x0, x1, x2, x3)).2) := fun v W o => by
        obtain ⟨A', c', A2', c2', rfl, o1, o2, _⟩ := OwnRo.form o
        have h1' := LsO.ats o1
        have h2' := LsO.ats o2
        exact keep_spec r A' A2' l d c' c2' (x0, x1, x2, x3) (by omega) (by omega) (by omega) W h1' h2'
      have hHY : ∀ (v : Value) (W : World) (o : (roT v r l d).P W), Calls Try.prog 18 #[v, rdV x0 x1 x2 x3] W (Gives W fun v => rrT v r (keepR r l d (x0, x1, x2, x3)).1 (keepR r l d (x0, x1, x2, x3)).2) := fun v W o => by
        obtain ⟨A', c', A2', c2', rfl, o1, o2, _⟩ := OwnRo.form o
        have h1' := LsO.ats o1
        have h2' := LsO.ats o2
        exact keep_impl r A' A2' l d c' c2' (x0, x1, x2, x3) (by omega) (by omega) (by omega) W h1' h2'
      have hbz := keepR_cap r l d (x0, x1, x2, x3) bl bd
      generalize keepR r l d (x0, x1, x2, x3) = Z at *
      have bZ1 : Z.1.length ≤ 1049300 := by omega
      have bZ2 : Z.2.length ≤ 1114112 := by omega
      have HX := Lib.hid hHX
      have HY := Lib.hid hHY
      have HER := Lib.hid (fun v1 v2 W (g1 : (roT v1 r Z.1 Z.2).P W) (g2 : (roT v2 r Z.1 Z.2).P W) => eq_ro r Z.1 Z.2 (by omega) (by omega) v1 v2 0 0 W g1 g2)
      have HM := Lib.hid (fun v W (g : (roT v r l d).P W) => mark_ro r l d (by omega) (by omega) v 0 1 (Nat.le_refl _) (by omega) W g)
      have HMR := Lib.hid (fun v W (g : (roT v r Z.1 Z.2).P W) => mark_ro r Z.1 Z.2 (by omega) (by omega) v 0 1 (Nat.le_refl _) (by omega) W g)
      have HHR := Lib.hid (fun v W (g : (rmT v 1 Z.1.length Z.2.length).P W) => held_ro Z.1.length Z.2.length (by omega) (by omega) v 0 1 (Nat.le_refl _) (by omega) W g)
      obtain ⟨kx, hkx⟩ : ∃ k, ((1 + 4 * l.length + d.length : Nat) : Int) = k := ⟨_, rfl⟩
      obtain ⟨kg, hkg⟩ : ∃ k, ((1 + 4 * Z.1.length + Z.2.length : Nat) : Int) = k := ⟨_, rfl⟩
      have zkx : decide (kx < 0) = false := decide_eq_false (by omega)
      have zkg : decide (kg < 0) = false := decide_eq_false (by omega)
      have ykg : (kg != kg) = false := by simp
      simp only [hkx] at HM
      simp only [hkg] at HMR HHR
      clear hkx hkg hs hHX hHY hLE hL hL2 h1 h2 hs0 hbz bZ1 bZ2 bl bd bt hLE2 hx3
      go_enter Try.func7, Try.ntmps7
      obtain ⟨k0, k1, k2⟩ := (show Box _ _ (roL r (.slice A l.length c) (.slice A2 d.length c2)) from S0.out.box 1 _ _ rfl).threeQ
      have kl := (S0.out.box 1 _ _ rfl).lt
      obtain ⟨y0, y1, y2, y3⟩ := (show Box _ _ (rdL x0 x1 x2 x3) from S0.out.box 0 _ _ rfl).four4
      have yl := (S0.out.box 0 _ _ rfl).lt
      go_wp2_with fail
      refine (HS.out).mono ?_
      rintro e w1 ⟨rfl, hb⟩
      have S1 := Lib.hid (S0.out.more hb)
      clear S0
      clear k0 k1 k2 kl y0 y1 y2 y3 yl hb HS
      obtain ⟨y0, y1, y2, y3⟩ := (show Box _ _ (rdL x0 x1 x2 x3) from S1.out.box 0 _ _ rfl).four4
      have yl := (S1.out.box 0 _ _ rfl).lt
      go_wp2_with fail
      refine (HSX.out _).mono ?_
      rintro e w2 ⟨rfl, hb⟩
      have S2 := Lib.hid (S1.out.more hb)
      clear S1
      clear y0 y1 y2 y3 yl hb HSX
      go_upto_region 8 with fail
      generalize w2 = WW at *
      go_upto_region 8 with fail
      go_cut [6] from 23 to 27 (fun s6 wx => ∃ (gw : Nat) (Aw : Option Addr) (cw : Nat) (Bw : Option Addr) (ew : Nat), s6 = .pointer (some ⟨gw, 0, none⟩) ∧ St w wx (boxT gw (roL r (.slice Aw Z.1.length cw) (.slice Bw Z.2.length ew)) :: (roT (roV r (.slice Aw Z.1.length cw) (.slice Bw Z.2.length ew)) r Z.1 Z.2) :: [boxT (w.heap.size + 1) (rdL x0 x1 x2 x3), boxT w.heap.size (roL r (.slice A l.length c) (.slice A2 d.length c2))]))
      case first =>
        have WB := Lib.hid S2.out
        have HC := Lib.hid (fun W (hb : Below WW.heap.size WW W) => (show W.cell? ⟨w.heap.size, 0, none⟩ = some (.int .i64 r) ∧ W.cell? ⟨w.heap.size, 1, none⟩ = some (.slice A l.length c) ∧ W.cell? ⟨w.heap.size, 2, none⟩ = some (.slice A2 d.length c2) ∧ W.cell? ⟨w.heap.size + 1, 0, none⟩ = some (.int .i64 x0) ∧ W.cell? ⟨w.heap.size + 1, 1, none⟩ = some (.int .i64 x1) ∧ W.cell? ⟨w.heap.size + 1, 2, none⟩ = some (.int .i64 x2) ∧ W.cell? ⟨w.heap.size + 1, 3, none⟩ = some (.string x3) from by have hh := S2.out.more hb; obtain ⟨a0, a1, a2⟩ := (show Box _ _ (roL r (.slice A l.length c) (.slice A2 d.length c2)) from hh.box 1 _ _ rfl).threeQ; obtain ⟨b0, b1, b2, b3⟩ := (show Box _ _ (rdL x0 x1 x2 x3) from hh.box 0 _ _ rfl).four4; exact ⟨a0, a1, a2, b0, b1, b2, b3⟩))
        have hcc := HC.out WW (Below.refl _ _)
        obtain ⟨kq0, kq1, kq2, kq3, kq4, kq5, kq6⟩ := hcc
        have Z0 : SZ WW WW.drew none [] := (SZ.start WW).drew
        have Z1 : SZ WW ((WW.alloc (.cells (roL 0 (.slice none 0 0) (.slice none 0 0)).toArray 30)).drew) (some (WW.heap.size, (roL 0 (.slice none 0 0) (.slice none 0 0)))) [] := ((SZ.start WW).new (roL 0 (.slice none 0 0) (.slice none 0 0)) 30).drew
        have FN := Lib.hid (fun W zo (LL : List Thing) (h : SZ WW W zo LL) => (HN.out W).mono fun e w' hh => (show e = .returned (rdV x0 x1 x2 x3) ∧ SZ WW w' zo LL from ⟨hh.1, h.more hh.2⟩))
        have FM := Lib.hid (fun W zo (LL : List Thing) (h : SZ WW W zo LL) => (HT.out W (S2.out.below.trans (h.below.mono S2.out.below.size))).mono fun e w' hh => (show ∃ v, e = .returned v ∧ SZ WW w' zo ((roT v r l d) :: LL) from by obtain ⟨v, g1, g2, g3, g4⟩ := hh; exact ⟨v, g1, h.add _ g4 g2 g3⟩))
        have FX := Lib.hid (fun v W zo (LL : List Thing) (h : SZ WW W zo ((roT v r l d) :: LL)) => (HX.out v W (h.has _ (List.mem_cons_self ..))).mono fun e w' hh => (show ∃ Aw cw Bw ew, e = .returned (roV r (.slice Aw Z.1.length cw) (.slice Bw Z.2.length ew)) ∧ SZ WW w' zo ((roT (roV r (.slice Aw Z.1.length cw) (.slice Bw Z.2.length ew)) r Z.1 Z.2) :: (roT v r l d) :: LL) from by obtain ⟨u, g1, g2, g3, g4⟩ := hh; obtain ⟨Aw, cw, Bw, ew, rfl⟩ := rrT.form g2; exact ⟨Aw, cw, Bw, ew, g1, h.add (roT (roV r (.slice Aw Z.1.length cw) (.slice Bw Z.2.length ew)) r Z.1 Z.2) g4 (rrT.ro g2) g3⟩))
        go_region_held3 (fun w' => w'.cell? ⟨w.heap.size, 0, none⟩ = some (.int .i64 r) ∧ w'.cell? ⟨w.heap.size, 1, none⟩ = some (.slice A l.length c) ∧ w'.cell? ⟨w.heap.size, 2, none⟩ = some (.slice A2 d.length c2) ∧ w'.cell? ⟨w.heap.size + 1, 0, none⟩ = some (.int .i64 x0) ∧ w'.cell? ⟨w.heap.size + 1, 1, none⟩ = some (.int .i64 x1) ∧ w'.cell? ⟨w.heap.size + 1, 2, none⟩ = some (.int .i64 x2) ∧ w'.cell? ⟨w.heap.size + 1, 3, none⟩ = some (.string x3)) (first | with_reducible exact HC.out _ Z0.below | with_reducible exact HC.out _ Z1.below | with_reducible exact HC.out _ ZM.below | with_reducible exact HC.out _ ZN.below | with_reducible exact HC.out _ ZF.below | with_reducible exact HC.out _ (ZM.new _ _).below | with_reducible exact HC.out _ (ZN.new _ _).below | with_reducible exact HC.out _ (ZF.new _ _).below | exact HC.out _ (ZF.fin_put (roL r (.slice Aw Z.1.length cw) (.slice Bw Z.2.length ew)) rfl).below | go_keep)
          (first
            | (go_at_call 38; (first | (with_reducible refine (FM.out _ _ _ Z0).mono ?_) | (with_reducible refine (FM.out _ _ _ Z1).mono ?_) | (with_reducible refine (FM.out _ _ _ ZN).mono ?_) | (with_reducible refine (FM.out _ _ _ (ZN.new (roL 0 (.slice none 0 0) (.slice none 0 0)) 30)).mono ?_)); rintro e wM ⟨vm, rfl, ZM⟩)
            | (go_at_call 39; (first | (with_reducible refine (FN.out _ _ _ ZM).mono ?_) | (with_reducible refine (FN.out _ _ _ (ZM.new (roL 0 (.slice none 0 0) (.slice none 0 0)) 30)).mono ?_) | (with_reducible refine (FN.out _ _ _ Z0).mono ?_) | (with_reducible refine (FN.out _ _ _ Z1).mono ?_)); rintro e wN ⟨rfl, ZN⟩)
            | (go_at_call 37; (first | (with_reducible refine (FX.out _ _ _ _ ZN).mono ?_) | (with_reducible refine (FX.out _ _ _ _ (ZN.new (roL 0 (.slice none 0 0) (.slice none 0 0)) 30)).mono ?_) | (with_reducible refine (FX.out _ _ _ _ ZM).mono ?_) | (with_reducible refine (FX.out _ _ _ _ (ZM.new (roL 0 (.slice none 0 0) (.slice none 0 0)) 30)).mono ?_)); rintro e wF ⟨Aw, cw, Bw, ew, rfl, ZF⟩; try (have zb := ZF.box; obtain ⟨z0, z1, z2⟩ := (show Box _ _ (roL 0 (.slice none 0 0) (.slice none 0 0)) from zb).threeQ; have zi := zb.ice)))
        all_goals go_wp2_with fail
        all_goals go_meet
        all_goals (first | exact ⟨_, Aw, cw, Bw, ew, rfl, (S2.out.trans (ZF.fin_made (roL r (.slice Aw Z.1.length cw) (.slice Bw Z.2.length ew)) 30)).pick [0, 1, 3, 4] (by decide)⟩ | exact ⟨_, Aw, cw, Bw, ew, rfl, (S2.out.trans (ZF.fin_put (roL r (.slice Aw Z.1.length cw) (.slice Bw Z.2.length ew)) rfl)).pick [0, 1, 3, 4] (by decide)⟩)
      case rest =>
        obtain ⟨gw, Aw, cw, Bw, ew, rfl, hT⟩ := hcut
        generalize wc = w4 at *
        have S3 := Lib.hid hT
        clear hT S2
        obtain ⟨k0, k1, k2⟩ := (show Box _ _ (roL r (.slice A l.length c) (.slice A2 d.length c2)) from S3.out.box 3 _ _ rfl).threeQ
        have kl := (S3.out.box 3 _ _ rfl).lt
        go_wp2_with fail
        refine (HT.out _ S3.out.below).mono ?_
        rintro e w5 ⟨vx, rfl, hp, hn, hb⟩
        obtain ⟨Ax, cx, Bx, ex, rfl, _, _, _⟩ := OwnRo.form (id hp)
        have S4 := Lib.hid (S3.out.add (roT (roV r (.slice Ax l.length cx) (.slice Bx d.length ex)) r l d) hb hp hn)
        clear S3
        have S5 := Lib.hid (S4.out.made (roL r (.slice Ax l.length cx) (.slice Bx d.length ex)) 30)
        clear S4
        clear k0 k1 k2 kl hp hn hb
        generalize hgx : w5.heap.size = gx at *
        go_upto_region 10 with fail
        have S6 := Lib.hid (show St w (w5.alloc (.cells #[.int .i64 r, .slice Ax l.length cx, .slice Bx d.length ex] 30)) [boxT gx (roL r (.slice Ax l.length cx) (.slice Bx d.length ex)), roT (roV r (.slice Ax l.length cx) (.slice Bx d.length ex)) r l d, boxT gw (roL r (.slice Aw Z.1.length cw) (.slice Bw Z.2.length ew)), roT (roV r (.slice Aw Z.1.length cw) (.slice Bw Z.2.length ew)) r Z.1 Z.2, boxT (w.heap.size + 1) (rdL x0 x1 x2 x3), boxT w.heap.size (roL r (.slice A l.length c) (.slice A2 d.length c2))] from S5.out)
        clear S5
        generalize (w5.alloc (.cells #[.int .i64 r, .slice Ax l.length cx, .slice Bx d.length ex] 30)) = WW at *
        go_upto_region 10 with fail
        go_cut [8] from 30 to 33 (fun s8 wx => ∃ (gg : Nat) (Ag : Option Addr) (cg : Nat) (Bg : Option Addr) (eg : Nat), s8 = .pointer (some ⟨gg, 0, none⟩) ∧ St w wx (boxT gg (roL r (.slice Ag Z.1.length cg) (.slice Bg Z.2.length eg)) :: (roT (roV r (.slice Ag Z.1.length cg) (.slice Bg Z.2.length eg)) r Z.1 Z.2) :: [boxT gx (roL r (.slice Ax l.length cx) (.slice Bx d.length ex)), roT (roV r (.slice Ax l.length cx) (.slice Bx d.length ex)) r l d, boxT gw (roL r (.slice Aw Z.1.length cw) (.slice Bw Z.2.length ew)), roT (roV r (.slice Aw Z.1.length cw) (.slice Bw Z.2.length ew)) r Z.1 Z.2, boxT (w.heap.size + 1) (rdL x0 x1 x2 x3), boxT w.heap.size (roL r (.slice A l.length c) (.slice A2 d.length c2))]))
        case first =>
          have WB := Lib.hid S6.out
          have HC := Lib.hid (fun W (hb : Below WW.heap.size WW W) => (show W.cell? ⟨gx, 0, none⟩ = some (.int .i64 r) ∧ W.cell? ⟨gx, 1, none⟩ = some (.slice Ax l.length cx) ∧ W.cell? ⟨gx, 2, none⟩ = some (.slice Bx d.length ex) ∧ W.cell? ⟨w.heap.size + 1, 0, none⟩ = some (.int .i64 x0) ∧ W.cell? ⟨w.heap.size + 1, 1, none⟩ = some (.int .i64 x1) ∧ W.cell? ⟨w.heap.size + 1, 2, none⟩ = some (.int .i64 x2) ∧ W.cell? ⟨w.heap.size + 1, 3, none⟩ = some (.string x3) from by have hh := S6.out.more hb; obtain ⟨a0, a1, a2⟩ := (show Box _ _ (roL r (.slice Ax l.length cx) (.slice Bx d.length ex)) from hh.box 0 _ _ rfl).threeQ; obtain ⟨b0, b1, b2, b3⟩ := (show Box _ _ (rdL x0 x1 x2 x3) from hh.box 4 _ _ rfl).four4; exact ⟨a0, a1, a2, b0, b1, b2, b3⟩))
          have hcc := HC.out WW (Below.refl _ _)
          obtain ⟨kq0, kq1, kq2, kq3, kq4, kq5, kq6⟩ := hcc
          have Z0 : SZ WW WW.drew none [] := (SZ.start WW).drew
          have Z1 : SZ WW ((WW.alloc (.cells (roL 0 (.slice none 0 0) (.slice none 0 0)).toArray 30)).drew) (some (WW.heap.size, (roL 0 (.slice none 0 0) (.slice none 0 0)))) [] := ((SZ.start WW).new (roL 0 (.slice none 0 0) (.slice none 0 0)) 30).drew
          have FN := Lib.hid (fun W zo (LL : List Thing) (h : SZ WW W zo LL) => (HN.out W).mono fun e w' hh => (show e = .returned (rdV x0 x1 x2 x3) ∧ SZ WW w' zo LL from ⟨hh.1, h.more hh.2⟩))
          have FX := Lib.hid (fun W zo (LL : List Thing) (h : SZ WW W zo LL) => (HY.out (roV r (.slice Ax l.length cx) (.slice Bx d.length ex)) W (Thing.stays (t := roT (roV r (.slice Ax l.length cx) (.slice Bx d.length ex)) r l d) (S6.out.nth 1 _ rfl) h.below)).mono fun e w' hh => (show ∃ Ag cg Bg eg, e = .returned (roV r (.slice Ag Z.1.length cg) (.slice Bg Z.2.length eg)) ∧ SZ WW w' zo ((roT (roV r (.slice Ag Z.1.length cg) (.slice Bg Z.2.length eg)) r Z.1 Z.2) :: LL) from by obtain ⟨u, g1, g2, g3, g4⟩ := hh; obtain ⟨Ag, cg, Bg, eg, rfl⟩ := rrT.form g2; exact ⟨Ag, cg, Bg, eg, g1, h.add (roT (roV r (.slice Ag Z.1.length cg) (.slice Bg Z.2.length eg)) r Z.1 Z.2) g4 (rrT.ro g2) g3⟩))
          go_region_held3 (fun w' => w'.cell? ⟨gx, 0, none⟩ = some (.int .i64 r) ∧ w'.cell? ⟨gx, 1, none⟩ = some (.slice Ax l.length cx) ∧ w'.cell? ⟨gx, 2, none⟩ = some (.slice Bx d.length ex) ∧ w'.cell? ⟨w.heap.size + 1, 0, none⟩ = some (.int .i64 x0) ∧ w'.cell? ⟨w.heap.size + 1, 1, none⟩ = some (.int .i64 x1) ∧ w'.cell? ⟨w.heap.size + 1, 2, none⟩ = some (.int .i64 x2) ∧ w'.cell? ⟨w.heap.size + 1, 3, none⟩ = some (.string x3)) (first | with_reducible exact HC.out _ Z0.below | with_reducible exact HC.out _ Z1.below | with_reducible exact HC.out _ ZM.below | with_reducible exact HC.out _ ZN.below | with_reducible exact HC.out _ ZF.below | with_reducible exact HC.out _ (ZM.new _ _).below | with_reducible exact HC.out _ (ZN.new _ _).below | with_reducible exact HC.out _ (ZF.new _ _).below | exact HC.out _ (ZF.fin_put (roL r (.slice Ag Z.1.length cg) (.slice Bg Z.2.length eg)) rfl).below | go_keep)
            (first
              | (go_at_call 39; (first | (with_reducible refine (FN.out _ _ _ Z0).mono ?_) | (with_reducible refine (FN.out _ _ _ Z1).mono ?_)); rintro e wN ⟨rfl, ZN⟩)
              | (go_at_call 18; (first | (with_reducible refine (FX.out _ _ _ ZN).mono ?_) | (with_reducible refine (FX.out _ _ _ (ZN.new (roL 0 (.slice none 0 0) (.slice none 0 0)) 30)).mono ?_)); rintro e wF ⟨Ag, cg, Bg, eg, rfl, ZF⟩; try (have zb := ZF.box; obtain ⟨z0, z1, z2⟩ := (show Box _ _ (roL 0 (.slice none 0 0) (.slice none 0 0)) from zb).threeQ; have zi := zb.ice)))
          all_goals go_wp2_with fail
          all_goals go_meet
          all_goals (first | exact ⟨_, Ag, cg, Bg, eg, rfl, (S6.out.trans (ZF.fin_made (roL r (.slice Ag Z.1.length cg) (.slice Bg Z.2.length eg)) 30)).pick [0, 1, 2, 3, 4, 5, 6, 7] (by decide)⟩ | exact ⟨_, Ag, cg, Bg, eg, rfl, (S6.out.trans (ZF.fin_put (roL r (.slice Ag Z.1.length cg) (.slice Bg Z.2.length eg)) rfl)).pick [0, 1, 2, 3, 4, 5, 6, 7] (by decide)⟩)
        case rest =>
          obtain ⟨gg, Ag, cg, Bg, eg, rfl, hT⟩ := hcut
          generalize wc = w7 at *
          have S7 := Lib.hid hT
          clear hT S6
          obtain ⟨a0, a1, a2⟩ := (show Box _ _ (roL r (.slice Ag Z.1.length cg) (.slice Bg Z.2.length eg)) from S7.out.box 0 _ _ rfl).threeQ
          have al := (S7.out.box 0 _ _ rfl).lt
          obtain ⟨b0, b1, b2⟩ := (show Box _ _ (roL r (.slice Aw Z.1.length cw) (.slice Bw Z.2.length ew)) from S7.out.box 4 _ _ rfl).threeQ
          have bl := (S7.out.box 4 _ _ rfl).lt
          go_wp2_with fail
          refine (HER.out _ _ _ (S7.out.nth 1 _ rfl) (S7.out.nth 5 _ rfl)).mono ?_
          rintro e w8 ⟨rfl, hb⟩
          have S8 := Lib.hid (S7.out.more hb)
          clear S7
          clear a0 a1 a2 al b0 b1 b2 bl hb
          go_wp2
          have S9 := Lib.hid (S8.out.drew)
          clear S8
          obtain ⟨k0, k1, k2⟩ := (show Box _ _ (roL r (.slice A l.length c) (.slice A2 d.length c2)) from S9.out.box 7 _ _ rfl).threeQ
          have kl := (S9.out.box 7 _ _ rfl).lt
          obtain ⟨x0, x1, x2⟩ := (show Box _ _ (roL r (.slice Ax l.length cx) (.slice Bx d.length ex)) from S9.out.box 2 _ _ rfl).threeQ
          have xl := (S9.out.box 2 _ _ rfl).lt
          obtain ⟨p0, p1, p2⟩ := (show Box _ _ (roL r (.slice Ax l.length cx) (.slice Bx d.length ex)) from S9.out.box 2 _ _ rfl).threeQ
          go_region_held3 (fun w' => w'.cell? ⟨w.heap.size, 0, none⟩ = some (.int .i64 r) ∧ w'.cell? ⟨w.heap.size, 1, none⟩ = some (.slice A l.length c) ∧ w'.cell? ⟨w.heap.size, 2, none⟩ = some (.slice A2 d.length c2) ∧ w'.cell? ⟨gx, 0, none⟩ = some (.int .i64 r) ∧ w'.cell? ⟨gx, 1, none⟩ = some (.slice Ax l.length cx) ∧ w'.cell? ⟨gx, 2, none⟩ = some (.slice Bx d.length ex)) (first | exact ⟨k0, k1, k2, p0, p1, p2⟩ | exact ⟨ka0, ka1, ka2, kb0, kb1, kb2⟩ | exact ⟨kc0, kc1, kc2, kd0, kd1, kd2⟩)
            (first
              | (go_at_call 38; (with_reducible refine (HT.out _ S9.out.below).mono ?_); rintro e wA ⟨vy, rfl, hp, hn, hb⟩; have SA := Lib.hid (S9.out.add (roT vy r l d) hb hp hn); obtain ⟨ka0, ka1, ka2⟩ := (show Box _ _ (roL r (.slice A l.length c) (.slice A2 d.length c2)) from SA.out.box 8 _ _ rfl).threeQ; obtain ⟨kb0, kb1, kb2⟩ := (show Box _ _ (roL r (.slice Ax l.length cx) (.slice Bx d.length ex)) from SA.out.box 3 _ _ rfl).threeQ)
              | (go_at_call 40; (with_reducible refine (HE.out _ _ _ (SA.out.nth 4 _ rfl) (SA.out.nth 0 _ rfl)).mono ?_); rintro e wB ⟨rfl, hb2⟩; have SB := Lib.hid (SA.out.more hb2); obtain ⟨kc0, kc1, kc2⟩ := (show Box _ _ (roL r (.slice A l.length c) (.slice A2 d.length c2)) from SB.out.box 8 _ _ rfl).threeQ; obtain ⟨kd0, kd1, kd2⟩ := (show Box _ _ (roL r (.slice Ax l.length cx) (.slice Bx d.length ex)) from SB.out.box 3 _ _ rfl).threeQ))
          all_goals
            have S10 := Lib.hid (SB.out.sub (List.sublist_cons_self _ _))
            clear SA SB hb hb2 hp hn S9 p0 p1 p2 ka0 ka1 ka2 kb0 kb1 kb2 kc0 kc1 kc2 kd0 kd1 kd2
            clear k0 k1 k2 kl x0 x1 x2 xl
            obtain ⟨a0, a1, a2⟩ := (show Box _ _ (roL r (.slice Ax l.length cx) (.slice Bx d.length ex)) from S10.out.box 2 _ _ rfl).threeQ
            have al := (S10.out.box 2 _ _ rfl).lt
            go_wp2_with fail
            refine (HM.out _ _ (S10.out.nth 3 _ rfl)).mono ?_
            rintro e w9 ⟨rfl, ht, hm⟩
            have S11 := Lib.hid (S10.out.put 3 _ rfl ht (fun k hk => hk) (rmT (roV r (.slice Ax l.length cx) (.slice Bx d.length ex)) 1 l.length d.length) hm (fun k hk => .inl hk))
            clear S10 ht hm
            clear a0 a1 a2 al
            obtain ⟨a0, a1, a2⟩ := (show Box _ _ (roL r (.slice Ag Z.1.length cg) (.slice Bg Z.2.length eg)) from S11.out.box 0 _ _ rfl).threeQ
            have al := (S11.out.box 0 _ _ rfl).lt
            obtain ⟨b0, b1, b2⟩ := (show Box _ _ (roL r (.slice Aw Z.1.length cw) (.slice Bw Z.2.length ew)) from S11.out.box 4 _ _ rfl).threeQ
            have bl := (S11.out.box 4 _ _ rfl).lt
            go_wp2_with fail
            refine (HER.out _ _ _ (S11.out.nth 1 _ rfl) (S11.out.nth 5 _ rfl)).mono ?_
            rintro e w10 ⟨rfl, hb⟩
            have S12 := Lib.hid (S11.out.more hb)
            clear S11
            clear a0 a1 a2 al b0 b1 b2 bl hb
            obtain ⟨a0, a1, a2⟩ := (show Box _ _ (roL r (.slice Ag Z.1.length cg) (.slice Bg Z.2.length eg)) from S12.out.box 0 _ _ rfl).threeQ
            have al := (S12.out.box 0 _ _ rfl).lt
            go_wp2_with fail
            refine (HMR.out _ _ (S12.out.nth 1 _ rfl)).mono ?_
            rintro e w11 ⟨rfl, ht, hm⟩
            have S13 := Lib.hid (S12.out.put 1 _ rfl ht (fun k hk => hk) (rmT (roV r (.slice Ag Z.1.length cg) (.slice Bg Z.2.length eg)) 1 Z.1.length Z.2.length) hm (fun k hk => .inl hk))
            clear S12 ht hm
            clear a0 a1 a2 al
            obtain ⟨a0, a1, a2⟩ := (show Box _ _ (roL r (.slice Ag Z.1.length cg) (.slice Bg Z.2.length eg)) from S13.out.box 0 _ _ rfl).threeQ
            have al := (S13.out.box 0 _ _ rfl).lt
            go_wp2_with fail
            refine (HHR.out _ _ (S13.out.nth 1 _ rfl)).mono ?_
            rintro e w12 ⟨rfl, hb⟩
            have S14 := Lib.hid (S13.out.more hb)
            clear S13
            clear a0 a1 a2 al hb
            go_upto_region 27 with fail
            generalize w12 = WW at *
            go_upto_region 27 with fail
            go_cut [12] from 65 to 69 (fun s12 wx => ∃ (gh : Nat) (Ah : Option Addr) (ch : Nat) (Bh : Option Addr) (eh : Nat), s12 = .pointer (some ⟨gh, 0, none⟩) ∧ St w wx (boxT gh (roL r (.slice Ah Z.1.length ch) (.slice Bh Z.2.length eh)) :: (roT (roV r (.slice Ah Z.1.length ch) (.slice Bh Z.2.length eh)) r Z.1 Z.2) :: [boxT gg (roL r (.slice Ag Z.1.length cg) (.slice Bg Z.2.length eg)), rmT (roV r (.slice Ag Z.1.length cg) (.slice Bg Z.2.length eg)) 1 Z.1.length Z.2.length, boxT gx (roL r (.slice Ax l.length cx) (.slice Bx d.length ex)), rmT (roV r (.slice Ax l.length cx) (.slice Bx d.length ex)) 1 l.length d.length, boxT gw (roL r (.slice Aw Z.1.length cw) (.slice Bw Z.2.length ew)), roT (roV r (.slice Aw Z.1.length cw) (.slice Bw Z.2.length ew)) r Z.1 Z.2, boxT (w.heap.size + 1) (rdL x0 x1 x2 x3), boxT w.heap.size (roL r (.slice A l.length c) (.slice A2 d.length c2))]))
            case first =>
              have WB := Lib.hid S14.out
              have HC := Lib.hid (fun W (hb : Below WW.heap.size WW W) => (show W.cell? ⟨w.heap.size, 0, none⟩ = some (.int .i64 r) ∧ W.cell? ⟨w.heap.size, 1, none⟩ = some (.slice A l.length c) ∧ W.cell? ⟨w.heap.size, 2, none⟩ = some (.slice A2 d.length c2) ∧ W.cell? ⟨w.heap.size + 1, 0, none⟩ = some (.int .i64 x0) ∧ W.cell? ⟨w.heap.size + 1, 1, none⟩ = some (.int .i64 x1) ∧ W.cell? ⟨w.heap.size + 1, 2, none⟩ = some (.int .i64 x2) ∧ W.cell? ⟨w.heap.size + 1, 3, none⟩ = some (.string x3) from by have hh := S14.out.more hb; obtain ⟨a0, a1, a2⟩ := (show Box _ _ (roL r (.slice A l.length c) (.slice A2 d.length c2)) from hh.box 7 _ _ rfl).threeQ; obtain ⟨b0, b1, b2, b3⟩ := (show Box _ _ (rdL x0 x1 x2 x3) from hh.box 6 _ _ rfl).four4; exact ⟨a0, a1, a2, b0, b1, b2, b3⟩))
              have hcc := HC.out WW (Below.refl _ _)
              obtain ⟨kq0, kq1, kq2, kq3, kq4, kq5, kq6⟩ := hcc
              have Z0 : SZ WW WW.drew none [] := (SZ.start WW).drew
              have Z1 : SZ WW ((WW.alloc (.cells (roL 0 (.slice none 0 0) (.slice none 0 0)).toArray 30)).drew) (some (WW.heap.size, (roL 0 (.slice none 0 0) (.slice none 0 0)))) [] := ((SZ.start WW).new (roL 0 (.slice none 0 0) (.slice none 0 0)) 30).drew
              have FN := Lib.hid (fun W zo (LL : List Thing) (h : SZ WW W zo LL) => (HN.out W).mono fun e w' hh => (show e = .returned (rdV x0 x1 x2 x3) ∧ SZ WW w' zo LL from ⟨hh.1, h.more hh.2⟩))
              have FM := Lib.hid (fun W zo (LL : List Thing) (h : SZ WW W zo LL) => (HT.out W (S14.out.below.trans (h.below.mono S14.out.below.size))).mono fun e w' hh => (show ∃ v, e = .returned v ∧ SZ WW w' zo ((roT v r l d) :: LL) from by obtain ⟨v, g1, g2, g3, g4⟩ := hh; exact ⟨v, g1, h.add _ g4 g2 g3⟩))
              have FX := Lib.hid (fun v W zo (LL : List Thing) (h : SZ WW W zo ((roT v r l d) :: LL)) => (HY.out v W (h.has _ (List.mem_cons_self ..))).mono fun e w' hh => (show ∃ Ah ch Bh eh, e = .returned (roV r (.slice Ah Z.1.length ch) (.slice Bh Z.2.length eh)) ∧ SZ WW w' zo ((roT (roV r (.slice Ah Z.1.length ch) (.slice Bh Z.2.length eh)) r Z.1 Z.2) :: (roT v r l d) :: LL) from by obtain ⟨u, g1, g2, g3, g4⟩ := hh; obtain ⟨Ah, ch, Bh, eh, rfl⟩ := rrT.form g2; exact ⟨Ah, ch, Bh, eh, g1, h.add (roT (roV r (.slice Ah Z.1.length ch) (.slice Bh Z.2.length eh)) r Z.1 Z.2) g4 (rrT.ro g2) g3⟩))
              go_region_held3 (fun w' => w'.cell? ⟨w.heap.size, 0, none⟩ = some (.int .i64 r) ∧ w'.cell? ⟨w.heap.size, 1, none⟩ = some (.slice A l.length c) ∧ w'.cell? ⟨w.heap.size, 2, none⟩ = some (.slice A2 d.length c2) ∧ w'.cell? ⟨w.heap.size + 1, 0, none⟩ = some (.int .i64 x0) ∧ w'.cell? ⟨w.heap.size + 1, 1, none⟩ = some (.int .i64 x1) ∧ w'.cell? ⟨w.heap.size + 1, 2, none⟩ = some (.int .i64 x2) ∧ w'.cell? ⟨w.heap.size + 1, 3, none⟩ = some (.string x3)) (first | with_reducible exact HC.out _ Z0.below | with_reducible exact HC.out _ Z1.below | with_reducible exact HC.out _ ZM.below | with_reducible exact HC.out _ ZN.below | with_reducible exact HC.out _ ZF.below | with_reducible exact HC.out _ (ZM.new _ _).below | with_reducible exact HC.out _ (ZN.new _ _).below | with_reducible exact HC.out _ (ZF.new _ _).below | exact HC.out _ (ZF.fin_put (roL r (.slice Ah Z.1.length ch) (.slice Bh Z.2.length eh)) rfl).below | go_keep)
                (first
                  | (go_at_call 38; (first | (with_reducible refine (FM.out _ _ _ Z0).mono ?_) | (with_reducible refine (FM.out _ _ _ Z1).mono ?_) | (with_reducible refine (FM.out _ _ _ ZN).mono ?_) | (with_reducible refine (FM.out _ _ _ (ZN.new (roL 0 (.slice none 0 0) (.slice none 0 0)) 30)).mono ?_)); rintro e wM ⟨vm, rfl, ZM⟩)
                  | (go_at_call 39; (first | (with_reducible refine (FN.out _ _ _ ZM).mono ?_) | (with_reducible refine (FN.out _ _ _ (ZM.new (roL 0 (.slice none 0 0) (.slice none 0 0)) 30)).mono ?_) | (with_reducible refine (FN.out _ _ _ Z0).mono ?_) | (with_reducible refine (FN.out _ _ _ Z1).mono ?_)); rintro e wN ⟨rfl, ZN⟩)
                  | (go_at_call 18; (first | (with_reducible refine (FX.out _ _ _ _ ZN).mono ?_) | (with_reducible refine (FX.out _ _ _ _ (ZN.new (roL 0 (.slice none 0 0) (.slice none 0 0)) 30)).mono ?_) | (with_reducible refine (FX.out _ _ _ _ ZM).mono ?_) | (with_reducible refine (FX.out _ _ _ _ (ZM.new (roL 0 (.slice none 0 0) (.slice none 0 0)) 30)).mono ?_)); rintro e wF ⟨Ah, ch, Bh, eh, rfl, ZF⟩; try (have zb := ZF.box; obtain ⟨z0, z1, z2⟩ := (show Box _ _ (roL 0 (.slice none 0 0) (.slice none 0 0)) from zb).threeQ; have zi := zb.ice)))
              all_goals go_wp2_with fail
              all_goals go_meet
              all_goals (first | exact ⟨_, Ah, ch, Bh, eh, rfl, (S14.out.trans (ZF.fin_made (roL r (.slice Ah Z.1.length ch) (.slice Bh Z.2.length eh)) 30)).pick [0, 1, 3, 4, 5, 6, 7, 8, 9, 10] (by decide)⟩ | exact ⟨_, Ah, ch, Bh, eh, rfl, (S14.out.trans (ZF.fin_put (roL r (.slice Ah Z.1.length ch) (.slice Bh Z.2.length eh)) rfl)).pick [0, 1, 3, 4, 5, 6, 7, 8, 9, 10] (by decide)⟩)
            case rest =>
              obtain ⟨gh, Ah, ch, Bh, eh, rfl, hT⟩ := hcut
              generalize wc = w14 at *
              have S15 := Lib.hid hT
              clear hT S14
              obtain ⟨a0, a1, a2⟩ := (show Box _ _ (roL r (.slice Ah Z.1.length ch) (.slice Bh Z.2.length eh)) from S15.out.box 0 _ _ rfl).threeQ
              have al := (S15.out.box 0 _ _ rfl).lt
              obtain ⟨b0, b1, b2⟩ := (show Box _ _ (roL r (.slice Aw Z.1.length cw) (.slice Bw Z.2.length ew)) from S15.out.box 6 _ _ rfl).threeQ
              have bl := (S15.out.box 6 _ _ rfl).lt
              go_wp2_with fail
              refine (HER.out _ _ _ (S15.out.nth 1 _ rfl) (S15.out.nth 7 _ rfl)).mono ?_
              rintro e w15 ⟨rfl, hb⟩
              have S16 := Lib.hid (S15.out.more hb)
              clear S15
              clear a0 a1 a2 al b0 b1 b2 bl hb
              obtain ⟨a0, a1, a2⟩ := (show Box _ _ (roL r (.slice Ag Z.1.length cg) (.slice Bg Z.2.length eg)) from S16.out.box 2 _ _ rfl).threeQ
              have al := (S16.out.box 2 _ _ rfl).lt
              go_wp2_with fail
              refine (HHR.out _ _ (S16.out.nth 3 _ rfl)).mono ?_
              rintro e w16 ⟨rfl, hb⟩
              have S17 := Lib.hid (S16.out.more hb)
              clear S16
              clear a0 a1 a2 al hb
              go_wp2
              go_ret
              exact ⟨rfl, S17.out.below⟩
    · rw [if_neg hL2] at HSX
      clear hLE hL hL2 h1 h2 hs0 hs hx3 hLE2
      go_enter Try.func7, Try.ntmps7
      obtain ⟨k0, k1, k2⟩ := (show Box _ _ (roL r (.slice A l.length c) (.slice A2 d.length c2)) from S0.out.box 1 _ _ rfl).threeQ
      have kl := (S0.out.box 1 _ _ rfl).lt
      obtain ⟨y0, y1, y2, y3⟩ := (show Box _ _ (rdL x0 x1 x2 x3) from S0.out.box 0 _ _ rfl).four4
      have yl := (S0.out.box 0 _ _ rfl).lt
      go_wp2_with fail
      refine (HS.out).mono ?_
      rintro e w17 ⟨rfl, hb⟩
      have S18 := Lib.hid (S0.out.more hb)
      clear S0
      clear k0 k1 k2 kl y0 y1 y2 y3 yl hb HS
      obtain ⟨y0, y1, y2, y3⟩ := (show Box _ _ (rdL x0 x1 x2 x3) from S18.out.box 0 _ _ rfl).four4
      have yl := (S18.out.box 0 _ _ rfl).lt
      go_wp2_with fail
      refine (HSX.out _).mono ?_
      rintro e w18 ⟨rfl, hb⟩
      have S19 := Lib.hid (S18.out.more hb)
      clear S18
      clear y0 y1 y2 y3 yl hb HSX
      go_wp2
      go_ret
      exact ⟨rfl, S19.out.below⟩
  · rw [if_neg hL] at hs
    have HS := Lib.hid hs
    clear hL h1 h2 hs0 hs hx3
    go_enter Try.func7, Try.ntmps7
    obtain ⟨k0, k1, k2⟩ := (show Box _ _ (roL r (.slice A l.length c) (.slice A2 d.length c2)) from S0.out.box 1 _ _ rfl).threeQ
    have kl := (S0.out.box 1 _ _ rfl).lt
    obtain ⟨y0, y1, y2, y3⟩ := (show Box _ _ (rdL x0 x1 x2 x3) from S0.out.box 0 _ _ rfl).four4
    have yl := (S0.out.box 0 _ _ rfl).lt
    go_wp2_with fail
    refine (HS.out).mono ?_
    rintro e w19 ⟨rfl, hb⟩
    have S20 := Lib.hid (S0.out.more hb)
    clear S0
    clear k0 k1 k2 kl y0 y1 y2 y3 yl hb HS
    go_wp2
    go_ret
    exact ⟨rfl, S20.out.below⟩
end Go.Proofs.Ytckofkdeedbbgaa
