/- What this text proves: the law that true times lie within the bounds of a clock's pairs, and that the estimate between two pairs is right up to three, returns true for every bytes that it draws from. -/
import Derived.Test.YtggfmimnmpanbaaDoorDrd
import Derived.Test.YtggfmimnmpanbaaDoorBtm
import Derived.Test.YtggfmimnmpanbaaDoorAtf
import Derived.Test.YtggfmimnmpanbaaDoorBou
import Derived.Test.YtggfmimnmpanbaaDoorGue
import Derived.Test.YtggfmimnmpanbaaDoorRat
import Derived.Test.YtggfmimnmpanbaaDoorAdp
import Derived.Test.YtggfmimnmpanbaaDoorQw
import Derived.Deep.LoopGhost
import Derived.Deep.Cut
import Derived.Deep.CutRange
namespace Go.Proofs.YtggfmimnmpanbaaDoor
open Go.ChangeShapes Go.WideShapes Go.ChangeAt Go.RowKit
set_option linter.unusedVariables false

theorem ts_first {ts : List Int} (h : TsOk ts) (hn : ts.length = 6) : 0 ≤ tAt ts 0 ∧ tAt ts 0 + 100 ≤ tAt ts 5 ∧ tAt ts 5 ≤ 1000000 := by
  have h0 := h.2.1 0 (by omega)
  have h5 := h.2.1 5 (by omega)
  have a0 : tAt ts 0 + 20 ≤ tAt ts 1 := h.2.2 0 (by omega)
  have a1 : tAt ts 1 + 20 ≤ tAt ts 2 := h.2.2 1 (by omega)
  have a2 : tAt ts 2 + 20 ≤ tAt ts 3 := h.2.2 2 (by omega)
  have a3 : tAt ts 3 + 20 ≤ tAt ts 4 := h.2.2 3 (by omega)
  have a4 : tAt ts 4 + 20 ≤ tAt ts 5 := h.2.2 4 (by omega)
  omega
set_option maxRecDepth 20000 in
set_option maxHeartbeats 16000000 in
theorem law_bounds (A : Option Addr) (n c : Nat) (hm : n ≤ maxLen) (w : World) (hc : CodeOk w w.heap.size A n) (hv : Bfr w) (hz : Bhd w) :
    Calls Tryd.prog 3 #[.slice A n c] w fun e w' => e = .returned (.bool true) ∧ Below w.heap.size w w' := by
  by_cases hbig : 1048576 < n
  · clear hv hz
    go_enter Tryd.func3, Tryd.ntmps3
    go_wp2_with (go_at_call 9; refine (big_yes _ _ _ hbig hm _).mono ?_; rintro e w' ⟨rfl, rfl⟩)
    go_ret
    exact ⟨rfl, Below.refl _ _⟩
  · have hn : n ≤ 1048576 := by omega
    have HD := Lib.hid (draw_drift A n c hn w hc)
    have HA := Lib.hid (fun i hi => at_fix w.heap.size A n c hn i hi w hc)
    have HVR := Lib.hid (fun W (hb : Below w.heap.size w W) => hv.moreAt hv.lt hb hb.size)
    have HZR := Lib.hid (fun W (hb : Below w.heap.size w W) => hz.moreAt hz.lt hb hb.size)
    clear hc hbig hv hz
    go_enter Tryd.func3, Tryd.ntmps3
    go_wp2_with (go_at_call 9; refine (big_no _ _ _ hn _).mono ?_; rintro e w' ⟨rfl, rfl⟩)
    refine HD.out.mono ?_
    rintro e w1 ⟨r, o, hro, rfl, hb1⟩
    have HR := Lib.hid hro
    have HBT := Lib.hid (fun t W => bt_impl r o t W)
    have HADD := Lib.hid (fun u ts T W L (hts : TsOk (ts ++ [T])) (hs : St w W L) (hu : (prT u (ckL r o ts)).P W) => (show Calls Tryd.prog 12 #[u, prV (btI r o T) T] W (fun e w' => ∃ u', e = .returned u' ∧ St w w' (prT u' (ckL r o (ts ++ [T])) :: L)) from by
      obtain ⟨A', q, rfl⟩ := prT_form hu
      have hl := hts.1
      rw [List.length_append] at hl
      refine (adp_impl A' (ckL r o ts) q (btI r o T) T (by rw [List.length_map]; omega) W (HVR.out W hs.below) (LsO.ats hu)).mono fun e w' hh => ?_
      obtain ⟨u', g1, g2, g3, g4⟩ := hh
      rw [ck_add hro hts] at g2 g3
      exact ⟨u', g1, hs.add _ g4 g2 g3⟩))
    have S1 := Lib.hid ((((St.start w).more hb1).made (drL r o) 25).lit 32 2)
    clear HD hro
    have S2 := Lib.hid (show St w _ [prT (.slice (some ⟨(w1.alloc (.cells (drL r o).toArray 25)).heap.size, 0, none⟩) 0 0) (ckL r o []), boxT w1.heap.size (drL r o)] from by
      have hh := S1.out.put 0 _ rfl (Touch.refl _ (fun _ => False)) (fun k hk => hk.elim) (prT (.slice (some ⟨(w1.alloc (.cells (drL r o).toArray 25)).heap.size, 0, none⟩) 0 0) (ckL r o [])) (OwnR.toO (S1.out.row 0 _ _ _ _ rfl)) (fun k hk => .inl hk)
      exact hh)
    have hsz : (w1.alloc (.cells (drL r o).toArray 25)).heap.size = w1.heap.size + 1 := by simp
    rw [hsz] at S2
    clear S1 hsz hb1
    obtain ⟨t0, ht0, HT0⟩ := HA.out 0 (by omega)
    have HT0 := Lib.hid (HT0 _ S2.out.below)
    go_wp2_with fail
    refine HT0.out.mono ?_
    rintro e w2 ⟨rfl, rfl⟩
    clear HT0
    go_wp2
    go_loopg [4, 5, 6] 6 (fun gh v4 v5 v6 wx => ∃ (k : Nat) (ts : List Int) (T : Int) (u : Value), k ≤ 6 ∧ gh = 6 - k ∧ v6 = .int .i64 (k : Int) ∧ v5 = .int .i64 T ∧ u = v4 ∧ ts.length = k ∧ TsOk ts ∧ (0 ≤ T ∧ T ≤ 255 + 275 * (k : Int)) ∧ (∀ j, j + 1 = k → tAt ts j + 20 ≤ T) ∧ St w wx [prT u (ckL r o ts), boxT w1.heap.size (drL r o)])
    case atStart => exact ⟨0, [], (t0 : Int), _, by omega, rfl, rfl, rfl, rfl, rfl, ⟨by simp, fun j hj => absurd hj (Nat.not_lt_zero _), fun j hj => absurd hj (Nat.not_lt_zero _)⟩, by omega, fun j hj => by omega, S2.out⟩
    case round =>
      obtain ⟨k, ts, T, u, hk, rfl, rfl, rfl, rfl, hlen, hts, hT, hlast, hst⟩ := hrel
      clear S2 ht0
      by_cases hlt : k < 6
      · have hd : decide (k < 6) = true := by simp; omega
        have hd' : decide ((k : Int) < 6) = true := by simp; omega
        have SS := Lib.hid hst
        have hts2 : TsOk (ts ++ [T]) := hts.more (by omega) (by omega) (fun j hj => hlast j (by omega))
        have HTS2 := Lib.hid hts2
        have HLAST := Lib.hid (show ∀ j, j + 1 = k + 1 → ∀ x : Nat, tAt (ts ++ [T]) j + 20 ≤ T + 20 + (x : Int) from fun j hj x => by
          rw [show j = ts.length by omega, tAt_last]; omega)
        obtain ⟨k0, k1⟩ := And.intro ((hst.box 1 _ _ rfl).cell 0 (by simp)) ((hst.box 1 _ _ rfl).cell 1 (by simp))
        have HADD1 := Lib.hid (fun W L (hs : St w W L) hu => HADD.out u ts T W L hts2 hs hu)
        have HBT1 := Lib.hid (HBT.out T)
        obtain ⟨x, hx, HX⟩ := HA.out (k + 1) (by omega)
        have HX := Lib.hid (fun W hb => (show Calls Tryd.prog 11 #[.slice A n c, .int .i64 ((k : Int) + 1)] W (fun e w' => e = .returned (.int .i64 (x : Int)) ∧ W = w') from HX W hb))
        have a1 : IntKind.i64.wrap ((k : Int) + 1) = (k : Int) + 1 := IntWalk.i64_in _ (by omega)
        have a1' : wrap64 ((k : Int) + 1) = (k : Int) + 1 := by unfold wrap64; omega
        have a2 : IntKind.i64.wrap (T + 20) = T + 20 := IntWalk.i64_in _ (by omega)
        have a2' : wrap64 (T + 20) = T + 20 := by unfold wrap64; omega
        have a3 : IntKind.i64.wrap (T + 20 + (x : Int)) = T + 20 + (x : Int) := IntWalk.i64_in _ (by omega)
        have a3' : wrap64 (T + 20 + (x : Int)) = T + 20 + (x : Int) := by unfold wrap64; omega
        have HTB := Lib.hid (show (0 ≤ T + 20 + (x : Int) ∧ T + 20 + (x : Int) ≤ 255 + 275 * ((k + 1 : Nat) : Int)) ∧ (ts ++ [T]).length = k + 1 from ⟨by omega, by simp [hlen]⟩)
        clear hst hts hts2 hT hlast HADD HBT HA hx
        generalize btI r o T = b at *
        go_wp2_with fail
        refine (HBT1.out _).mono ?_
        rintro e w3 ⟨rfl, h3⟩
        have S3 := Lib.hid (SS.out.more h3)
        clear h3 SS HBT1 k0 k1
        go_wp2_with fail
        refine (HADD1.out _ _ S3.out (S3.out.nth 0 _ rfl)).mono ?_
        rintro e w4 ⟨u5, rfl, h4⟩
        have S4 := Lib.hid h4
        clear h4 S3 HADD1
        go_wp2_with fail
        refine (HX.out _ S4.out.below).mono ?_
        rintro e w5 ⟨rfl, rfl⟩
        clear HX
        go_wp2
        go_roundg (6 - (k + 1))
        case measure => omega
        case rel => exact ⟨k + 1, ts ++ [T], _, u5, by omega, rfl, by go_num, rfl, rfl, HTB.out.2, HTS2.out, HTB.out.1, fun j hj => HLAST.out j hj x, S4.out.pick [0, 2] (by decide)⟩
      · have hd : decide (k < 6) = false := by simp; omega
        have hd' : decide ((k : Int) < 6) = false := by simp; omega
        obtain rfl : k = 6 := by omega
        have hro := HR.out
        obtain ⟨f1, f2, f3⟩ := ts_first hts hlen
        have hok := ck_ok hro hts
        have hBO := fun X (h : tAt ts 0 ≤ X ∧ X ≤ tAt ts 5) => ck_bounds hro hts (x := X) ⟨by omega, by omega⟩
        have hGU := fun X (h : tAt ts 0 ≤ X ∧ X ≤ tAt ts 5) => ck_guess hro hts (by omega) (x := X) (by rw [show ts.length - 1 = 5 by omega]; exact h)
        have hRA := ck_rate hro hts (by omega)
        rw [show ts.length - 1 = 5 by omega] at hRA
        have hl6 : (ckL r o ts).length = 6 := by rw [List.length_map]; exact hlen
        have e0 := ck_at (r := r) (o := o) (show 0 < ts.length by omega)
        have e5 := ck_at (r := r) (o := o) (show 5 < ts.length by omega)
        obtain ⟨l, hl⟩ : ∃ l, ckL r o ts = l := ⟨_, rfl⟩
        obtain ⟨F, hF⟩ : ∃ F, tAt ts 0 = F := ⟨_, rfl⟩
        obtain ⟨E, hE⟩ : ∃ F, tAt ts 5 = F := ⟨_, rfl⟩
        simp only [hl] at hok hBO hGU hRA hl6 e0 e5 hst
        rw [hF] at f1 f2 hRA e0
        rw [hE] at f2 f3 hRA e5
        simp only [hF, hE] at hBO hGU
        have HBO := Lib.hid hBO
        have HGU := Lib.hid hGU
        obtain ⟨A', q, hu⟩ := prT_form (hst.nth 0 _ rfl)
        rw [hl6] at hu
        subst hu
        have g0 := LsO.ats (hst.nth 0 _ rfl)
        obtain ⟨b, off, rfl, hb, hcs⟩ := prCellsI (b := 0) (off := 0) g0 (by omega)
        have cF := (hcs 0 (by omega)).2
        have cE := (hcs 5 (by omega)).2
        rw [pAt_eq, e0] at cF
        rw [pAt_eq, e5] at cE
        have HC := Lib.hid (fun W (hW : Below wr.heap.size wr W) => (show W.cell? ⟨b, off + 1, none⟩ = some (.int .i64 F) ∧ W.cell? ⟨b, off + 10 + 1, none⟩ = some (.int .i64 E) ∧ b < W.heap.size from ⟨(hW.cell (p := ⟨b, off + 1, none⟩) hb).trans cF, (hW.cell (p := ⟨b, off + 10 + 1, none⟩) hb).trans cE, Nat.lt_of_lt_of_le hb hW.size⟩))
        have HBC := Lib.hid (fun X lo hi (h : bouR l (btI r o X) = (lo, hi, true)) W (hW : Below wr.heap.size wr W) (hw : Below w.heap.size w W) => (show Calls Tryd.prog 14 #[.slice (some ⟨b, off, none⟩) 6 q, .int .i64 (btI r o X)] W (fun e w' => e = .returned (.tuple #[.int .i64 lo, .int .i64 hi, .bool true]) ∧ Below W.heap.size W w') from by
          have hh := bou_impl (some ⟨b, off, none⟩) l q (btI r o X) (by omega) W (HVR.out W hw) (HZR.out W hw) (g0.full hW)
          rw [hl6, h] at hh
          exact hh))
        have HGC := Lib.hid (fun X y (h : gueR l (btI r o X) = (y, true)) W (hW : Below wr.heap.size wr W) (hw : Below w.heap.size w W) => (show Calls Tryd.prog 15 #[.slice (some ⟨b, off, none⟩) 6 q, .int .i64 (btI r o X)] W (fun e w' => e = .returned (.tuple #[.int .i64 y, .bool true]) ∧ Below W.heap.size W w') from by
          have hh := gue_impl (some ⟨b, off, none⟩) l q (btI r o X) (by omega) W (HVR.out W hw) (g0.full hW)
          rw [hl6, h] at hh
          exact hh))
        obtain ⟨G, hG0, hG1, hG2⟩ := hRA
        have HRC := Lib.hid (fun W (hW : Below wr.heap.size wr W) (hw : Below w.heap.size w W) => (show Calls Tryd.prog 16 #[.slice (some ⟨b, off, none⟩) 6 q] W (fun e w' => e = .returned (.tuple #[.int .i64 G, .bool true]) ∧ Below W.heap.size W w') from by
          have hh := rat_impl (some ⟨b, off, none⟩) l q (by omega) W (HVR.out W hw) (g0.full hW)
          rw [hl6, hG0] at hh
          exact hh))
        have HPC := Lib.hid (fun W (hW : Below wr.heap.size wr W) (hw : Below w.heap.size w W) => (show Calls Tryd.prog 17 #[.slice (some ⟨b, off, none⟩) 6 q] W (fun e w' => e = .returned (.bool true) ∧ Below W.heap.size W w') from by
          have hh := pok_impl (some ⟨b, off, none⟩) l q (by omega) W (HVR.out W hw) (g0.full hW)
          rw [hl6, decide_eq_true hok] at hh
          exact hh))
        obtain ⟨Dm, hDm⟩ : ∃ D, E - F = D := ⟨_, rfl⟩
        obtain ⟨M, hM⟩ : ∃ D, Dm + 1 = D := ⟨_, rfl⟩
        rw [hDm] at hG1 hG2
        have htd : Int.tdiv 1000 Dm = 1000 / Dm := Int.tdiv_eq_ediv_of_nonneg (by decide)
        have hq0 : 0 ≤ 1000 / Dm := Int.ediv_nonneg (by decide) (by omega)
        have hq1 : 1000 / Dm < 1001 := by rw [Int.ediv_lt_iff_lt_mul (by omega)]; omega
        generalize 1000 / Dm = Q at *
        have HM := Lib.hid (show (∀ x : Nat, x ≤ 255 → ∃ R X, Int.tmod ((x : Int) * 7) M = R ∧ F + R = X ∧ (F ≤ X ∧ X ≤ E)) from fun x hx => by
          have e1 : Int.tmod ((x : Int) * 7) M = ((x : Int) * 7) % M := Int.tmod_eq_emod_of_nonneg (by omega)
          have e2 := Int.emod_nonneg ((x : Int) * 7) (show M ≠ 0 by omega)
          have e3 := Int.emod_lt_of_pos ((x : Int) * 7) (show 0 < M by omega)
          exact ⟨_, _, e1, rfl, by omega, by omega⟩)
        have hM0 : ¬ M = 0 := by omega
        have hDm0 : ¬ Dm = 0 := by omega
        have u1 : IntKind.i64.wrap Dm = Dm ∧ wrap64 Dm = Dm := ⟨IntWalk.i64_in _ (by omega), by unfold wrap64; omega⟩
        have u2 : IntKind.i64.wrap M = M ∧ wrap64 M = M := ⟨IntWalk.i64_in _ (by omega), by unfold wrap64; omega⟩
        have u3 : IntKind.i64.wrap Q = Q ∧ wrap64 Q = Q := ⟨IntWalk.i64_in _ (by omega), by unfold wrap64; omega⟩
        have u4 : IntKind.i64.wrap (Q + 1) = Q + 1 ∧ wrap64 (Q + 1) = Q + 1 := ⟨IntWalk.i64_in _ (by omega), by unfold wrap64; omega⟩
        obtain ⟨⟨hr1, hr2⟩, _⟩ := hro
        have u5 : IntKind.i64.wrap (G - r) = G - r ∧ wrap64 (G - r) = G - r := ⟨IntWalk.i64_in _ (by omega), by unfold wrap64; omega⟩
        have u6 : IntKind.i64.wrap (r - G) = r - G ∧ wrap64 (r - G) = r - G := ⟨IntWalk.i64_in _ (by omega), by unfold wrap64; omega⟩
        have z1 : decide (G - r ≤ Q + 1) = true := by simp; omega
        have z2 : decide (r - G ≤ Q + 1) = true := by simp; omega
        obtain ⟨u1a, u1b⟩ := u1
        obtain ⟨u2a, u2b⟩ := u2
        obtain ⟨u3a, u3b⟩ := u3
        obtain ⟨u4a, u4b⟩ := u4
        obtain ⟨u5a, u5b⟩ := u5
        obtain ⟨u6a, u6b⟩ := u6
        have HNUM := Lib.hid (show (0 ≤ F ∧ E ≤ 1000000) from ⟨f1, f3⟩)
        have S6 := Lib.hid hst
        obtain ⟨q1, q5, ql⟩ := HC.out _ (Below.refl _ _)
        clear hG0 hG1 hG2 hq0 hq1 hr1 hr2 hok hl6 e0 e5 hcs g0 cF cE hst HADD hts hlast hT hlen hl hF hE f1 f2 f3
        obtain ⟨wo, rfl⟩ : ∃ x, x = wr := ⟨wr, rfl⟩
        go_wp2
        go_loopg [8] 40 (fun gh v8 wx => ∃ k : Nat, k ≤ 40 ∧ gh = 40 - k ∧ v8 = .int .i64 (k : Int) ∧ Below wo.heap.size wo wx ∧ St w wx [boxT w1.heap.size (drL r o)])
        case atStart => exact ⟨0, by omega, rfl, rfl, Below.refl _ _, S6.out.pick [1] (by decide)⟩
        case round =>
          obtain ⟨k, hk, rfl, rfl, hbo, hst⟩ := hrel
          have BO := Lib.hid hbo
          have S7 := Lib.hid hst
          clear q1 q5 ql S6
          by_cases hlt : k < 40
          · have hd : decide (k < 40) = true := by simp; omega
            have hd' : decide ((k : Int) < 40) = true := by simp; omega
            obtain ⟨x, hx, HX⟩ := HA.out k (by omega)
            obtain ⟨Rm, X, hRm, hXX, hXin⟩ := HM.out x hx
            obtain ⟨lo, hi, hbou, hlo, hhi⟩ := HBO.out X hXin
            obtain ⟨y, hgue, hy1, hy2⟩ := HGU.out X hXin
            have hnum := HNUM.out
            have HX1 := Lib.hid (fun W (hW : Below wr.heap.size wr W) => (HX W (hst.below.trans (hW.mono hst.below.size))).mono fun e w' h => (show e = .returned (.int .i64 (x : Int)) ∧ Below wr.heap.size wr w' from ⟨h.1, by rw [← h.2]; exact hW⟩))
            have HB1 := Lib.hid (HBC.out X lo hi hbou)
            have HG1 := Lib.hid (HGC.out X y hgue)
            have HBT1 := Lib.hid (HBT.out X)
            obtain ⟨Y, hY⟩ : ∃ Y, (x : Int) * 7 = Y := ⟨_, rfl⟩
            have v1 : IntKind.i64.wrap Y = Y ∧ wrap64 Y = Y := ⟨IntWalk.i64_in _ (by omega), by unfold wrap64; omega⟩
            have v2 : IntKind.i64.wrap X = X ∧ wrap64 X = X := ⟨IntWalk.i64_in _ (by omega), by unfold wrap64; omega⟩
            have v3 : IntKind.i64.wrap (y - X) = y - X ∧ wrap64 (y - X) = y - X := ⟨IntWalk.i64_in _ (by omega), by unfold wrap64; omega⟩
            have v4 : IntKind.i64.wrap (X - y) = X - y ∧ wrap64 (X - y) = X - y := ⟨IntWalk.i64_in _ (by omega), by unfold wrap64; omega⟩
            have d1 : decide (X < lo) = false := by simp; omega
            have d2 : decide (hi < X) = false := by simp; omega
            have d3 : decide (3 < y - X) = false := by simp; omega
            have d4 : decide (3 < X - y) = false := by simp; omega
            have d5 : decide (lo ≤ X) = true := by simp; omega
            have d6 : decide (X ≤ hi) = true := by simp; omega
            obtain ⟨v1a, v1b⟩ := v1
            obtain ⟨v2a, v2b⟩ := v2
            obtain ⟨v3a, v3b⟩ := v3
            obtain ⟨v4a, v4b⟩ := v4
            rw [hY] at hRm
            have hall : ∀ q : Prop, (InW (fun W => Below wr.heap.size wr W) → q) ↔ q := fun q => ⟨fun h => h ⟨_, Below.refl _ _⟩, fun h _ => h⟩
            have c1 : ∀ p : InW (fun W => Below wr.heap.size wr W), p.W.cell? ⟨b, off + 1, none⟩ = some (.int .i64 F) := fun p => (HC.out _ (hbo.trans (p.ok.mono hbo.size))).1
            generalize btI r o X = bX at *
            clear hx HX hXin hbou hlo hhi hgue hy1 hy2 hnum hst hbo HBO HGU HBC HGC HRC HPC HM HA HC HNUM HVR HZR HBT z1 z2
            go_upto_region 15 with fail
            go_cut [9] from 54 to 70 (fun s9 wx => s9 = .int .i64 X ∧ Below wr.heap.size wr wx)
            case first =>
              refine wp_region_inW (fun W => Below wr.heap.size wr W) (by kernel_rfl) (by kernel_rfl) (Below.refl _ _).drew ?_
              repeat (go_big_quiet_step ((go_at_call 11; (with_reducible exact calls_inW (C := fun W => Below wr.heap.size wr W) (HX1.out _ (InW.ok (C := fun W => Below wr.heap.size wr W) _))))))
              refine wpQuiet_nil ?_
              rintro _ ⟨⟨W2, hW2⟩, rfl⟩
              go_wp2
              go_meet
              exact ⟨rfl, hW2⟩
            case rest =>
              obtain ⟨rfl, hB8⟩ := hcut
              generalize wc = w8 at *
              have B8 := Lib.hid (BO.out.trans (hB8.mono BO.out.size))
              have S8 := Lib.hid (S7.out.more hB8)
              obtain ⟨k0, k1⟩ := And.intro ((S8.out.box 0 _ _ rfl).cell 0 (by simp)) ((S8.out.box 0 _ _ rfl).cell 1 (by simp))
              clear hB8 c1 hall HX1 S7 BO
              go_wp2_with fail
              refine (HBT1.out _).mono ?_
              rintro e w9 ⟨rfl, h9⟩
              have S9 := Lib.hid (S8.out.more h9)
              have B9 := Lib.hid (B8.out.trans (h9.mono B8.out.size))
              clear h9 S8 B8 k0 k1
              go_wp2_with fail
              refine (HB1.out _ B9.out S9.out.below).mono ?_
              rintro e w10 ⟨rfl, h10⟩
              have S10 := Lib.hid (S9.out.more h10)
              have B10 := Lib.hid (B9.out.trans (h10.mono B9.out.size))
              obtain ⟨k0, k1⟩ := And.intro ((S10.out.box 0 _ _ rfl).cell 0 (by simp)) ((S10.out.box 0 _ _ rfl).cell 1 (by simp))
              clear h10 S9 B9 HB1
              go_wp2_with fail
              refine (HBT1.out _).mono ?_
              rintro e w11 ⟨rfl, h11⟩
              have S11 := Lib.hid (S10.out.more h11)
              have B11 := Lib.hid (B10.out.trans (h11.mono B10.out.size))
              clear h11 S10 B10 k0 k1
              go_wp2_with fail
              refine (HG1.out _ B11.out S11.out.below).mono ?_
              rintro e w12 ⟨rfl, h12⟩
              have S12 := Lib.hid (S11.out.more h12)
              have B12 := Lib.hid (B11.out.trans (h12.mono B11.out.size))
              clear h12 S11 B11 HG1 HBT1
              go_wp2
              go_roundg (40 - (k + 1))
              case measure => omega
              case rel => exact ⟨k + 1, by omega, rfl, by go_num, B12.out, S12.out⟩
          · have hd : decide (k < 40) = false := by simp; omega
            have hd' : decide ((k : Int) < 40) = false := by simp; omega
            clear hlt hst hbo HBO HGU HBC HGC HM HA HBT HVR HZR
            go_wp2_with fail
            refine (HRC.out _ BO.out S7.out.below).mono ?_
            rintro e w8 ⟨rfl, h8⟩
            have S8 := Lib.hid (S7.out.more h8)
            have B8 := Lib.hid (BO.out.trans (h8.mono BO.out.size))
            obtain ⟨k0, k1⟩ := And.intro ((S8.out.box 0 _ _ rfl).cell 0 (by simp)) ((S8.out.box 0 _ _ rfl).cell 1 (by simp))
            obtain ⟨q1, q5, ql⟩ := HC.out _ B8.out
            clear h8 S7 BO HRC
            go_wp2_with fail
            refine (HPC.out _ B8.out S8.out.below).mono ?_
            rintro e w9 ⟨rfl, h9⟩
            have S9 := Lib.hid (S8.out.more h9)
            clear h9 S8 B8 HPC k0 k1 q1 q5 ql
            go_wp2
            go_ret
            exact ⟨rfl, S9.out.below⟩
end Go.Proofs.YtggfmimnmpanbaaDoor
