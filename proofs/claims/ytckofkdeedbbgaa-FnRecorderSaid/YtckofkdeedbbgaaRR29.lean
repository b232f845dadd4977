/- What this text proves: the parts FrLaw of the proof, each under its own words. -/
import Derived.Test.YtckofkdeedbbgaaRR09
import Derived.Test.YtckofkdeedbbgaaRR25
import Derived.Test.YtckofkdeedbbgaaRR27
import Derived.Test.YtckofkdeedbbgaaRR19
import Derived.Test.YtckofkdeedbbgaaRR28
import Derived.Deep.LoopGhost
import Derived.Deep.Cut
import Derived.Deep.CutRange
import Derived.BigQuiet
/- What this text proves: the law that a recorder gives up only records of lesser priority, and only as long as there is not enough room, returns true for every bytes that it draws from. -/
namespace Go.Proofs.Ytckofkdeedbbgaa
open Go.ChangeShapes Go.WideShapes Go.ChangeAt Go.RowKit
set_option linter.unusedVariables false

theorem OwnRo.at {W : World} {base : Nat} {r : Int} {A A2 : Option Addr} {c c2 : Nat} {l : List Rc} {d : List Int} (h : OwnRo W base (roV r (.slice A l.length c) (.slice A2 d.length c2)) r l d) : LsO 4 W base (.slice A l.length c) (l.map rcC) ∧ LsO 1 W base (.slice A2 d.length c2) (d.map inC) := by
  obtain ⟨A', c', A2', c2', e, h1, h2, h3⟩ := h.form
  simp only [roV, Value.agg.injEq, Array.mk.injEq, List.cons.injEq, Value.slice.injEq, true_and, and_true] at e
  obtain ⟨⟨e1, e2⟩, e3, e4⟩ := e
  subst e1 e2 e3 e4
  exact ⟨h1, h2⟩
/-- The digits from which the law takes its data. -/
abbrev dig10 : ByteArray := ⟨#[48, 49, 50, 51, 52, 53, 54, 55, 56, 57]⟩
theorem slice_dig (x : Nat) : ∃ s : ByteArray, s.size ≤ 10 ∧ ∀ W : World, (Instr.slice 9 (.string dig10) none (some (.int .i64 ((x : Int) % 10))) none).run Try.prog W = .ok (.string s) W := by
  refine ⟨dig10.extract 0 (x % 10), ?_, fun W => ?_⟩
  · have : dig10.size = 10 := rfl
    rw [ByteArray.size_extract]
    omega
  · have h := run_slice_string_to_if W 9 dig10 .i64 ((x : Int) % 10) Try.underlying9
    have hs : dig10.size = 10 := rfl
    rw [if_pos (by rw [hs]; omega), show ((x : Int) % 10).toNat = x % 10 from by omega] at h
    exact h
set_option maxRecDepth 20000 in
set_option maxHeartbeats 16000000 in
theorem law_recorder (A : Option Addr) (n c0 : Nat) (hm : n ≤ maxLen) (w : World) (hc : CodeOk w w.heap.size A n) :
    Calls Try.prog 4 #[.slice A n c0] w fun e w' => e = .returned (.bool true) ∧ Below w.heap.size w w' := by
  by_cases hbig : 1048576 < n
  · go_enter Try.func4, Try.ntmps4
    go_wp2_with (go_at_call 9; refine (big_yes _ _ _ hbig hm _).mono ?_; rintro e w' ⟨rfl, rfl⟩)
    go_ret
    exact ⟨rfl, Below.refl _ _⟩
  · have hn : n ≤ 1048576 := by omega
    have Ha := Lib.hid (fun (w1 : World) (hb : Below w.heap.size w w1) i hi => at_any w.heap.size A n c0 hn i hi w1 (hc.more hb))
    clear hc hbig
    go_enter Try.func4, Try.ntmps4
    go_wp2_with (go_at_call 9; refine (big_no _ _ _ hn _).mono ?_; rintro e w' ⟨rfl, rfl⟩)
    refine (Ha.out _ (Below.refl _ _) 0 (by omega)).mono ?_
    rintro e w' ⟨a0, ha0, rfl, rfl⟩
    have hRb : (0 : Int) ≤ 30 + (a0 : Int) ∧ 30 + (a0 : Int) ≤ 4000 := by omega
    have wR : IntKind.i64.wrap (30 + (a0 : Int)) = 30 + (a0 : Int) ∧ wrap64 (30 + (a0 : Int)) = 30 + (a0 : Int) := ⟨IntWalk.i64_in _ (by omega), by unfold wrap64; omega⟩
    obtain ⟨wR1, wR2⟩ := wR
    obtain ⟨R, hR⟩ : ∃ R : Int, 30 + (a0 : Int) = R := ⟨_, rfl⟩
    rw [hR] at wR1 wR2 hRb
    clear ha0
    have S0 := Lib.hid (show St w (w.alloc (.cells #[.int .i64 R, .slice none 0 0, .slice none 0 0] 30)) [boxT w.heap.size (roL R (.slice none ([] : List Rc).length 0) (.slice none ([] : List Int).length 0)), roT (roV R (.slice none ([] : List Rc).length 0) (.slice none ([] : List Int).length 0)) R [] []] from (((St.start w).addAt (roT (roV R (.slice none ([] : List Rc).length 0) (.slice none ([] : List Int).length 0)) R [] []) ⟨none, 0, none, 0, rfl, LsO.nil0 4 _ _ 0, LsO.nil0 1 _ _ 0, fun k hk => by cases hk⟩ (fun k hk => by rcases blkRo_iff.1 hk with e | e <;> cases e) (fun b hb => by cases hb)).made (roL R (.slice none 0 0) (.slice none 0 0)) 30))
    have HF0 := Lib.hid (FrI.start hRb)
    go_wp2
    clear wR1 wR2
    go_loopg [4] 20 (fun gh u wx => ∃ (k : Nat) (l : List Rc) (d : List Int) (A1 : Option Addr) (c1 : Nat) (B1 : Option Addr) (e1 : Nat), k ≤ 20 ∧ gh = 20 - k ∧ u = .int .i64 (k : Int) ∧ FrI R k l d ∧ St w wx [boxT w.heap.size (roL R (.slice A1 l.length c1) (.slice B1 d.length e1)), roT (roV R (.slice A1 l.length c1) (.slice B1 d.length e1)) R l d])
    case atStart => exact ⟨0, [], [], none, 0, none, 0, by omega, rfl, rfl, HF0.out, by have h := S0.out; rw [← hR] at h ⊢; exact h⟩
    case round =>
      obtain ⟨k, l, d, A1, c1, B1, e1, hk, rfl, rfl, hfr, hst⟩ := hrel
      have SS := Lib.hid hst
      have HF := Lib.hid hfr
      have hsum := hfr.sum
      obtain ⟨hl6, ht4, hd6⟩ := rcr_short hfr.ok
      clear hst hfr S0 HF0
      by_cases hlt : k < 20
      · have hd1 : decide (k < 20) = true := by simp; omega
        have hd2 : decide ((k : Int) < 20) = true := by simp; omega
        have hld : l.length ≤ 20 ∧ d.length ≤ 20 := by omega
        go_wp2_with fail
        refine (Ha.out _ SS.out.below k (by omega)).mono ?_
        rintro e w2 ⟨a1, ha1, rfl, rfl⟩
        have hk1 : k + 1 ≤ 1000000 := by omega
        have hk3 : k + 3 ≤ 1000000 := by omega
        have wk1 : IntKind.i64.wrap ((k : Int) + 1) = ((k + 1 : Nat) : Int) ∧ wrap64 ((k : Int) + 1) = ((k + 1 : Nat) : Int) := ⟨(IntWalk.i64_in _ (by omega)).trans (by omega), by unfold wrap64; omega⟩
        obtain ⟨wk1, wk1'⟩ := wk1
        go_wp2_with fail
        refine (Ha.out _ SS.out.below (k + 1) hk1).mono ?_
        rintro e w3 ⟨a2, ha2, rfl, rfl⟩
        clear wk1 wk1'
        obtain ⟨dt, hdt, hsl⟩ := slice_dig a2
        have hxo : RdC ((k : Int), (a1 : Int) % 4, 0, dt) := ⟨⟨by show (0 : Int) ≤ (k : Int); omega, by show (k : Int) ≤ 65535; omega⟩, ⟨by show (0 : Int) ≤ (a1 : Int) % 4; omega, by show (a1 : Int) % 4 ≤ 3; omega⟩, ⟨by show (0 : Int) ≤ 0; omega, by show (0 : Int) ≤ 1000000; omega⟩, by show dt.size ≤ 34; omega⟩
        obtain ⟨hfs, E, hE1, hE2, hE3⟩ := HF.out.step hlt hxo rfl
        have HKI := Lib.hid (fun W (g1 : LsI 4 W W.heap.size A1 (l.map rcC)) (g2 : LsI 1 W W.heap.size B1 (d.map inC)) => keep_impl R A1 B1 l d c1 e1 ((k : Int), (a1 : Int) % 4, 0, dt) (by omega) (by omega) (by omega) W g1 g2)
        generalize hpr : (a1 : Int) % 4 = pr at *
        clear hpr ha1 ha2
        simp only [] at HKI hE2 hE3
        generalize keepR R l d ((k : Int), pr, 0, dt) = Z at *
        obtain ⟨yl, yd⟩ := Z
        simp only [] at HKI hfs hE1
        have HFS := Lib.hid hfs
        have hsum2 := hfs.sum
        obtain ⟨hl7, ht5, hd7⟩ := rcr_short hfs.ok
        have HE1 := Lib.hid hE1
        have HE2 := Lib.hid hE2
        have HE3 := Lib.hid hE3
        clear hfs hE1 hE2 hE3 hxo
        have hyl : yl.length ≤ 21 ∧ yd.length ≤ 21 := by omega
        obtain ⟨k0, k1, k2⟩ := (show Box _ _ (roL R (.slice A1 l.length c1) (.slice B1 d.length e1)) from SS.out.box 0 _ _ rfl).threeQ
        have kl := (SS.out.box 0 _ _ rfl).lt
        have ki := (SS.out.box 0 _ _ rfl).ice
        have S1 := Lib.hid (SS.out.made (rdL (k : Int) pr 0 dt) 50)
        clear SS
        have ws6 : IntKind.i64.wrap (6 + (dt.size : Int)) = 6 + (dt.size : Int) ∧ wrap64 (6 + (dt.size : Int)) = 6 + (dt.size : Int) := ⟨IntWalk.i64_in _ (by omega), by unfold wrap64; omega⟩
        obtain ⟨ws6, ws6'⟩ := ws6
        go_wp2_with fail
        refine (HKI.out _ (LsO.ats (OwnRo.at (S1.out.nth 2 _ rfl)).1) (LsO.ats (OwnRo.at (S1.out.nth 2 _ rfl)).2)).mono ?_
        rintro e w4 ⟨v, rfl, hp, hn, hb⟩
        obtain ⟨A2, c2, B2, e2, rfl⟩ := rrT.form hp
        have S2 := Lib.hid (S1.out.add (roT (roV R (.slice A2 yl.length c2) (.slice B2 yd.length e2)) R yl yd) hb (rrT.ro hp) hn)
        clear S1
        have S3 := Lib.hid (S2.out.made (roL R (.slice A2 yl.length c2) (.slice B2 yd.length e2)) 30)
        clear S2
        clear k0 k1 k2 kl ki hp hn hb HKI ws6 ws6' hsl
        have HOK := Lib.hid (fun W (g1 : LsI 4 W W.heap.size A2 (yl.map rcC)) (g2 : LsI 1 W W.heap.size B2 (yd.map inC)) => (rcrB_yes HFS.out.ok) ▸ rcr_impl R A2 B2 yl yd c2 e2 (by omega) (by omega) (by omega) W g1 g2)
        have HLF := Lib.hid (fun W (g1 : LsI 4 W W.heap.size A1 (l.map rcC)) (g2 : LsI 1 W W.heap.size B1 (d.map inC)) => left_impl R A1 B1 l d c1 e1 (by omega) (by omega) (by omega) W g1 g2)
        have HTK := Lib.hid (fun hc W (g1 : LsI 4 W W.heap.size A2 (yl.map rcC)) (g2 : LsI 1 W W.heap.size B2 (yd.map inC)) => tkr_impl R A2 B2 yl yd c2 e2 hc 1 (by omega) (by omega) (by omega) W g1 g2)
        have wA : wrap64 ((yl.length : Int) + (yd.length : Int)) = ((k + 1 : Nat) : Int) ∧ wrap64 ((l.length : Int) + (d.length : Int)) = (k : Int) ∧ wrap64 ((k : Int) + 1) = ((k + 1 : Nat) : Int) ∧ IntKind.i64.wrap ((yl.length : Int) + (yd.length : Int)) = ((k + 1 : Nat) : Int) ∧ IntKind.i64.wrap ((l.length : Int) + (d.length : Int)) = (k : Int) ∧ IntKind.i64.wrap ((k : Int) + 1) = ((k + 1 : Nat) : Int) := ⟨by unfold wrap64; omega, by unfold wrap64; omega, by unfold wrap64; omega, (IntWalk.i64_in _ (by omega)).trans (by omega), (IntWalk.i64_in _ (by omega)).trans (by omega), (IntWalk.i64_in _ (by omega)).trans (by omega)⟩
        obtain ⟨wa1, wa2, wa3, wa4, wa5, wa6⟩ := wA
        have hnn : (((k + 1 : Nat) : Int) != ((k + 1 : Nat) : Int)) = false := by simp
        obtain ⟨k0, k1, k2⟩ := (show Box _ _ (roL R (.slice A1 l.length c1) (.slice B1 d.length e1)) from S3.out.box 3 _ _ rfl).threeQ
        have kl := (S3.out.box 3 _ _ rfl).lt
        have ki := (S3.out.box 3 _ _ rfl).ice
        obtain ⟨q0, q1, q2, q3⟩ := (show Box _ _ (rdL (k : Int) pr 0 dt) from S3.out.box 2 _ _ rfl).four4
        have ql := (S3.out.box 2 _ _ rfl).lt
        have qi := (S3.out.box 2 _ _ rfl).ice
        obtain ⟨a0, a1, a2⟩ := (show Box _ _ (roL R (.slice A2 yl.length c2) (.slice B2 yd.length e2)) from S3.out.box 0 _ _ rfl).threeQ
        have al := (S3.out.box 0 _ _ rfl).lt
        have ai := (S3.out.box 0 _ _ rfl).ice
        go_wp2_with fail
        refine (HOK.out _ (LsO.ats (OwnRo.at (S3.out.nth 1 _ rfl)).1) (LsO.ats (OwnRo.at (S3.out.nth 1 _ rfl)).2)).mono ?_
        rintro e w5 ⟨rfl, hb⟩
        have S4 := Lib.hid (S3.out.more hb)
        clear S3
        clear k0 k1 k2 kl ki q0 q1 q2 q3 ql qi a0 a1 a2 al ai hb HOK wa1 wa2 wa3 wa4 wa5 wa6 hnn
        obtain ⟨k0, k1, k2⟩ := (show Box _ _ (roL R (.slice A1 l.length c1) (.slice B1 d.length e1)) from S4.out.box 3 _ _ rfl).threeQ
        have kl := (S4.out.box 3 _ _ rfl).lt
        have ki := (S4.out.box 3 _ _ rfl).ice
        obtain ⟨q0, q1, q2, q3⟩ := (show Box _ _ (rdL (k : Int) pr 0 dt) from S4.out.box 2 _ _ rfl).four4
        have ql := (S4.out.box 2 _ _ rfl).lt
        have qi := (S4.out.box 2 _ _ rfl).ice
        obtain ⟨a0, a1, a2⟩ := (show Box _ _ (roL R (.slice A2 yl.length c2) (.slice B2 yd.length e2)) from S4.out.box 0 _ _ rfl).threeQ
        have al := (S4.out.box 0 _ _ rfl).lt
        have ai := (S4.out.box 0 _ _ rfl).ice
        go_wp2
        clear k0 k1 k2 kl ki q0 q1 q2 q3 ql qi a0 a1 a2 al ai
        have S5 := Lib.hid (show St w _ [boxT w.heap.size (roL R (.slice A1 l.length c1) (.slice B1 d.length e1)), roT (roV R (.slice A1 l.length c1) (.slice B1 d.length e1)) R l d, boxT wr.heap.size (rdL (k : Int) pr 0 dt), boxT w4.heap.size (roL R (.slice A2 yl.length c2) (.slice B2 yd.length e2)), roT (roV R (.slice A2 yl.length c2) (.slice B2 yd.length e2)) R yl yd] from S4.out.pick [3, 4, 2, 0, 1] (by decide))
        clear S4
        generalize wr.heap.size = gx at *
        generalize w4.heap.size = gy at *
        have hdy : d.length ≤ yd.length := by have := congrArg List.length HE1.out; rw [List.length_append] at this; omega
        go_loopg [8] (yd.length - d.length) (fun gh u wx => ∃ i : Nat, d.length ≤ i ∧ i ≤ yd.length ∧ gh = yd.length - i ∧ u = .int .i64 (i : Int) ∧ St w wx [boxT w.heap.size (roL R (.slice A1 l.length c1) (.slice B1 d.length e1)), roT (roV R (.slice A1 l.length c1) (.slice B1 d.length e1)) R l d, boxT gx (rdL (k : Int) pr 0 dt), boxT gy (roL R (.slice A2 yl.length c2) (.slice B2 yd.length e2)), roT (roV R (.slice A2 yl.length c2) (.slice B2 yd.length e2)) R yl yd])
        case atStart => exact ⟨d.length, by omega, hdy, by omega, rfl, S5.out⟩
        case round =>
          obtain ⟨i, hi1, hi2, rfl, rfl, hst⟩ := hrel
          have SI := Lib.hid hst
          clear hst S5
          by_cases hil : i < yd.length
          · have hj1 : decide (i < yd.length) = true := by simp; omega
            have hj2 : decide ((i : Int) < (yd.length : Int)) = true := by simp; omega
            obtain ⟨k0, k1, k2⟩ := (show Box _ _ (roL R (.slice A1 l.length c1) (.slice B1 d.length e1)) from SI.out.box 0 _ _ rfl).threeQ
            have kl := (SI.out.box 0 _ _ rfl).lt
            have ki := (SI.out.box 0 _ _ rfl).ice
            obtain ⟨q0, q1, q2, q3⟩ := (show Box _ _ (rdL (k : Int) pr 0 dt) from SI.out.box 2 _ _ rfl).four4
            have ql := (SI.out.box 2 _ _ rfl).lt
            have qi := (SI.out.box 2 _ _ rfl).ice
            obtain ⟨a0, a1, a2⟩ := (show Box _ _ (roL R (.slice A2 yl.length c2) (.slice B2 yd.length e2)) from SI.out.box 3 _ _ rfl).threeQ
            have al := (SI.out.box 3 _ _ rfl).lt
            have ai := (SI.out.box 3 _ _ rfl).ice
            have hmem : yd[i] ∈ E := by
              have h9 : i - d.length < E.length := by have := congrArg List.length HE1.out; rw [List.length_append] at this; omega
              have h8 : yd[i] = E[i - d.length] := by simp only [HE1.out]; rw [List.getElem_append_right (by omega)]
              rw [h8]; exact List.getElem_mem h9
            have HMM := Lib.hid (HE2.out _ hmem)
            clear hmem
            obtain ⟨bq, oq, hBq, hbq, hcq⟩ := inCellsI (LsO.ats (OwnRo.at (SI.out.nth 4 _ rfl)).2) (by omega)
            have hcy := hcq i hil
            subst hBq
            clear hcq
            go_wp2
            clear k0 k1 k2 kl ki q0 q1 q2 q3 ql qi a0 a1 a2 al ai hcy
            go_loopg [9] l.length (fun gh u wx => ∃ j : Nat, j ≤ l.length ∧ gh = l.length - j ∧ u = .int .i64 (j : Int) ∧ St w wx [boxT w.heap.size (roL R (.slice A1 l.length c1) (.slice B1 d.length e1)), roT (roV R (.slice A1 l.length c1) (.slice B1 d.length e1)) R l d, boxT gx (rdL (k : Int) pr 0 dt), boxT gy (roL R (.slice A2 yl.length c2) (.slice (some ⟨bq, oq, none⟩) yd.length e2)), roT (roV R (.slice A2 yl.length c2) (.slice (some ⟨bq, oq, none⟩) yd.length e2)) R yl yd])
            case atStart => exact ⟨0, Nat.zero_le _, rfl, rfl, SI.out⟩
            case round =>
              obtain ⟨j, hj, rfl, rfl, hst⟩ := hrel
              have SJ := Lib.hid hst
              clear hst
              by_cases hjl : j < l.length
              · have hj3 : decide (j < l.length) = true := by simp; omega
                have hj4 : decide ((j : Int) < (l.length : Int)) = true := by simp; omega
                obtain ⟨bp, op, hBp, hbp, hcp⟩ := rcCellsI (b := 0) (off := 0) (LsO.ats (OwnRo.at (SJ.out.nth 1 _ rfl)).1) (by omega)
                obtain ⟨r0, r1, r2, r3⟩ := hcp j hjl
                obtain ⟨bq2, oq2, hB2, hb2, hcq⟩ := inCellsI (LsO.ats (OwnRo.at (SJ.out.nth 4 _ rfl)).2) (by omega)
                injection hB2 with hB2
                injection hB2 with hB3 hB4
                subst hB3
                subst hB4
                have hcy := hcq i hil
                clear hcq hcp
                have hmm := HMM.out _ (List.getElem_mem hjl)
                subst hBp
                obtain ⟨k0, k1, k2⟩ := (show Box _ _ (roL R (.slice (some ⟨bp, op, none⟩) l.length c1) (.slice B1 d.length e1)) from SJ.out.box 0 _ _ rfl).threeQ
                have kl := (SJ.out.box 0 _ _ rfl).lt
                have ki := (SJ.out.box 0 _ _ rfl).ice
                obtain ⟨q0, q1, q2, q3⟩ := (show Box _ _ (rdL (k : Int) pr 0 dt) from SJ.out.box 2 _ _ rfl).four4
                have ql := (SJ.out.box 2 _ _ rfl).lt
                have qi := (SJ.out.box 2 _ _ rfl).ice
                obtain ⟨a0, a1, a2⟩ := (show Box _ _ (roL R (.slice A2 yl.length c2) (.slice (some ⟨bq, oq, none⟩) yd.length e2)) from SJ.out.box 3 _ _ rfl).threeQ
                have al := (SJ.out.box 3 _ _ rfl).lt
                have ai := (SJ.out.box 3 _ _ rfl).ice
                by_cases he : l[j].1 = yd[i]
                · have he1 : (l[j].1 == yd[i]) = true := beq_iff_eq.2 he
                  have hge : decide (pr ≤ l[j].2.1) = false := by have := hmm he; simp; omega
                  clear he hmm
                  generalize l[j] = y at *
                  obtain ⟨y0, y1, y2, y3⟩ := y
                  generalize yd[i] = z at *
                  go_wp2
                  go_quiet (fail)
                  go_wp2
                  go_roundg (l.length - (j + 1))
                  case measure => omega
                  case rel => exact ⟨j + 1, by omega, rfl, by go_num, SJ.out.drewN _⟩
                · have he1 : (l[j].1 == yd[i]) = false := beq_eq_false_iff_ne.2 he
                  clear he hmm
                  generalize l[j] = y at *
                  obtain ⟨y0, y1, y2, y3⟩ := y
                  generalize yd[i] = z at *
                  go_wp2
                  go_quiet (fail)
                  go_wp2
                  go_roundg (l.length - (j + 1))
                  case measure => omega
                  case rel => exact ⟨j + 1, by omega, rfl, by go_num, SJ.out.drewN _⟩
              · have hj3 : decide (j < l.length) = false := by simp; omega
                have hj4 : decide ((j : Int) < (l.length : Int)) = false := by simp; omega
                obtain ⟨k0, k1, k2⟩ := (show Box _ _ (roL R (.slice A1 l.length c1) (.slice B1 d.length e1)) from SJ.out.box 0 _ _ rfl).threeQ
                have kl := (SJ.out.box 0 _ _ rfl).lt
                have ki := (SJ.out.box 0 _ _ rfl).ice
                go_wp2
                go_roundg (yd.length - (i + 1))
                case measure => omega
                case rel => exact ⟨i + 1, by omega, by omega, rfl, by go_num, SJ.out⟩
          · have hj1 : decide (i < yd.length) = false := by simp; omega
            have hj2 : decide ((i : Int) < (yd.length : Int)) = false := by simp; omega
            clear hil hi1 hi2 HE2
            obtain ⟨k0, k1, k2⟩ := (show Box _ _ (roL R (.slice A1 l.length c1) (.slice B1 d.length e1)) from SI.out.box 0 _ _ rfl).threeQ
            have kl := (SI.out.box 0 _ _ rfl).lt
            have ki := (SI.out.box 0 _ _ rfl).ice
            obtain ⟨a0, a1, a2⟩ := (show Box _ _ (roL R (.slice A2 yl.length c2) (.slice B2 yd.length e2)) from SI.out.box 3 _ _ rfl).threeQ
            have al := (SI.out.box 3 _ _ rfl).lt
            have ai := (SI.out.box 3 _ _ rfl).ice
            have hdyE : E = [] → yd.length = d.length := fun h => by rw [HE1.out, h]; simp
            have HDE := Lib.hid hdyE
            clear hdyE
            have HLV := Lib.hid HLF.out
            obtain ⟨LV, hLV⟩ : ∃ LV, leftR R l d = LV := ⟨_, rfl⟩
            rw [hLV] at HLV HE3
            clear hLV HLF
            have he3 := HE3.out
            have hcast : ((6 + dt.size : Nat) : Int) = 6 + (dt.size : Int) := by omega
            rw [hcast] at he3
            clear HE3 hcast
            have hg1 : decide (6 + (dt.size : Int) ≤ LV) = true → decide (d.length < yd.length) = false := fun h => by have h1 := HDE.out (he3 (of_decide_eq_true h)); simp; omega
            have hg2 : decide (6 + (dt.size : Int) ≤ LV) = true → decide ((d.length : Int) < (yd.length : Int)) = false := fun h => by have h1 := HDE.out (he3 (of_decide_eq_true h)); simp; omega
            obtain ⟨tz, htz⟩ : ∃ tz, decide (6 + (dt.size : Int) ≤ LV) = tz := ⟨_, rfl⟩
            rw [htz] at hg1 hg2
            clear he3
            go_wp2_with fail
            refine (HLV.out _ (LsO.ats (OwnRo.at (SI.out.nth 1 _ rfl)).1) (LsO.ats (OwnRo.at (SI.out.nth 1 _ rfl)).2)).mono ?_
            rintro e w6 ⟨rfl, hb⟩
            have S6 := Lib.hid (SI.out.more hb)
            clear k0 k1 k2 kl ki a0 a1 a2 al ai hb HLV
            obtain ⟨k0, k1, k2⟩ := (show Box _ _ (roL R (.slice A1 l.length c1) (.slice B1 d.length e1)) from S6.out.box 0 _ _ rfl).threeQ
            have kl := (S6.out.box 0 _ _ rfl).lt
            have ki := (S6.out.box 0 _ _ rfl).ice
            obtain ⟨a0, a1, a2⟩ := (show Box _ _ (roL R (.slice A2 yl.length c2) (.slice B2 yd.length e2)) from S6.out.box 3 _ _ rfl).threeQ
            have al := (S6.out.box 3 _ _ rfl).lt
            have ai := (S6.out.box 3 _ _ rfl).ice
            have hcut : ∀ b : Bool, True := fun _ => trivial
            clear hcut
            cases tz
            all_goals
              first | (have hg3 := hg1 rfl; have hg4 := hg2 rfl; clear hg1 hg2) | clear hg1 hg2
              go_wp2_with fail
              refine (Ha.out _ S6.out.below (k + 3) hk3).mono ?_
              rintro e w7 ⟨a3, ha3, rfl, rfl⟩
              clear k0 k1 k2 kl ki a0 a1 a2 al ai
              by_cases h5 : (a3 : Int) % 5 = 0
              · have h51 : ((a3 : Int) % 5 == 0) = true := beq_iff_eq.2 h5
                clear h5
                have hcc := (OwnRo.at (S6.out.nth 4 _ rfl)).1.cap _ _ _ rfl
                have HT1 := Lib.hid (HTK.out hcc _ (LsO.ats (OwnRo.at (S6.out.nth 4 _ rfl)).1) (LsO.ats (OwnRo.at (S6.out.nth 4 _ rfl)).2))
                have hK : tkrK R yl yd 1 = min 1 yl.length := tkrK_yes HFS.out.ok (by omega)
                rw [hK] at HT1
                clear hK hcc
                obtain ⟨a0, a1, a2⟩ := (show Box _ _ (roL R (.slice A2 yl.length c2) (.slice B2 yd.length e2)) from S6.out.box 3 _ _ rfl).threeQ
                have al := (S6.out.box 3 _ _ rfl).lt
                have ai := (S6.out.box 3 _ _ rfl).ice
                obtain ⟨k0, k1, k2⟩ := (show Box _ _ (roL R (.slice A1 l.length c1) (.slice B1 d.length e1)) from S6.out.box 0 _ _ rfl).threeQ
                have kl := (S6.out.box 0 _ _ rfl).lt
                have ki := (S6.out.box 0 _ _ rfl).ice
                obtain ⟨KK, hKK⟩ : ∃ K, min 1 yl.length = K := ⟨_, rfl⟩
                rw [hKK] at HT1
                have HKK := Lib.hid hKK
                clear hKK
                go_wp2_with fail
                refine HT1.out.mono ?_
                rintro e w8 ⟨v, u, rfl, hov, hou, _, hb⟩
                obtain ⟨AZ, cZ, BZ, eZ, rfl, _, _, _⟩ := OwnRo.form (id hov)
                obtain ⟨AU, cU, rfl⟩ := OwnRc.nform hou
                have hz1 : (yl.drop KK).length = yl.length - KK := List.length_drop
                have hu1 : (yl.take KK).length = min KK yl.length := List.length_take
                generalize (yl.drop KK).length = nZ at *
                generalize (yl.take KK).length = nU at *
                have S7 := Lib.hid (S6.out.add (lsT 4 (.slice AU nU cU) ((yl.take KK).map rcC)) hb (LsO.lower hou (Nat.zero_le _)) (fun k hk => (LsO.up hou k hk).1))
                clear S6
                have S8 := Lib.hid (S7.out.made (roL R (.slice AZ nZ cZ) (.slice BZ yd.length eZ)) 30)
                clear S7
                clear a0 a1 a2 al ai k0 k1 k2 kl ki hov hou hb HT1
                have hk9 := HKK.out
                rcases Nat.eq_zero_or_pos yl.length with h0 | h0
                · have hu2 : decide ((0 : Int) < (nU : Int)) = false := by simp; omega
                  have hu3 : decide (0 < nU) = false := by simp; omega
                  clear hz1 hu1 hk9 h0
                  obtain ⟨a0, a1, a2⟩ := (show Box _ _ (roL R (.slice A2 yl.length c2) (.slice B2 yd.length e2)) from S8.out.box 5 _ _ rfl).threeQ
                  have al := (S8.out.box 5 _ _ rfl).lt
                  have ai := (S8.out.box 5 _ _ rfl).ice
                  obtain ⟨z0, z1, z2⟩ := (show Box _ _ (roL R (.slice AZ nZ cZ) (.slice BZ yd.length eZ)) from S8.out.box 0 _ _ rfl).threeQ
                  have zl := (S8.out.box 0 _ _ rfl).lt
                  have zi := (S8.out.box 0 _ _ rfl).ice
                  go_wp2
                  go_quiet (fail)
                  clear a0 a1 a2 al ai z0 z1 z2 zl zi
                  have S9 := Lib.hid (S8.out.drewN nq)
                  clear S8
                  have S10 := Lib.hid (show St w _ [boxT gy (roL R (.slice A2 yl.length c2) (.slice B2 yd.length e2)), roT (roV R (.slice A2 yl.length c2) (.slice B2 yd.length e2)) R yl yd, boxT w.heap.size (roL R (.slice A1 l.length c1) (.slice B1 d.length e1))] from S9.out.pick [5, 6, 2] (by decide))
                  clear S9
                  generalize hWQ : ((w8.alloc (.cells #[.int .i64 R, .slice AZ nZ cZ, .slice BZ yd.length eZ] 30)).drewN nq) = wq at *
                  obtain ⟨a0, a1, a2⟩ := (show Box _ _ (roL R (.slice A2 yl.length c2) (.slice B2 yd.length e2)) from S10.out.box 0 _ _ rfl).threeQ
                  have al := (S10.out.box 0 _ _ rfl).lt
                  have ai := (S10.out.box 0 _ _ rfl).ice
                  obtain ⟨k0, k1, k2⟩ := (show Box _ _ (roL R (.slice A1 l.length c1) (.slice B1 d.length e1)) from S10.out.box 2 _ _ rfl).threeQ
                  have kl := (S10.out.box 2 _ _ rfl).lt
                  have ki := (S10.out.box 2 _ _ rfl).ice
                  have S11 := Lib.hid (show St w (((wq.setCell ⟨w.heap.size, 0, none⟩ (.int .i64 R)).setCell ⟨w.heap.size, 1, none⟩ (.slice A2 yl.length c2)).setCell ⟨w.heap.size, 2, none⟩ (.slice B2 yd.length e2)) [boxT gy (roL R (.slice A2 yl.length c2) (.slice B2 yd.length e2)), roT (roV R (.slice A2 yl.length c2) (.slice B2 yd.length e2)) R yl yd, boxT w.heap.size (roL R (.slice A2 yl.length c2) (.slice B2 yd.length e2))] from S10.out.setAll 2 _ _ rfl (roL R (.slice A2 yl.length c2) (.slice B2 yd.length e2)) rfl)
                  have S12 := Lib.hid (show St w _ [boxT w.heap.size (roL R (.slice A2 yl.length c2) (.slice B2 yd.length e2)), roT (roV R (.slice A2 yl.length c2) (.slice B2 yd.length e2)) R yl yd] from S11.out.pick [2, 1] (by decide))
                  go_wp2
                  go_roundg (20 - (k + 1))
                  case measure => omega
                  case rel => exact ⟨k + 1, yl, yd, A2, c2, B2, e2, by omega, rfl, by go_num, HFS.out, S12.out⟩
                · have hu2 : decide ((0 : Int) < (nU : Int)) = true := by simp; omega
                  have hu3 : decide (0 < nU) = true := by simp; omega
                  have hk1' : KK = 1 := by omega
                  have hu4 : 0 < nU := by omega
                  have hu5 : ¬ nU = 0 := by omega
                  have hu6 : (nU == 0) = false := by simp; omega
                  have hv5 : ¬ yl.length = 0 := by omega
                  have hv6 : ¬ yl = [] := by intro h; rw [h] at h0; cases h0
                  have hnz : nZ = yl.length - 1 := by omega
                  obtain ⟨bu, ou, hAU, hbu, hcu⟩ := rcCellsI (b := 0) (off := 0) (LsO.ats (S8.out.ls 1 4 _ _ rfl)) (by rw [List.length_take]; omega)
                  have hcu0 := hcu 0 (by rw [List.length_take]; omega)
                  rw [List.getElem_take] at hcu0
                  simp only [Nat.zero_mul, Nat.add_zero] at hcu0
                  obtain ⟨u0, u1, u2, u3⟩ := hcu0
                  obtain ⟨bv, ov, hAV, hbv, hcv⟩ := rcCellsI (b := 0) (off := 0) (LsO.ats (OwnRo.at (S8.out.nth 6 _ rfl)).1) h0
                  have hcv0 := hcv 0 h0
                  simp only [Nat.zero_mul, Nat.add_zero] at hcv0
                  obtain ⟨v0, v1, v2, v3⟩ := hcv0
                  have hl01 : decide (0 < yl.length) = true := by simp; omega
                  have hl02 : decide ((0 : Int) < (yl.length : Int)) = true := by simp; omega
                  have wz0 : IntKind.i64.wrap ((yl.length : Int) - 1) = (nZ : Int) ∧ wrap64 ((yl.length : Int) - 1) = (nZ : Int) := ⟨(IntWalk.i64_in _ (by omega)).trans (by omega), by unfold wrap64; omega⟩
                  have hzz : ((nZ : Int) != (nZ : Int)) = false := by simp
                  subst hAU
                  subst hAV
                  clear hcu hcv
                  generalize yl[0] = y at *
                  clear hz1 hu1 hk9 hnz hk1'
                  obtain ⟨y0, y1, y2, y3⟩ := y
                  simp only [] at u0 u1 u2 u3 v0 v1 v2 v3
                  obtain ⟨wz, wz'⟩ := wz0
                  obtain ⟨a0, a1, a2⟩ := (show Box _ _ (roL R (.slice (some ⟨bv, ov, none⟩) yl.length c2) (.slice B2 yd.length e2)) from S8.out.box 5 _ _ rfl).threeQ
                  have al := (S8.out.box 5 _ _ rfl).lt
                  have ai := (S8.out.box 5 _ _ rfl).ice
                  obtain ⟨z0, z1, z2⟩ := (show Box _ _ (roL R (.slice AZ nZ cZ) (.slice BZ yd.length eZ)) from S8.out.box 0 _ _ rfl).threeQ
                  have zl := (S8.out.box 0 _ _ rfl).lt
                  have zi := (S8.out.box 0 _ _ rfl).ice
                  go_wp2
                  go_quiet (fail)
                  clear a0 a1 a2 al ai z0 z1 z2 zl zi
                  clear wz wz' hzz u0 u1 u2 u3 v0 v1 v2 v3
                  have S13 := Lib.hid (S8.out.drewN nq)
                  clear S8
                  have S14 := Lib.hid (show St w _ [boxT gy (roL R (.slice (some ⟨bv, ov, none⟩) yl.length c2) (.slice B2 yd.length e2)), roT (roV R (.slice (some ⟨bv, ov, none⟩) yl.length c2) (.slice B2 yd.length e2)) R yl yd, boxT w.heap.size (roL R (.slice A1 l.length c1) (.slice B1 d.length e1))] from S13.out.pick [5, 6, 2] (by decide))
                  clear S13
                  generalize hWQ : ((w8.alloc (.cells #[.int .i64 R, .slice AZ nZ cZ, .slice BZ yd.length eZ] 30)).drewN nq) = wq at *
                  obtain ⟨a0, a1, a2⟩ := (show Box _ _ (roL R (.slice (some ⟨bv, ov, none⟩) yl.length c2) (.slice B2 yd.length e2)) from S14.out.box 0 _ _ rfl).threeQ
                  have al := (S14.out.box 0 _ _ rfl).lt
                  have ai := (S14.out.box 0 _ _ rfl).ice
                  obtain ⟨k0, k1, k2⟩ := (show Box _ _ (roL R (.slice A1 l.length c1) (.slice B1 d.length e1)) from S14.out.box 2 _ _ rfl).threeQ
                  have kl := (S14.out.box 2 _ _ rfl).lt
                  have ki := (S14.out.box 2 _ _ rfl).ice
                  have S15 := Lib.hid (show St w (((wq.setCell ⟨w.heap.size, 0, none⟩ (.int .i64 R)).setCell ⟨w.heap.size, 1, none⟩ (.slice (some ⟨bv, ov, none⟩) yl.length c2)).setCell ⟨w.heap.size, 2, none⟩ (.slice B2 yd.length e2)) [boxT gy (roL R (.slice (some ⟨bv, ov, none⟩) yl.length c2) (.slice B2 yd.length e2)), roT (roV R (.slice (some ⟨bv, ov, none⟩) yl.length c2) (.slice B2 yd.length e2)) R yl yd, boxT w.heap.size (roL R (.slice (some ⟨bv, ov, none⟩) yl.length c2) (.slice B2 yd.length e2))] from S14.out.setAll 2 _ _ rfl (roL R (.slice (some ⟨bv, ov, none⟩) yl.length c2) (.slice B2 yd.length e2)) rfl)
                  have S16 := Lib.hid (show St w _ [boxT w.heap.size (roL R (.slice (some ⟨bv, ov, none⟩) yl.length c2) (.slice B2 yd.length e2)), roT (roV R (.slice (some ⟨bv, ov, none⟩) yl.length c2) (.slice B2 yd.length e2)) R yl yd] from S15.out.pick [2, 1] (by decide))
                  go_wp2
                  go_roundg (20 - (k + 1))
                  case measure => omega
                  case rel => exact ⟨k + 1, yl, yd, some ⟨bv, ov, none⟩, c2, B2, e2, by omega, rfl, by go_num, HFS.out, S16.out⟩
              · have h51 : ((a3 : Int) % 5 == 0) = false := beq_eq_false_iff_ne.2 h5
                clear h5 HTK
                obtain ⟨a0, a1, a2⟩ := (show Box _ _ (roL R (.slice A2 yl.length c2) (.slice B2 yd.length e2)) from S6.out.box 3 _ _ rfl).threeQ
                have al := (S6.out.box 3 _ _ rfl).lt
                have ai := (S6.out.box 3 _ _ rfl).ice
                obtain ⟨k0, k1, k2⟩ := (show Box _ _ (roL R (.slice A1 l.length c1) (.slice B1 d.length e1)) from S6.out.box 0 _ _ rfl).threeQ
                have kl := (S6.out.box 0 _ _ rfl).lt
                have ki := (S6.out.box 0 _ _ rfl).ice
                have S17 := Lib.hid (show St w (((w6.setCell ⟨w.heap.size, 0, none⟩ (.int .i64 R)).setCell ⟨w.heap.size, 1, none⟩ (.slice A2 yl.length c2)).setCell ⟨w.heap.size, 2, none⟩ (.slice B2 yd.length e2)) [boxT w.heap.size (roL R (.slice A2 yl.length c2) (.slice B2 yd.length e2)), roT (roV R (.slice A1 l.length c1) (.slice B1 d.length e1)) R l d, boxT gx (rdL (k : Int) pr 0 dt), boxT gy (roL R (.slice A2 yl.length c2) (.slice B2 yd.length e2)), roT (roV R (.slice A2 yl.length c2) (.slice B2 yd.length e2)) R yl yd] from S6.out.setAll 0 _ _ rfl (roL R (.slice A2 yl.length c2) (.slice B2 yd.length e2)) rfl)
                have S18 := Lib.hid (show St w _ [boxT w.heap.size (roL R (.slice A2 yl.length c2) (.slice B2 yd.length e2)), roT (roV R (.slice A2 yl.length c2) (.slice B2 yd.length e2)) R yl yd] from S17.out.pick [0, 4] (by decide))
                go_wp2
                go_roundg (20 - (k + 1))
                case measure => omega
                case rel => exact ⟨k + 1, yl, yd, A2, c2, B2, e2, by omega, rfl, by go_num, HFS.out, S18.out⟩
      · have hd1 : decide (k < 20) = false := by simp; omega
        have hd2 : decide ((k : Int) < 20) = false := by simp; omega
        have HOK := Lib.hid (fun W (g1 : LsI 4 W W.heap.size A1 (l.map rcC)) (g2 : LsI 1 W W.heap.size B1 (d.map inC)) => (rcrB_yes HF.out.ok) ▸ rcr_impl R A1 B1 l d c1 e1 (by omega) (by omega) (by omega) W g1 g2)
        obtain ⟨k0, k1, k2⟩ := (show Box _ _ (roL R (.slice A1 l.length c1) (.slice B1 d.length e1)) from SS.out.box 0 _ _ rfl).threeQ
        have kl := (SS.out.box 0 _ _ rfl).lt
        have ki := (SS.out.box 0 _ _ rfl).ice
        go_wp2_with fail
        refine (HOK.out _ (LsO.ats (OwnRo.at (SS.out.nth 1 _ rfl)).1) (LsO.ats (OwnRo.at (SS.out.nth 1 _ rfl)).2)).mono ?_
        rintro e w5 ⟨rfl, hb⟩
        have S19 := Lib.hid (SS.out.more hb)
        clear SS
        clear k0 k1 k2 kl ki hb HOK
        go_wp2
        go_ret
        exact ⟨rfl, S19.out.below⟩
end Go.Proofs.Ytckofkdeedbbgaa
