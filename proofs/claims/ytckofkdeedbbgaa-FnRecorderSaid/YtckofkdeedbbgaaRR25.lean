/- What this text proves: the parts KpK of the proof, each under its own words. -/
import Derived.Test.YtckofkdeedbbgaaRR24
import Derived.Test.YtckofkdeedbbgaaRR22
/- What this text proves: the contract of the program's KeepRecord. -/
namespace Go.Proofs.Ytckofkdeedbbgaa
open Go.ChangeShapes Go.WideShapes Go.ChangeAt Go.RowKit
set_option linter.unusedVariables false

theorem befR_end {l : List Rc} {m : Nat} (h : l.length = m + 1) : befR l l.length = (l[m]'(by omega)).1 := by
  have e : befR l (m + 1) = (l[m]'(by omega)).1 := by
    show (l.getD m rc0).1 = _
    rw [getRc_at (show m < l.length by omega)]
  exact (congrArg (befR l) h).trans e
set_option maxRecDepth 20000 in
set_option maxHeartbeats 8000000 in
theorem keep_impl (r : Int) (A A2 : Option Addr) (l : List Rc) (d : List Int) (c c2 : Nat) (x : Rc) (hl : l.length ≤ 1048576) (hs : totRc l l.length ≤ 4000000) (hd : d.length ≤ 1048576) (w : World) (h1 : LsI 4 w w.heap.size A (l.map rcC)) (h2 : LsI 1 w w.heap.size A2 (d.map inC)) :
    Calls Try.prog 18 #[roV r (.slice A l.length c) (.slice A2 d.length c2), rdV x.1 x.2.1 x.2.2.1 x.2.2.2] w (RrEnd w r (keepR r l d x).1 (keepR r l d x).2) := by
  have HCP := Lib.hid (fun W (hb : Below w.heap.size w W) => rr_gives (rocopy_impl r A A2 l d c c2 (by omega) (by omega) W (h1.full hb) (h2.full hb)))
  have HRO := Lib.hid (fun W (hb : Below w.heap.size w W) => rcr_impl r A A2 l d c c2 (by omega) (by omega) (by omega) W (h1.full hb) (h2.full hb))
  have HRD := Lib.hid (fun W => rd_impl x.1 x.2.1 x.2.2.1 x.2.2.2 W)
  have HRA := Lib.hid (fun (ok : RcrOk r l d) (hx : RdC x) W (hb : Below w.heap.size w W) => ra_impl r A A2 l d c c2 x ok hx W (h1.full hb) (h2.full hb))
  have HI := Lib.hid (fun W (hb : Below w.heap.size w W) => h1.more hb)
  have HKN := Lib.hid (fun (h : ¬ KpIn r l d x) => keepR_no h)
  have HKY := Lib.hid (fun (h : KpIn r l d x) h2 => keepR_yes h h2)
  have HKB := Lib.hid (fun h2 => keepR_bad (r := r) (l := l) (d := d) (x := x) h2)
  have HKR := Lib.hid (fun (h2 : RcrOk r (kpRaw r l d x).1 (kpRaw r l d x).2) => rcr_short h2)
  have HKD := Lib.hid (show KpIn r l d x ↔ RcrOk r l d ∧ RdOk x.1 x.2.1 x.2.2.1 x.2.2.2 ∧ befR l l.length < x.1 from Iff.rfl)
  have HRX := Lib.hid (show RdC x ↔ RdOk x.1 x.2.1 x.2.2.1 x.2.2.2 from Iff.rfl)
  have HRL := Lib.hid (fun (ok : RcrOk r l d) (hx : RdC x) => kpRaw_len ok hx)
  have HBE := Lib.hid (fun m (h : l.length = m + 1) => befR_end h)
  have HB0 := Lib.hid (fun (h : l = []) => (show befR l l.length = -1 by subst h; rfl))
  obtain ⟨Z, hZ⟩ : ∃ Z, kpRaw r l d x = Z := ⟨_, rfl⟩
  rw [hZ] at HRA HKY HKB HKR HRL
  obtain ⟨x0, x1, x2, x3⟩ := x
  simp only [] at *
  generalize keepR r l d (x0, x1, x2, x3) = K at *
  generalize hKP : KpIn r l d (x0, x1, x2, x3) = KP at *
  generalize hRX : RdC (x0, x1, x2, x3) = RX at *
  clear h1 h2 hZ hs hKP hRX
  have S0 := Lib.hid (show St w (((w.alloc (.cells #[.int .i64 r, .slice A l.length c, .slice A2 d.length c2] 30)).alloc (.cells #[.int .i64 x0, .int .i64 x1, .int .i64 x2, .string x3] 50)).alloc (.cells #[.int .i64 0, .slice none 0 0, .slice none 0 0] 30)) [boxT (w.heap.size + 1 + 1) (roL 0 (.slice none 0 0) (.slice none 0 0)), boxT (w.heap.size + 1) (rdL x0 x1 x2 x3), boxT w.heap.size (roL r (.slice A l.length c) (.slice A2 d.length c2))] from by have h := (((St.start w).made (roL r (.slice A l.length c) (.slice A2 d.length c2)) 30).made (rdL x0 x1 x2 x3) 50).made (roL 0 (.slice none 0 0) (.slice none 0 0)) 30; simpa using h)
  have wl : IntKind.i64.wrap ((l.length : Int) - 1) = (l.length : Int) - 1 := IntWalk.i64_in _ (by omega)
  have wl' : wrap64 ((l.length : Int) - 1) = (l.length : Int) - 1 := by unfold wrap64; omega
  go_enter Try.func18, Try.ntmps18
  go_upto_region 2 with fail
  generalize ((w.alloc (.cells #[.int .i64 r, .slice A l.length c, .slice A2 d.length c2] 30)).alloc (.cells #[.int .i64 x0, .int .i64 x1, .int .i64 x2, .string x3] 50)).alloc (.cells #[.int .i64 0, .slice none 0 0, .slice none 0 0] 30) = w1 at *
  go_cut [5, 10, 33] from 11 to 32 (fun s5 s10 s33 wx => ∃ z : Bool, s33 = .bool z ∧ (z = false ↔ KP) ∧ St w wx [boxT (w.heap.size + 1 + 1) (roL 0 (.slice none 0 0) (.slice none 0 0)), boxT (w.heap.size + 1) (rdL x0 x1 x2 x3), boxT w.heap.size (roL r (.slice A l.length c) (.slice A2 d.length c2))])
  case first =>
    obtain ⟨C, hC9⟩ : ∃ C : World → Prop, ∀ W, C W ↔ St w W [boxT (w.heap.size + 1 + 1) (roL 0 (.slice none 0 0) (.slice none 0 0)), boxT (w.heap.size + 1) (rdL x0 x1 x2 x3), boxT w.heap.size (roL r (.slice A l.length c) (.slice A2 d.length c2))] := ⟨_, fun _ => Iff.rfl⟩
    have HC9 := Lib.hid hC9
    clear hC9
    have HC0 := Lib.hid ((HC9.out _).2 S0.out.drew)
    have hall : ∀ q : Prop, (InW C → q) ↔ q := fun q => ⟨fun h => h ⟨_, HC0.out⟩, fun h _ => h⟩
    have HROC := Lib.hid (fun W (hC : C W) => (HRO.out W ((HC9.out W).1 hC).below).mono fun e w' h => (show e = .returned (.bool (rcrB r l d)) ∧ C w' from ⟨h.1, (HC9.out w').2 (((HC9.out W).1 hC).more h.2)⟩))
    have HRDC := Lib.hid (fun W (hC : C W) => (HRD.out W).mono fun e w' h => (show e = .returned (.bool (decide (RdOk x0 x1 x2 x3))) ∧ C w' from ⟨h.1, (HC9.out w').2 (((HC9.out W).1 hC).more h.2)⟩))
    have fr0 : ∀ p : InW C, p.W.cell? ⟨w.heap.size, 0, none⟩ = some (.int .i64 r) := fun p => (((HC9.out _).1 p.ok).box 2 _ _ rfl).cell 0 (by simp)
    have fr1 : ∀ p : InW C, p.W.cell? ⟨w.heap.size, 1, none⟩ = some (.slice A l.length c) := fun p => (((HC9.out _).1 p.ok).box 2 _ _ rfl).cell 1 (by simp)
    have fr2 : ∀ p : InW C, p.W.cell? ⟨w.heap.size, 2, none⟩ = some (.slice A2 d.length c2) := fun p => (((HC9.out _).1 p.ok).box 2 _ _ rfl).cell 2 (by simp)
    have fx0 : ∀ p : InW C, p.W.cell? ⟨w.heap.size + 1, 0, none⟩ = some (.int .i64 x0) := fun p => (((HC9.out _).1 p.ok).box 1 _ _ rfl).cell 0 (by simp)
    have fx1 : ∀ p : InW C, p.W.cell? ⟨w.heap.size + 1, 1, none⟩ = some (.int .i64 x1) := fun p => (((HC9.out _).1 p.ok).box 1 _ _ rfl).cell 1 (by simp)
    have fx2 : ∀ p : InW C, p.W.cell? ⟨w.heap.size + 1, 2, none⟩ = some (.int .i64 x2) := fun p => (((HC9.out _).1 p.ok).box 1 _ _ rfl).cell 2 (by simp)
    have fx3 : ∀ p : InW C, p.W.cell? ⟨w.heap.size + 1, 3, none⟩ = some (.string x3) := fun p => (((HC9.out _).1 p.ok).box 1 _ _ rfl).cell 3 (by simp)
    by_cases hok : RcrOk r l d
    · by_cases hx : RdOk x0 x1 x2 x3
      · rcases Nat.eq_zero_or_pos l.length with h0 | h0
        · have hl0 : l = [] := List.eq_nil_of_length_eq_zero h0
          have HP := Lib.hid (HKD.out.2 ⟨hok, hx, by rw [HB0.out hl0]; have := hx.1.1; omega⟩)
          rw [rcrB_yes hok] at HROC
          rw [decide_eq_true hx] at HRDC
          have hmE : (l.length : Int) - 1 = -1 := by omega
          rw [hmE]
          clear hmE h0 hl0 hok hx HKD HB0 HBE HRX HRA HRL
          refine wp_region_inW C (by kernel_rfl) (by kernel_rfl) HC0.out ?_
          repeat (go_big_quiet_step (first | (go_at_call 19; exact calls_inW (C := C) (HROC.out _ (InW.ok (C := C) _))) | (go_at_call 66; exact calls_inW (C := C) (HRDC.out _ (InW.ok (C := C) _)))))
          refine wpQuiet_nil ?_
          rintro _ ⟨⟨W2, hW2⟩, rfl⟩
          go_wp2_with fail
          go_meet
          exact ⟨false, rfl, ⟨fun _ => HP.out, fun _ => rfl⟩, (HC9.out _).1 hW2⟩
        · obtain ⟨m, hm⟩ : ∃ m, l.length = m + 1 := ⟨l.length - 1, by omega⟩
          have hmE : (l.length : Int) - 1 = (m : Int) := by omega
          have hlm := HBE.out m hm
          have hml : m < l.length := by omega
          obtain ⟨bb, off, hAb, hbb, hc⟩ := rcCellsI (b := 0) (off := 0) (HI.out _ (Below.refl _ _)) h0
          have hcm : ∀ p : InW C, p.W.cell? ⟨bb, off + m * 4, none⟩ = some (.int .i64 l[m].1) := fun p => (((HC9.out _).1 p.ok).below.cell (p := ⟨bb, off + m * 4, none⟩) hbb).trans (hc m hml).1
          subst hAb
          have hd0 : decide ((0 : Int) ≤ (m : Int)) = true := by simp
          have hi1 : decide (m < l.length) = true := by simpa using hml
          have hi2 : decide ((m : Int) < (l.length : Int)) = true := by simp; omega
          by_cases hlt : befR l l.length < x0
          · have HP := Lib.hid (HKD.out.2 ⟨hok, hx, hlt⟩)
            rw [rcrB_yes hok] at HROC
            rw [decide_eq_true hx] at HRDC
            rw [hlm] at hlt
            have hc1 : decide (x0 ≤ l[m].1) = false := by simp; omega
            rw [hmE]
            generalize l[m].1 = lm at *
            clear hm h0 hmE hc hok hx HKD HB0 HBE HRX HRA HRL hlm hlt wl wl'
            refine wp_region_inW C (by kernel_rfl) (by kernel_rfl) HC0.out ?_
            repeat (go_big_quiet_step (first | (go_at_call 19; exact calls_inW (C := C) (HROC.out _ (InW.ok (C := C) _))) | (go_at_call 66; exact calls_inW (C := C) (HRDC.out _ (InW.ok (C := C) _)))))
            refine wpQuiet_nil ?_
            rintro _ ⟨⟨W2, hW2⟩, rfl⟩
            go_wp2_with fail
            go_meet
            exact ⟨false, rfl, ⟨fun _ => HP.out, fun _ => rfl⟩, (HC9.out _).1 hW2⟩
          · have HP := Lib.hid (show ¬ KP from fun g => hlt (HKD.out.1 g).2.2)
            rw [rcrB_yes hok] at HROC
            rw [decide_eq_true hx] at HRDC
            rw [hlm] at hlt
            have hc1 : decide (x0 ≤ l[m].1) = true := by simp; omega
            rw [hmE]
            generalize l[m].1 = lm at *
            clear hm h0 hmE hc hok hx HKD HB0 HBE HRX HRA HRL hlm hlt wl wl'
            refine wp_region_inW C (by kernel_rfl) (by kernel_rfl) HC0.out ?_
            repeat (go_big_quiet_step (first | (go_at_call 19; exact calls_inW (C := C) (HROC.out _ (InW.ok (C := C) _))) | (go_at_call 66; exact calls_inW (C := C) (HRDC.out _ (InW.ok (C := C) _)))))
            refine wpQuiet_nil ?_
            rintro _ ⟨⟨W2, hW2⟩, rfl⟩
            go_wp2_with fail
            go_meet
            exact ⟨true, rfl, ⟨(fun h => by cases h), fun h => absurd h HP.out⟩, (HC9.out _).1 hW2⟩
      · have HP := Lib.hid (show ¬ KP from fun g => hx (HKD.out.1 g).2.1)
        rw [rcrB_yes hok] at HROC
        rw [decide_eq_false hx] at HRDC
        clear hok hx HKD HB0 HBE HRX HRA HRL
        refine wp_region_inW C (by kernel_rfl) (by kernel_rfl) HC0.out ?_
        repeat (go_big_quiet_step (first | (go_at_call 19; exact calls_inW (C := C) (HROC.out _ (InW.ok (C := C) _))) | (go_at_call 66; exact calls_inW (C := C) (HRDC.out _ (InW.ok (C := C) _)))))
        refine wpQuiet_nil ?_
        rintro _ ⟨⟨W2, hW2⟩, rfl⟩
        go_wp2_with fail
        go_meet
        exact ⟨true, rfl, ⟨(fun h => by cases h), fun h => absurd h HP.out⟩, (HC9.out _).1 hW2⟩
    · have HP := Lib.hid (show ¬ KP from fun g => hok (HKD.out.1 g).1)
      rw [rcrB_no hok] at HROC
      clear hok HKD HB0 HBE HRX HRA HRL
      refine wp_region_inW C (by kernel_rfl) (by kernel_rfl) HC0.out ?_
      repeat (go_big_quiet_step (first | (go_at_call 19; exact calls_inW (C := C) (HROC.out _ (InW.ok (C := C) _))) | (go_at_call 66; exact calls_inW (C := C) (HRDC.out _ (InW.ok (C := C) _)))))
      refine wpQuiet_nil ?_
      rintro _ ⟨⟨W2, hW2⟩, rfl⟩
      go_wp2_with fail
      go_meet
      exact ⟨true, rfl, ⟨(fun h => by cases h), fun h => absurd h HP.out⟩, (HC9.out _).1 hW2⟩
  case rest =>
    obtain ⟨z, rfl, hz, hT⟩ := hcut
    generalize wc = w2 at *
    have S2 := Lib.hid hT
    clear hT S0 HRD HBE HB0 HI wl wl'
    rcases hz9 : z with _ | _
    rotate_left
    · subst hz9
      have HK := Lib.hid (HKN.out (fun h => by have := hz.2 h; cases this))
      clear hz HKN HKY HKB HKR HKD HRX HRA HRO HRL
      obtain ⟨k0, k1, k2⟩ := (show Box _ _ (roL r (.slice A l.length c) (.slice A2 d.length c2)) from S2.out.box 2 _ _ rfl).threeQ
      have kl := (S2.out.box 2 _ _ rfl).lt
      have ki := (S2.out.box 2 _ _ rfl).ice
      go_wp2_with fail
      refine (HCP.out _ S2.out.below).mono ?_
      rintro e w1 ⟨v, rfl, hp, hn, hb⟩
      obtain ⟨A3, c3, A4, c4, rfl⟩ := rrT.form hp
      have S2 := Lib.hid (S2.out.add (rrT (roV r (.slice A3 l.length c3) (.slice A4 d.length c4)) r l d) hb hp hn)
      clear k0 k1 k2 kl ki
      obtain ⟨z0, z1, z2⟩ := (show Box _ _ (roL 0 (.slice none 0 0) (.slice none 0 0)) from S2.out.box 1 _ _ rfl).threeQ
      have zl := (S2.out.box 1 _ _ rfl).lt
      have zi := (S2.out.box 1 _ _ rfl).ice
      have S3 := Lib.hid (show St w (((w1.setCell ⟨(w.heap.size + 1 + 1), 0, none⟩ (.int .i64 r)).setCell ⟨(w.heap.size + 1 + 1), 1, none⟩ (.slice A3 l.length c3)).setCell ⟨(w.heap.size + 1 + 1), 2, none⟩ (.slice A4 d.length c4)) [rrT (roV r (.slice A3 l.length c3) (.slice A4 d.length c4)) r l d, boxT (w.heap.size + 1 + 1) (roL r (.slice A3 l.length c3) (.slice A4 d.length c4)), boxT (w.heap.size + 1) (rdL x0 x1 x2 x3), boxT w.heap.size (roL r (.slice A l.length c) (.slice A2 d.length c2))] from S2.out.setAll 1 _ _ rfl (roL r (.slice A3 l.length c3) (.slice A4 d.length c4)) rfl)
      go_wp2
      show bodyPost Try.prog Try.f18 _ Exit.ret _ ((((w1.setCell ⟨(w.heap.size + 1 + 1), 0, none⟩ (.int .i64 r)).setCell ⟨(w.heap.size + 1 + 1), 1, none⟩ (.slice A3 l.length c3)).setCell ⟨(w.heap.size + 1 + 1), 2, none⟩ (.slice A4 d.length c4)))
      obtain ⟨q0, q1, q2⟩ := (show Box _ _ (roL r (.slice A3 l.length c3) (.slice A4 d.length c4)) from S3.out.box 1 _ _ rfl).threeQ
      generalize (((w1.setCell ⟨(w.heap.size + 1 + 1), 0, none⟩ (.int .i64 r)).setCell ⟨(w.heap.size + 1 + 1), 1, none⟩ (.slice A3 l.length c3)).setCell ⟨(w.heap.size + 1 + 1), 2, none⟩ (.slice A4 d.length c4)) = WE at *
      refine bodyPost_ret_by (v := roV r (.slice A3 l.length c3) (.slice A4 d.length c4)) ?_ rfl ?_
      · simp [results, Try.f18, go_sem, q0, q1, q2]
      · rw [HK.out]
        exact ⟨_, rfl, S3.out.nth 0 _ rfl, S3.out.nthPast 0 _ rfl, S3.out.below⟩
    · subst hz9
      have hkp := hz.1 rfl
      have hall := HKD.out.1 hkp
      have hrl := HRL.out hall.1 (HRX.out.2 hall.2.1)
      have HRAI := Lib.hid (HRA.out hall.1 (HRX.out.2 hall.2.1))
      have HKY2 := Lib.hid (HKY.out hkp)
      clear hz hkp hall HKN HKY HKD HRX HRA HRL
      obtain ⟨k0, k1, k2⟩ := (show Box _ _ (roL r (.slice A l.length c) (.slice A2 d.length c2)) from S2.out.box 2 _ _ rfl).threeQ
      have kl := (S2.out.box 2 _ _ rfl).lt
      have ki := (S2.out.box 2 _ _ rfl).ice
      obtain ⟨y0, y1, y2, y3⟩ := (show Box _ _ (rdL x0 x1 x2 x3) from S2.out.box 1 _ _ rfl).four4
      have yl := (S2.out.box 1 _ _ rfl).lt
      have yi := (S2.out.box 1 _ _ rfl).ice
      go_wp2_with fail
      refine (HRAI.out _ S2.out.below).mono ?_
      rintro e w5 ⟨v, rfl, hp, hn, hb⟩
      obtain ⟨A5, c5, A6, c6, rfl⟩ := rrT.form hp
      have S4 := Lib.hid (S2.out.add (rrT (roV r (.slice A5 Z.1.length c5) (.slice A6 Z.2.length c6)) r Z.1 Z.2) hb hp hn)
      clear S2
      have S5 := Lib.hid (S4.out.made (roL r (.slice A5 Z.1.length c5) (.slice A6 Z.2.length c6)) 30)
      clear S4
      clear k0 k1 k2 kl ki y0 y1 y2 y3 yl yi hp hn hb HRAI
      have HRZ := Lib.hid (rcr_impl r A5 A6 Z.1 Z.2 c5 c6 (by omega) (by omega) (by omega) _ (LsO.ats (OwnR.toO (OwnRr.rows (S5.out.nth 1 _ rfl)).1)) (LsO.ats (OwnR.toO (OwnRr.rows (S5.out.nth 1 _ rfl)).2.1)))
      clear hrl
      obtain ⟨a0, a1, a2⟩ := (show Box _ _ (roL r (.slice A5 Z.1.length c5) (.slice A6 Z.2.length c6)) from S5.out.box 0 _ _ rfl).threeQ
      have al := (S5.out.box 0 _ _ rfl).lt
      have ai := (S5.out.box 0 _ _ rfl).ice
      go_wp2_with fail
      refine HRZ.out.mono ?_
      rintro e w6 ⟨rfl, hb⟩
      have S6 := Lib.hid (S5.out.more hb)
      clear S5
      clear a0 a1 a2 al ai hb HRZ
      by_cases hok : RcrOk r Z.1 Z.2
      · have HK := Lib.hid (HKY2.out hok)
        rw [rcrB_yes hok]
        clear HKY2 HKB hok HKR HRO
        obtain ⟨a0, a1, a2⟩ := (show Box _ _ (roL r (.slice A5 Z.1.length c5) (.slice A6 Z.2.length c6)) from S6.out.box 0 _ _ rfl).threeQ
        have al := (S6.out.box 0 _ _ rfl).lt
        have ai := (S6.out.box 0 _ _ rfl).ice
        obtain ⟨z0, z1, z2⟩ := (show Box _ _ (roL 0 (.slice none 0 0) (.slice none 0 0)) from S6.out.box 2 _ _ rfl).threeQ
        have zl := (S6.out.box 2 _ _ rfl).lt
        have zi := (S6.out.box 2 _ _ rfl).ice
        have S7 := Lib.hid (show St w (((w6.setCell ⟨(w.heap.size + 1 + 1), 0, none⟩ (.int .i64 r)).setCell ⟨(w.heap.size + 1 + 1), 1, none⟩ (.slice A5 Z.1.length c5)).setCell ⟨(w.heap.size + 1 + 1), 2, none⟩ (.slice A6 Z.2.length c6)) [boxT w5.heap.size (roL r (.slice A5 Z.1.length c5) (.slice A6 Z.2.length c6)), rrT (roV r (.slice A5 Z.1.length c5) (.slice A6 Z.2.length c6)) r Z.1 Z.2, boxT (w.heap.size + 1 + 1) (roL r (.slice A5 Z.1.length c5) (.slice A6 Z.2.length c6)), boxT (w.heap.size + 1) (rdL x0 x1 x2 x3), boxT w.heap.size (roL r (.slice A l.length c) (.slice A2 d.length c2))] from S6.out.setAll 2 _ _ rfl (roL r (.slice A5 Z.1.length c5) (.slice A6 Z.2.length c6)) rfl)
        go_wp2
        show bodyPost Try.prog Try.f18 _ Exit.ret _ ((((w6.setCell ⟨(w.heap.size + 1 + 1), 0, none⟩ (.int .i64 r)).setCell ⟨(w.heap.size + 1 + 1), 1, none⟩ (.slice A5 Z.1.length c5)).setCell ⟨(w.heap.size + 1 + 1), 2, none⟩ (.slice A6 Z.2.length c6)))
        obtain ⟨q0, q1, q2⟩ := (show Box _ _ (roL r (.slice A5 Z.1.length c5) (.slice A6 Z.2.length c6)) from S7.out.box 2 _ _ rfl).threeQ
        generalize (((w6.setCell ⟨(w.heap.size + 1 + 1), 0, none⟩ (.int .i64 r)).setCell ⟨(w.heap.size + 1 + 1), 1, none⟩ (.slice A5 Z.1.length c5)).setCell ⟨(w.heap.size + 1 + 1), 2, none⟩ (.slice A6 Z.2.length c6)) = WE at *
        refine bodyPost_ret_by (v := roV r (.slice A5 Z.1.length c5) (.slice A6 Z.2.length c6)) ?_ rfl ?_
        · simp [results, Try.f18, go_sem, q0, q1, q2]
        · rw [HK.out]
          exact ⟨_, rfl, S7.out.nth 1 _ rfl, S7.out.nthPast 1 _ rfl, S7.out.below⟩
      · have HK := Lib.hid (HKB.out hok)
        rw [rcrB_no hok]
        clear HKY2 HKB hok HKR HRO
        have S8 := Lib.hid (show St w _ [boxT (w.heap.size + 1 + 1) (roL 0 (.slice none 0 0) (.slice none 0 0)), boxT (w.heap.size + 1) (rdL x0 x1 x2 x3), boxT w.heap.size (roL r (.slice A l.length c) (.slice A2 d.length c2))] from S6.out.pick [2, 3, 4] (by decide))
        clear S6
        obtain ⟨k0, k1, k2⟩ := (show Box _ _ (roL r (.slice A l.length c) (.slice A2 d.length c2)) from S8.out.box 2 _ _ rfl).threeQ
        have kl := (S8.out.box 2 _ _ rfl).lt
        have ki := (S8.out.box 2 _ _ rfl).ice
        go_wp2_with fail
        refine (HCP.out _ S8.out.below).mono ?_
        rintro e w9 ⟨v, rfl, hp, hn, hb⟩
        obtain ⟨A3, c3, A4, c4, rfl⟩ := rrT.form hp
        have S10 := Lib.hid (S8.out.add (rrT (roV r (.slice A3 l.length c3) (.slice A4 d.length c4)) r l d) hb hp hn)
        clear k0 k1 k2 kl ki
        obtain ⟨z0, z1, z2⟩ := (show Box _ _ (roL 0 (.slice none 0 0) (.slice none 0 0)) from S10.out.box 1 _ _ rfl).threeQ
        have zl := (S10.out.box 1 _ _ rfl).lt
        have zi := (S10.out.box 1 _ _ rfl).ice
        have S11 := Lib.hid (show St w (((w9.setCell ⟨(w.heap.size + 1 + 1), 0, none⟩ (.int .i64 r)).setCell ⟨(w.heap.size + 1 + 1), 1, none⟩ (.slice A3 l.length c3)).setCell ⟨(w.heap.size + 1 + 1), 2, none⟩ (.slice A4 d.length c4)) [rrT (roV r (.slice A3 l.length c3) (.slice A4 d.length c4)) r l d, boxT (w.heap.size + 1 + 1) (roL r (.slice A3 l.length c3) (.slice A4 d.length c4)), boxT (w.heap.size + 1) (rdL x0 x1 x2 x3), boxT w.heap.size (roL r (.slice A l.length c) (.slice A2 d.length c2))] from S10.out.setAll 1 _ _ rfl (roL r (.slice A3 l.length c3) (.slice A4 d.length c4)) rfl)
        go_wp2
        show bodyPost Try.prog Try.f18 _ Exit.ret _ ((((w9.setCell ⟨(w.heap.size + 1 + 1), 0, none⟩ (.int .i64 r)).setCell ⟨(w.heap.size + 1 + 1), 1, none⟩ (.slice A3 l.length c3)).setCell ⟨(w.heap.size + 1 + 1), 2, none⟩ (.slice A4 d.length c4)))
        obtain ⟨q0, q1, q2⟩ := (show Box _ _ (roL r (.slice A3 l.length c3) (.slice A4 d.length c4)) from S11.out.box 1 _ _ rfl).threeQ
        generalize (((w9.setCell ⟨(w.heap.size + 1 + 1), 0, none⟩ (.int .i64 r)).setCell ⟨(w.heap.size + 1 + 1), 1, none⟩ (.slice A3 l.length c3)).setCell ⟨(w.heap.size + 1 + 1), 2, none⟩ (.slice A4 d.length c4)) = WE at *
        refine bodyPost_ret_by (v := roV r (.slice A3 l.length c3) (.slice A4 d.length c4)) ?_ rfl ?_
        · simp [results, Try.f18, go_sem, q0, q1, q2]
        · rw [HK.out]
          exact ⟨_, rfl, S11.out.nth 0 _ rfl, S11.out.nthPast 0 _ rfl, S11.out.below⟩
end Go.Proofs.Ytckofkdeedbbgaa
