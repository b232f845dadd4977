/- What this text proves: the parts KpS of the proof, each under its own words. -/
import Derived.Test.YtckofkdeedbbgaaKK16
import Derived.Test.YtckofkdeedbbgaaKK19
import Derived.Test.YtckofkdeedbbgaaKK15
import Derived.Test.YtckofkdeedbbgaaKK20
import Derived.Test.YtckofkdeedbbgaaKK26
import Derived.Test.YtckofkdeedbbgaaKK27
import Derived.Test.YtckofkdeedbbgaaKK22
import Derived.Deep.LoopGhost
import Derived.Deep.Cut
import Derived.Deep.CutRange
import Derived.Deep.RegionLaw
import Derived.BigQuiet
/- What this text proves: the contract of the model's KeepRecord. -/
namespace Go.Proofs.Ytckofkdeedbbgaa
open Go.ChangeShapes Go.WideShapes Go.ChangeAt Go.RowKit
set_option linter.unusedVariables false

theorem befR_endS {l : List Rc} {m : Nat} (h : l.length = m + 1) : befR l l.length = (l[m]'(by omega)).1 := by
  have e : befR l (m + 1) = (l[m]'(by omega)).1 := by
    show (l.getD m rc0).1 = _
    rw [getRc_at (show m < l.length by omega)]
  exact (congrArg (befR l) h).trans e
theorem us_ls (A : Option Addr) (c : Nat) (l : List Rc) (n : Nat) (hn : l.length = n) (hl : l.length ≤ 666) (hs : totRc l l.length ≤ 4000) (w : World) (h : LsI 4 w w.heap.size A (l.map rcC)) :
    Calls Try.prog 99 #[.slice A n c] w fun e w' => e = .returned (.int .i64 ((sumR l : Nat) : Int)) ∧ w = w' := by
  subst hn
  have := used_spec A l c (by omega) (by omega) w h
  rw [useR_sum] at this
  exact this
set_option maxRecDepth 20000 in
set_option maxHeartbeats 16000000 in
theorem keep_spec (r : Int) (A A2 : Option Addr) (l : List Rc) (d : List Int) (c c2 : Nat) (x : Rc) (hl : l.length ≤ 1048576) (hs : totRc l l.length ≤ 4000000) (hd : d.length ≤ 1048576) (w : World) (h1 : LsI 4 w w.heap.size A (l.map rcC)) (h2 : LsI 1 w w.heap.size A2 (d.map inC)) :
    Calls Try.prog 37 #[roV r (.slice A l.length c) (.slice A2 d.length c2), rdV x.1 x.2.1 x.2.2.1 x.2.2.2] w (RrEnd w r (keepR r l d x).1 (keepR r l d x).2) := by
  have HCP := Lib.hid (fun W (hb : Below w.heap.size w W) => rr_gives (rocopy_spec r A A2 l d c c2 (by omega) (by omega) W (h1.full hb) (h2.full hb)))
  have HRO := Lib.hid (fun W (hb : Below w.heap.size w W) => rcr_spec r A A2 l d c c2 (by omega) (by omega) (by omega) W (h1.full hb) (h2.full hb))
  have HRD := Lib.hid (fun W => rd_spec x.1 x.2.1 x.2.2.1 x.2.2.2 W)
  have HI := Lib.hid (fun W (hb : Below w.heap.size w W) => h1.more hb)
  have HKN := Lib.hid (fun (h : ¬ KpIn r l d x) => keepR_no h)
  have HKY := Lib.hid (fun (h : KpIn r l d x) h2 => keepR_yes h h2)
  have HKB := Lib.hid (fun h2 => keepR_bad (r := r) (l := l) (d := d) (x := x) h2)
  have HKD := Lib.hid (show KpIn r l d x ↔ RcrOk r l d ∧ RdOk x.1 x.2.1 x.2.2.1 x.2.2.2 ∧ befR l l.length < x.1 from Iff.rfl)
  have HSH := Lib.hid (fun (ok : RcrOk r l d) => rcr_short ok)
  have HRX := Lib.hid (show RdC x ↔ RdOk x.1 x.2.1 x.2.2.1 x.2.2.2 from Iff.rfl)
  have HRL := Lib.hid (fun (ok : RcrOk r l d) (hx : RdC x) => kpRaw_len ok hx)
  have HBE := Lib.hid (fun m (h : l.length = m + 1) => befR_endS h)
  have HB0 := Lib.hid (fun (h : l = []) => (show befR l l.length = -1 by subst h; rfl))
  have HNO := Lib.hid (fun h => kpRaw_none (r := r) (l := l) (d := d) (x := x) h)
  have HYE := Lib.hid (fun y h => kpRaw_some (r := r) (l := l) (d := d) (x := x) (y := y) h)
  obtain ⟨Z, hZ⟩ : ∃ Z, kpRaw r l d x = Z := ⟨_, rfl⟩
  rw [hZ] at HKY HKB HRL HNO HYE
  obtain ⟨x0, x1, x2, x3⟩ := x
  simp only [] at *
  generalize keepR r l d (x0, x1, x2, x3) = K at *
  generalize hKP : KpIn r l d (x0, x1, x2, x3) = KP at *
  generalize hRX : RdC (x0, x1, x2, x3) = RX at *
  clear h1 h2 hZ hs hKP hRX
  have S0 := Lib.hid (show St w (((w.alloc (.cells #[.int .i64 r, .slice A l.length c, .slice A2 d.length c2] 30)).alloc (.cells #[.int .i64 x0, .int .i64 x1, .int .i64 x2, .string x3] 50)).alloc (.cells #[.int .i64 0, .slice none 0 0, .slice none 0 0] 30)) [boxT (w.heap.size + 1 + 1) (roL 0 (.slice none 0 0) (.slice none 0 0)), boxT (w.heap.size + 1) (rdL x0 x1 x2 x3), boxT w.heap.size (roL r (.slice A l.length c) (.slice A2 d.length c2))] from by have h := (((St.start w).made (roL r (.slice A l.length c) (.slice A2 d.length c2)) 30).made (rdL x0 x1 x2 x3) 50).made (roL 0 (.slice none 0 0) (.slice none 0 0)) 30; simpa using h)
  have wl : IntKind.i64.wrap ((l.length : Int) - 1) = (l.length : Int) - 1 := IntWalk.i64_in _ (by omega)
  have wl' : wrap64 ((l.length : Int) - 1) = (l.length : Int) - 1 := by unfold wrap64; omega
  go_enter Try.func37, Try.ntmps37
  go_wp2_with fail
  refine (HCP.out _ S0.out.below).mono ?_
  rintro e w1 ⟨v, rfl, hp, hn, hb⟩
  obtain ⟨A3, c3, B3, e3, rfl⟩ := rrT.form hp
  have S1 := Lib.hid (S0.out.add (rrT (roV r (.slice A3 l.length c3) (.slice B3 d.length e3)) r l d) hb hp hn)
  clear S0
  have S2 := Lib.hid (show St w w1 [rowT 50 4 (.slice A3 l.length c3) (l.map rcC), rowT 3 1 (.slice B3 d.length e3) (d.map inC), boxT (w.heap.size + 1 + 1) (roL 0 (.slice none 0 0) (.slice none 0 0)), boxT (w.heap.size + 1) (rdL x0 x1 x2 x3), boxT w.heap.size (roL r (.slice A l.length c) (.slice A2 d.length c2))] from S1.out.splitR)
  clear S1 hp hn hb
  have S3 := Lib.hid (S2.out.made (roL r (.slice A3 l.length c3) (.slice B3 d.length e3)) 30)
  clear S2
  generalize hgo : w1.heap.size = go at *
  obtain ⟨k0, k1, k2⟩ := (show Box _ _ (roL r (.slice A l.length c) (.slice A2 d.length c2)) from S3.out.box 5 _ _ rfl).threeQ
  have kl := (S3.out.box 5 _ _ rfl).lt
  have ki := (S3.out.box 5 _ _ rfl).ice
  go_upto_region 3 with fail
  clear k0 k1 k2 kl ki
  have S70 := Lib.hid (show St w (w1.alloc (.cells #[.int .i64 r, .slice A3 l.length c3, .slice B3 d.length e3] 30)) [boxT go (roL r (.slice A3 l.length c3) (.slice B3 d.length e3)), rowT 50 4 (.slice A3 l.length c3) (l.map rcC), rowT 3 1 (.slice B3 d.length e3) (d.map inC), boxT (w.heap.size + 1 + 1) (roL 0 (.slice none 0 0) (.slice none 0 0)), boxT (w.heap.size + 1) (rdL x0 x1 x2 x3), boxT w.heap.size (roL r (.slice A l.length c) (.slice A2 d.length c2))] from S3.out)
  clear S3
  generalize w1.alloc (.cells #[.int .i64 r, .slice A3 l.length c3, .slice B3 d.length e3] 30) = w2 at *
  go_cut [37] from 14 to 36 (fun s37 wx => ∃ z : Bool, s37 = .bool z ∧ (z = false ↔ KP) ∧ St w wx [boxT go (roL r (.slice A3 l.length c3) (.slice B3 d.length e3)), rowT 50 4 (.slice A3 l.length c3) (l.map rcC), rowT 3 1 (.slice B3 d.length e3) (d.map inC), boxT (w.heap.size + 1 + 1) (roL 0 (.slice none 0 0) (.slice none 0 0)), boxT (w.heap.size + 1) (rdL x0 x1 x2 x3), boxT w.heap.size (roL r (.slice A l.length c) (.slice A2 d.length c2))])
  case first =>
    obtain ⟨C, hC9⟩ : ∃ C : World → Prop, ∀ W, C W ↔ St w W [boxT go (roL r (.slice A3 l.length c3) (.slice B3 d.length e3)), rowT 50 4 (.slice A3 l.length c3) (l.map rcC), rowT 3 1 (.slice B3 d.length e3) (d.map inC), boxT (w.heap.size + 1 + 1) (roL 0 (.slice none 0 0) (.slice none 0 0)), boxT (w.heap.size + 1) (rdL x0 x1 x2 x3), boxT w.heap.size (roL r (.slice A l.length c) (.slice A2 d.length c2))] := ⟨_, fun _ => Iff.rfl⟩
    have HC9 := Lib.hid hC9
    clear hC9
    have HC0 := Lib.hid ((HC9.out _).2 S70.out.drew)
    have hall : ∀ q : Prop, (InW C → q) ↔ q := fun q => ⟨fun h => h ⟨_, HC0.out⟩, fun h _ => h⟩
    have HROC := Lib.hid (fun W (hC : C W) => (HRO.out W ((HC9.out W).1 hC).below).mono fun e w' h => (show e = .returned (.bool (rcrB r l d)) ∧ C w' from ⟨h.1, (HC9.out w').2 (((HC9.out W).1 hC).more h.2)⟩))
    have HRDC := Lib.hid (fun W (hC : C W) => (HRD.out W).mono fun e w' h => (show e = .returned (.bool (decide (RdOk x0 x1 x2 x3))) ∧ C w' from ⟨h.1, (HC9.out w').2 (((HC9.out W).1 hC).more h.2)⟩))
    have fr0 : ∀ p : InW C, p.W.cell? ⟨w.heap.size, 0, none⟩ = some (.int .i64 r) := fun p => (((HC9.out _).1 p.ok).box 5 _ _ rfl).cell 0 (by simp)
    have fr1 : ∀ p : InW C, p.W.cell? ⟨w.heap.size, 1, none⟩ = some (.slice A l.length c) := fun p => (((HC9.out _).1 p.ok).box 5 _ _ rfl).cell 1 (by simp)
    have fr2 : ∀ p : InW C, p.W.cell? ⟨w.heap.size, 2, none⟩ = some (.slice A2 d.length c2) := fun p => (((HC9.out _).1 p.ok).box 5 _ _ rfl).cell 2 (by simp)
    have fx0 : ∀ p : InW C, p.W.cell? ⟨w.heap.size + 1, 0, none⟩ = some (.int .i64 x0) := fun p => (((HC9.out _).1 p.ok).box 4 _ _ rfl).cell 0 (by simp)
    have fx1 : ∀ p : InW C, p.W.cell? ⟨w.heap.size + 1, 1, none⟩ = some (.int .i64 x1) := fun p => (((HC9.out _).1 p.ok).box 4 _ _ rfl).cell 1 (by simp)
    have fx2 : ∀ p : InW C, p.W.cell? ⟨w.heap.size + 1, 2, none⟩ = some (.int .i64 x2) := fun p => (((HC9.out _).1 p.ok).box 4 _ _ rfl).cell 2 (by simp)
    have fx3 : ∀ p : InW C, p.W.cell? ⟨w.heap.size + 1, 3, none⟩ = some (.string x3) := fun p => (((HC9.out _).1 p.ok).box 4 _ _ rfl).cell 3 (by simp)
    by_cases hok : RcrOk r l d
    · by_cases hx : RdOk x0 x1 x2 x3
      · rcases Nat.eq_zero_or_pos l.length with h0 | h0
        · have hl0 : l = [] := List.eq_nil_of_length_eq_zero h0
          have HP := Lib.hid (HKD.out.2 ⟨hok, hx, by rw [HB0.out hl0]; have := hx.1.1; omega⟩)
          rw [rcrB_yes hok] at HROC
          rw [decide_eq_true hx] at HRDC
          have hd0 : decide ((0 : Int) < (l.length : Int)) = false := by simp; omega
          have hd1 : decide (0 < l.length) = false := by simp; omega
          have hd2 : decide ((1 : Int) ≤ (l.length : Int)) = false := by simp; omega
          clear h0 hl0 hok hx HKD HB0 HBE HRX HRL HSH
          refine wp_region_inW C (by kernel_rfl) (by kernel_rfl) HC0.out ?_
          repeat (go_big_quiet_step (first | (go_at_call 97; exact calls_inW (C := C) (HROC.out _ (InW.ok (C := C) _))) | (go_at_call 98; exact calls_inW (C := C) (HRDC.out _ (InW.ok (C := C) _)))))
          refine wpQuiet_nil ?_
          rintro _ ⟨⟨W2, hW2⟩, rfl⟩
          go_wp2_with fail
          go_meet
          exact ⟨false, rfl, ⟨fun _ => HP.out, fun _ => rfl⟩, (HC9.out _).1 hW2⟩
        · obtain ⟨m, hm⟩ : ∃ m, l.length = m + 1 := ⟨l.length - 1, by omega⟩
          have hmE : (l.length : Int) - 1 = (m : Int) := by omega
          have hlm := HBE.out m hm
          have hml : m < l.length := by omega
          obtain ⟨bb, off, hAb, hbb, hc⟩ := rcCellsI (b := 0) (off := 0) (HI.out _ (Below.refl _ _)) h0
          have hcm : ∀ p : InW C, p.W.cell? ⟨bb, off + m * 4, none⟩ = some (.int .i64 l[m].1) := fun p => (((HC9.out _).1 p.ok).below.cell (p := ⟨bb, off + m * 4, none⟩) hbb).trans (hc m hml).1
          subst hAb
          have hd0 : decide ((0 : Int) < (l.length : Int)) = true := by simp; omega
          have hd1 : decide (0 < l.length) = true := by simp; omega
          have hcn : ∀ p : InW C, p.W.cell? ⟨bb, off + (l.length - 1) * 4, none⟩ = some (.int .i64 l[m].1) := fun p => by rw [show l.length - 1 = m by omega]; exact hcm p
          have hi3 : decide (l.length - 1 < l.length) = true := by simp; omega
          have hi4 : decide ((l.length : Int) - 1 < (l.length : Int)) = true := by simp; omega
          have hi5 : decide (0 ≤ (l.length : Int) - 1) = true := by simp; omega
          have hi1 : decide (m < l.length) = true := by simpa using hml
          have hi2 : decide ((m : Int) < (l.length : Int)) = true := by simp; omega
          by_cases hlt : befR l l.length < x0
          · have HP := Lib.hid (HKD.out.2 ⟨hok, hx, hlt⟩)
            rw [rcrB_yes hok] at HROC
            rw [decide_eq_true hx] at HRDC
            rw [hlm] at hlt
            have hc1 : decide (x0 ≤ l[m].1) = false := by simp; omega
            generalize l[m].1 = lm at *
            clear hm h0 hc hok hx hlm hlt hmE HKD HB0 HBE HRX HRL HSH
            refine wp_region_inW C (by kernel_rfl) (by kernel_rfl) HC0.out ?_
            repeat (go_big_quiet_step (first | (go_at_call 97; exact calls_inW (C := C) (HROC.out _ (InW.ok (C := C) _))) | (go_at_call 98; exact calls_inW (C := C) (HRDC.out _ (InW.ok (C := C) _)))))
            refine wpQuiet_nil ?_
            rintro _ ⟨⟨W2, hW2⟩, rfl⟩
            go_wp2_with fail
            go_meet
            exact ⟨false, rfl, ⟨fun _ => HP.out, fun _ => rfl⟩, (HC9.out _).1 hW2⟩
          · have HP := Lib.hid (show ¬ KP from fun g => hlt (HKD.out.1 g).2.2)
            rw [rcrB_yes hok] at HROC
            rw [decide_eq_true hx] at HRDC
            rw [hlm] at hlt
            have hc1 : decide (x0 ≤ l[m].1) = true := by simp; omega
            generalize l[m].1 = lm at *
            clear hm h0 hc hok hx hlm hlt hmE HKD HB0 HBE HRX HRL HSH
            refine wp_region_inW C (by kernel_rfl) (by kernel_rfl) HC0.out ?_
            repeat (go_big_quiet_step (first | (go_at_call 97; exact calls_inW (C := C) (HROC.out _ (InW.ok (C := C) _))) | (go_at_call 98; exact calls_inW (C := C) (HRDC.out _ (InW.ok (C := C) _)))))
            refine wpQuiet_nil ?_
            rintro _ ⟨⟨W2, hW2⟩, rfl⟩
            go_wp2_with fail
            go_meet
            exact ⟨true, rfl, ⟨(fun h => by cases h), fun h => absurd h HP.out⟩, (HC9.out _).1 hW2⟩
      · have HP := Lib.hid (show ¬ KP from fun g => hx (HKD.out.1 g).2.1)
        rw [rcrB_yes hok] at HROC
        rw [decide_eq_false hx] at HRDC
        clear hok hx HKD HB0 HBE HRX HRL HSH
        refine wp_region_inW C (by kernel_rfl) (by kernel_rfl) HC0.out ?_
        repeat (go_big_quiet_step (first | (go_at_call 97; exact calls_inW (C := C) (HROC.out _ (InW.ok (C := C) _))) | (go_at_call 98; exact calls_inW (C := C) (HRDC.out _ (InW.ok (C := C) _)))))
        refine wpQuiet_nil ?_
        rintro _ ⟨⟨W2, hW2⟩, rfl⟩
        go_wp2_with fail
        go_meet
        exact ⟨true, rfl, ⟨(fun h => by cases h), fun h => absurd h HP.out⟩, (HC9.out _).1 hW2⟩
    · have HP := Lib.hid (show ¬ KP from fun g => hok (HKD.out.1 g).1)
      rw [rcrB_no hok] at HROC
      clear hok HKD HB0 HBE HRX HRL HSH
      refine wp_region_inW C (by kernel_rfl) (by kernel_rfl) HC0.out ?_
      repeat (go_big_quiet_step (first | (go_at_call 97; exact calls_inW (C := C) (HROC.out _ (InW.ok (C := C) _))) | (go_at_call 98; exact calls_inW (C := C) (HRDC.out _ (InW.ok (C := C) _)))))
      refine wpQuiet_nil ?_
      rintro _ ⟨⟨W2, hW2⟩, rfl⟩
      go_wp2_with fail
      go_meet
      exact ⟨true, rfl, ⟨(fun h => by cases h), fun h => absurd h HP.out⟩, (HC9.out _).1 hW2⟩
  case rest =>
    obtain ⟨z, rfl, hz, hT⟩ := hcut
    generalize wc = w4 at *
    have S71 := Lib.hid hT
    clear hT S70 HRD HBE HB0 HI wl wl'
    rcases hz9 : z with _ | _
    rotate_left
    · subst hz9
      have HK := Lib.hid (HKN.out (fun h => by have := hz.2 h; cases this))
      clear hz HKN HKY HKB HKD HRX HRO HRL HNO HYE HSH HCP
      obtain ⟨b0, b1, b2⟩ := (show Box _ _ (roL r (.slice A3 l.length c3) (.slice B3 d.length e3)) from S71.out.box 0 _ _ rfl).threeQ
      have bl := (S71.out.box 0 _ _ rfl).lt
      have bi := (S71.out.box 0 _ _ rfl).ice
      obtain ⟨z0, z1, z2⟩ := (show Box _ _ (roL 0 (.slice none 0 0) (.slice none 0 0)) from S71.out.box 3 _ _ rfl).threeQ
      have zl := (S71.out.box 3 _ _ rfl).lt
      have zi := (S71.out.box 3 _ _ rfl).ice
      have S4 := Lib.hid (show St w (((w4.setCell ⟨(w.heap.size + 1 + 1), 0, none⟩ (.int .i64 r)).setCell ⟨(w.heap.size + 1 + 1), 1, none⟩ (.slice A3 l.length c3)).setCell ⟨(w.heap.size + 1 + 1), 2, none⟩ (.slice B3 d.length e3)) [boxT go (roL r (.slice A3 l.length c3) (.slice B3 d.length e3)), rowT 50 4 (.slice A3 l.length c3) (l.map rcC), rowT 3 1 (.slice B3 d.length e3) (d.map inC), boxT (w.heap.size + 1 + 1) (roL r (.slice A3 l.length c3) (.slice B3 d.length e3)), boxT (w.heap.size + 1) (rdL x0 x1 x2 x3), boxT w.heap.size (roL r (.slice A l.length c) (.slice A2 d.length c2))] from S71.out.setAll 3 _ _ rfl (roL r (.slice A3 l.length c3) (.slice B3 d.length e3)) rfl)
      go_wp2
      show bodyPost Try.prog Try.f37 _ Exit.ret _ ((((w4.setCell ⟨(w.heap.size + 1 + 1), 0, none⟩ (.int .i64 r)).setCell ⟨(w.heap.size + 1 + 1), 1, none⟩ (.slice A3 l.length c3)).setCell ⟨(w.heap.size + 1 + 1), 2, none⟩ (.slice B3 d.length e3)))
      obtain ⟨q0, q1, q2⟩ := (show Box _ _ (roL r (.slice A3 l.length c3) (.slice B3 d.length e3)) from S4.out.box 3 _ _ rfl).threeQ
      generalize (((w4.setCell ⟨(w.heap.size + 1 + 1), 0, none⟩ (.int .i64 r)).setCell ⟨(w.heap.size + 1 + 1), 1, none⟩ (.slice A3 l.length c3)).setCell ⟨(w.heap.size + 1 + 1), 2, none⟩ (.slice B3 d.length e3)) = WE at *
      refine bodyPost_ret_by (v := roV r (.slice A3 l.length c3) (.slice B3 d.length e3)) ?_ rfl ?_
      · simp [results, Try.f37, go_sem, q0, q1, q2]
      · rw [HK.out]
        have hO := S4.out.ownRr r 1 2 rfl rfl (by decide)
        exact ⟨_, rfl, hO.1, hO.2, S4.out.below⟩
    · subst hz9
      have hkp := hz.1 rfl
      have hall := HKD.out.1 hkp
      have hrl := HRL.out hall.1 (HRX.out.2 hall.2.1)
      have HKY2 := Lib.hid (HKY.out hkp)
      obtain ⟨hl6, ht4, hd6⟩ := HSH.out hall.1
      have hx34 : x3.size ≤ 34 := hall.2.1.2.2.2
      have hr4 := hall.1.1
      obtain ⟨N, hN⟩ : ∃ N, 6 + x3.size = N := ⟨_, rfl⟩
      have HNB : (N : Int) ≤ 40 ∧ 0 ≤ (N : Int) := by omega
      rw [hN] at HNO HYE
      have wN : IntKind.i64.wrap (6 + (x3.size : Int)) = (N : Int) := (IntWalk.i64_in _ (by omega)).trans (by omega)
      have wN' : wrap64 (6 + (x3.size : Int)) = (N : Int) := by unfold wrap64; omega
      have HZL := Lib.hid hl6
      have HZD := Lib.hid hd6
      have HZT := Lib.hid ht4
      obtain ⟨G, hG⟩ : ∃ G, kpGo x1 (r - (N : Int)) l.length l d = G := ⟨_, rfl⟩
      rw [hG] at HNO
      simp only [hG] at HYE
      have HG := Lib.hid hG
      clear hz hkp hall HKN HKY HKD HRX HRL HRO HSH hG hN
      obtain ⟨y0, y1, y2, y3⟩ := (show Box _ _ (rdL x0 x1 x2 x3) from S71.out.box 4 _ _ rfl).four4
      have yl := (S71.out.box 4 _ _ rfl).lt
      have yi := (S71.out.box 4 _ _ rfl).ice
      go_wp2
      clear wN wN'
      clear y0 y1 y2 y3 yl yi
      go_loopg [] (l.length + 1) (fun gh wx => ∃ (l' : List Rc) (d' : List Int) (AR : Option Addr) (cr : Nat) (AX : Option Addr) (cx : Nat), gh = l'.length + 1 ∧ kpGo x1 (r - (N : Int)) l'.length l' d' = G ∧ (l'.length ≤ 666 ∧ totRc l' l'.length ≤ 4000 ∧ d'.length + l'.length ≤ 66300) ∧ St w wx [boxT go (roL r (.slice AR l'.length cr) (.slice AX d'.length cx)), rowT 50 4 (.slice AR l'.length cr) (l'.map rcC), rowT 3 1 (.slice AX d'.length cx) (d'.map inC), boxT (w.heap.size + 1 + 1) (roL 0 (.slice none 0 0) (.slice none 0 0)), boxT (w.heap.size + 1) (rdL x0 x1 x2 x3), boxT w.heap.size (roL r (.slice A l.length c) (.slice A2 d.length c2))])
      case atStart => exact ⟨l, d, A3, c3, B3, e3, rfl, HG.out, ⟨HZL.out, HZT.out, by have := HZL.out; have := HZD.out; omega⟩, S71.out⟩
      case round =>
        obtain ⟨l', d', AR, cr, AX, cx, rfl, hkp, hbd, hst⟩ := hrel
        have SS := Lib.hid hst
        have HK := Lib.hid hkp
        obtain ⟨hb1, hb2, hb3⟩ := hbd
        have hsl2 : ((sumR l' : Nat) : Int) ≤ 8000 := by have h7 := useR_sum l'; have h8 : useR l' l'.length = 6 * l'.length + totRc l' l'.length := rfl; omega
        clear hst hkp HG S71
        have HUS := Lib.hid (fun n => us_ls AR cr l' _ rfl hb1 hb2 _ (LsO.ats (OwnR.toO ((SS.out.drewN n).row 1 _ _ _ _ rfl))))
        obtain ⟨SU, hSU⟩ : ∃ SU, sumR l' = SU := ⟨_, rfl⟩
        rw [hSU] at HUS hsl2
        have HSU := Lib.hid hSU
        clear hSU
        have ws : IntKind.i64.wrap ((SU : Int) + (N : Int)) = (SU : Int) + (N : Int) := IntWalk.i64_in _ (by omega)
        obtain ⟨a0, a1, a2⟩ := (show Box _ _ (roL r (.slice AR l'.length cr) (.slice AX d'.length cx)) from SS.out.box 0 _ _ rfl).threeQ
        have al := (SS.out.box 0 _ _ rfl).lt
        have ai := (SS.out.box 0 _ _ rfl).ice
        obtain ⟨k0, k1, k2⟩ := (show Box _ _ (roL r (.slice A l.length c) (.slice A2 d.length c2)) from SS.out.box 5 _ _ rfl).threeQ
        have kl := (SS.out.box 5 _ _ rfl).lt
        have ki := (SS.out.box 5 _ _ rfl).ice
        by_cases hlt : (SU : Int) + (N : Int) ≤ r
        · have HE := Lib.hid (kpGo_end (y := (l', d')) (show kpGo x1 (r - (N : Int)) l'.length l' d' = some (l', d') from kpGo_done (by rw [HSU.out]; omega)) (by rw [HSU.out]; omega))
          have HYY := Lib.hid (HYE.out (l', d') (by rw [← HK.out]; exact kpGo_done (by rw [HSU.out]; omega)))
          clear HE HK HNO HYE
          have hd : decide (r < (SU : Int) + (N : Int)) = false := by simp; omega
          go_wp2
          go_quiet ((go_at_call 99; exact Calls.quiet_of_same ((HUS.out _).mono fun _ _ h => ⟨h.1, h.2.symm⟩)))
          clear HUS ws
          clear a0 a1 a2 al ai k0 k1 k2 kl ki
          have S5 := Lib.hid (SS.out.drewN nq)
          clear SS
          generalize wr.drewN nq = w5 at *
          clear hlt hd
          obtain ⟨a0, a1, a2⟩ := (show Box _ _ (roL r (.slice AR l'.length cr) (.slice AX d'.length cx)) from S5.out.box 0 _ _ rfl).threeQ
          have al := (S5.out.box 0 _ _ rfl).lt
          have ai := (S5.out.box 0 _ _ rfl).ice
          obtain ⟨y0, y1, y2, y3⟩ := (show Box _ _ (rdL x0 x1 x2 x3) from S5.out.box 4 _ _ rfl).four4
          have yl := (S5.out.box 4 _ _ rfl).lt
          have yi := (S5.out.box 4 _ _ rfl).ice
          have S6 := Lib.hid (S5.out.made (rdL x0 x1 x2 x3) 50)
          go_wp2_with (at_builtin; go_loud (refine app_rcs S6.out 2 _ l' rfl rfl _ _ rfl rfl (some ⟨w5.heap.size, 0, none⟩) [(x0, x1, x2, x3)] 1 rfl (rowsAt_box (S6.out.box 0 _ _ rfl)) (by simp; omega) ?_))
          intro A6 n6 c6 w6 hn6 h6
          have S76 := Lib.hid (show St w w6 [boxT w5.heap.size (rdL x0 x1 x2 x3), boxT go (roL r (.slice AR l'.length cr) (.slice AX d'.length cx)), rowT 50 4 (.slice A6 n6 c6) ((l' ++ [(x0, x1, x2, x3)]).map rcC), rowT 3 1 (.slice AX d'.length cx) (d'.map inC), boxT (w.heap.size + 1 + 1) (roL 0 (.slice none 0 0) (.slice none 0 0)), boxT (w.heap.size + 1) (rdL x0 x1 x2 x3), boxT w.heap.size (roL r (.slice A l.length c) (.slice A2 d.length c2))] from by first | exact h6 | (rw [List.map_append]; exact h6))
          have HN6 := Lib.hid (show n6 = (l' ++ [(x0, x1, x2, x3)]).length by simpa using hn6)
          clear a0 a1 a2 al ai y0 y1 y2 y3 yl yi h6 hn6
          have S7 := Lib.hid (show St w _ [boxT go (roL r (.slice AR l'.length cr) (.slice AX d'.length cx)), rowT 50 4 (.slice A6 n6 c6) ((l' ++ [(x0, x1, x2, x3)]).map rcC), rowT 3 1 (.slice AX d'.length cx) (d'.map inC), boxT (w.heap.size + 1 + 1) (roL 0 (.slice none 0 0) (.slice none 0 0)), boxT (w.heap.size + 1) (rdL x0 x1 x2 x3), boxT w.heap.size (roL r (.slice A l.length c) (.slice A2 d.length c2))] from S76.out.pick [1, 2, 3, 4, 5, 6] (by decide))
          clear S76
          obtain ⟨a0, a1, a2⟩ := (show Box _ _ (roL r (.slice AR l'.length cr) (.slice AX d'.length cx)) from S7.out.box 0 _ _ rfl).threeQ
          have al := (S7.out.box 0 _ _ rfl).lt
          have ai := (S7.out.box 0 _ _ rfl).ice
          have S8 := Lib.hid (show St w (w6.setCell ⟨go, 1, none⟩ (.slice A6 n6 c6)) [boxT go (roL r (.slice A6 n6 c6) (.slice AX d'.length cx)), rowT 50 4 (.slice A6 n6 c6) ((l' ++ [(x0, x1, x2, x3)]).map rcC), rowT 3 1 (.slice AX d'.length cx) (d'.map inC), boxT (w.heap.size + 1 + 1) (roL 0 (.slice none 0 0) (.slice none 0 0)), boxT (w.heap.size + 1) (rdL x0 x1 x2 x3), boxT w.heap.size (roL r (.slice A l.length c) (.slice A2 d.length c2))] from S7.out.setBox 0 _ _ rfl 1 (by simp) (.slice A6 n6 c6))
          clear S7
          go_upto_region 17 with fail
          clear a0 a1 a2 al ai
          generalize w6.setCell ⟨go, 1, none⟩ (.slice A6 n6 c6) = w7 at *
          have HRZ := Lib.hid (show Calls Try.prog 97 #[roV r (.slice A6 n6 c6) (.slice AX d'.length cx)] w7 _ from by rw [HN6.out]; exact rcr_spec r A6 AX (l' ++ [(x0, x1, x2, x3)]) d' c6 cx (by have h := hrl; rw [HYY.out] at h; have := h.1; simp at this ⊢; omega) (by have h := hrl; rw [HYY.out] at h; have := h.2.1; exact Nat.le_trans this (by omega)) (by omega) w7 (LsO.ats (OwnR.toO (S8.out.row 1 _ _ _ _ rfl))) (LsO.ats (OwnR.toO (S8.out.row 2 _ _ _ _ rfl))))
          obtain ⟨a0, a1, a2⟩ := (show Box _ _ (roL r (.slice A6 n6 c6) (.slice AX d'.length cx)) from S8.out.box 0 _ _ rfl).threeQ
          have al := (S8.out.box 0 _ _ rfl).lt
          have ai := (S8.out.box 0 _ _ rfl).ice
          go_wp2_with fail
          refine HRZ.out.mono ?_
          rintro e w8 ⟨rfl, hb⟩
          have S9 := Lib.hid (S8.out.more hb)
          clear S8
          clear a0 a1 a2 al ai hb HRZ
          by_cases hok : RcrOk r (l' ++ [(x0, x1, x2, x3)]) d'
          · have HK := Lib.hid (HKY2.out (by rw [HYY.out]; exact hok))
            rw [rcrB_yes hok]
            clear HKY2 HKB hok HCP hrl
            obtain ⟨b0, b1, b2⟩ := (show Box _ _ (roL r (.slice A6 n6 c6) (.slice AX d'.length cx)) from S9.out.box 0 _ _ rfl).threeQ
            have bl := (S9.out.box 0 _ _ rfl).lt
            have bi := (S9.out.box 0 _ _ rfl).ice
            obtain ⟨z0, z1, z2⟩ := (show Box _ _ (roL 0 (.slice none 0 0) (.slice none 0 0)) from S9.out.box 3 _ _ rfl).threeQ
            have zl := (S9.out.box 3 _ _ rfl).lt
            have zi := (S9.out.box 3 _ _ rfl).ice
            have S10 := Lib.hid (show St w (((w8.setCell ⟨(w.heap.size + 1 + 1), 0, none⟩ (.int .i64 r)).setCell ⟨(w.heap.size + 1 + 1), 1, none⟩ (.slice A6 n6 c6)).setCell ⟨(w.heap.size + 1 + 1), 2, none⟩ (.slice AX d'.length cx)) [boxT go (roL r (.slice A6 n6 c6) (.slice AX d'.length cx)), rowT 50 4 (.slice A6 n6 c6) ((l' ++ [(x0, x1, x2, x3)]).map rcC), rowT 3 1 (.slice AX d'.length cx) (d'.map inC), boxT (w.heap.size + 1 + 1) (roL r (.slice A6 n6 c6) (.slice AX d'.length cx)), boxT (w.heap.size + 1) (rdL x0 x1 x2 x3), boxT w.heap.size (roL r (.slice A l.length c) (.slice A2 d.length c2))] from S9.out.setAll 3 _ _ rfl (roL r (.slice A6 n6 c6) (.slice AX d'.length cx)) rfl)
            go_wp2
            show bodyPost Try.prog Try.f37 _ Exit.ret _ ((((w8.setCell ⟨(w.heap.size + 1 + 1), 0, none⟩ (.int .i64 r)).setCell ⟨(w.heap.size + 1 + 1), 1, none⟩ (.slice A6 n6 c6)).setCell ⟨(w.heap.size + 1 + 1), 2, none⟩ (.slice AX d'.length cx)))
            obtain ⟨q0, q1, q2⟩ := (show Box _ _ (roL r (.slice A6 n6 c6) (.slice AX d'.length cx)) from S10.out.box 3 _ _ rfl).threeQ
            generalize (((w8.setCell ⟨(w.heap.size + 1 + 1), 0, none⟩ (.int .i64 r)).setCell ⟨(w.heap.size + 1 + 1), 1, none⟩ (.slice A6 n6 c6)).setCell ⟨(w.heap.size + 1 + 1), 2, none⟩ (.slice AX d'.length cx)) = WE at *
            refine bodyPost_ret_by (v := roV r (.slice A6 n6 c6) (.slice AX d'.length cx)) ?_ rfl ?_
            · simp [results, Try.f37, go_sem, q0, q1, q2]
            · rw [HK.out, HYY.out]
              have h6 := HN6.out; subst h6
              have hO := S10.out.ownRr r 1 2 rfl rfl (by decide)
              exact ⟨_, rfl, hO.1, hO.2, S10.out.below⟩
          · have HK := Lib.hid (HKB.out (by rw [HYY.out]; exact hok))
            rw [rcrB_no hok]
            clear HKY2 HKB hok hrl
            have S11 := Lib.hid (show St w _ [boxT (w.heap.size + 1 + 1) (roL 0 (.slice none 0 0) (.slice none 0 0)), boxT (w.heap.size + 1) (rdL x0 x1 x2 x3), boxT w.heap.size (roL r (.slice A l.length c) (.slice A2 d.length c2))] from S9.out.pick [3, 4, 5] (by decide))
            clear S9
            obtain ⟨k0, k1, k2⟩ := (show Box _ _ (roL r (.slice A l.length c) (.slice A2 d.length c2)) from S11.out.box 2 _ _ rfl).threeQ
            have kl := (S11.out.box 2 _ _ rfl).lt
            have ki := (S11.out.box 2 _ _ rfl).ice
            go_wp2_with fail
            refine (HCP.out _ S11.out.below).mono ?_
            rintro e w9 ⟨v, rfl, hp, hn, hb⟩
            obtain ⟨A7, c7, B7, e7, rfl⟩ := rrT.form hp
            have S12 := Lib.hid (S11.out.add (rrT (roV r (.slice A7 l.length c7) (.slice B7 d.length e7)) r l d) hb hp hn)
            clear S11
            have S13 := Lib.hid (show St w w9 [rowT 50 4 (.slice A7 l.length c7) (l.map rcC), rowT 3 1 (.slice B7 d.length e7) (d.map inC), boxT (w.heap.size + 1 + 1) (roL 0 (.slice none 0 0) (.slice none 0 0)), boxT (w.heap.size + 1) (rdL x0 x1 x2 x3), boxT w.heap.size (roL r (.slice A l.length c) (.slice A2 d.length c2))] from S12.out.splitR)
            clear S12 hp hn hb
            clear k0 k1 k2 kl ki
            obtain ⟨z0, z1, z2⟩ := (show Box _ _ (roL 0 (.slice none 0 0) (.slice none 0 0)) from S13.out.box 2 _ _ rfl).threeQ
            have zl := (S13.out.box 2 _ _ rfl).lt
            have zi := (S13.out.box 2 _ _ rfl).ice
            have S14 := Lib.hid (show St w (((w9.setCell ⟨(w.heap.size + 1 + 1), 0, none⟩ (.int .i64 r)).setCell ⟨(w.heap.size + 1 + 1), 1, none⟩ (.slice A7 l.length c7)).setCell ⟨(w.heap.size + 1 + 1), 2, none⟩ (.slice B7 d.length e7)) [rowT 50 4 (.slice A7 l.length c7) (l.map rcC), rowT 3 1 (.slice B7 d.length e7) (d.map inC), boxT (w.heap.size + 1 + 1) (roL r (.slice A7 l.length c7) (.slice B7 d.length e7)), boxT (w.heap.size + 1) (rdL x0 x1 x2 x3), boxT w.heap.size (roL r (.slice A l.length c) (.slice A2 d.length c2))] from S13.out.setAll 2 _ _ rfl (roL r (.slice A7 l.length c7) (.slice B7 d.length e7)) rfl)
            go_wp2
            show bodyPost Try.prog Try.f37 _ Exit.ret _ ((((w9.setCell ⟨(w.heap.size + 1 + 1), 0, none⟩ (.int .i64 r)).setCell ⟨(w.heap.size + 1 + 1), 1, none⟩ (.slice A7 l.length c7)).setCell ⟨(w.heap.size + 1 + 1), 2, none⟩ (.slice B7 d.length e7)))
            obtain ⟨q0, q1, q2⟩ := (show Box _ _ (roL r (.slice A7 l.length c7) (.slice B7 d.length e7)) from S14.out.box 2 _ _ rfl).threeQ
            generalize (((w9.setCell ⟨(w.heap.size + 1 + 1), 0, none⟩ (.int .i64 r)).setCell ⟨(w.heap.size + 1 + 1), 1, none⟩ (.slice A7 l.length c7)).setCell ⟨(w.heap.size + 1 + 1), 2, none⟩ (.slice B7 d.length e7)) = WE at *
            refine bodyPost_ret_by (v := roV r (.slice A7 l.length c7) (.slice B7 d.length e7)) ?_ rfl ?_
            · simp [results, Try.f37, go_sem, q0, q1, q2]
            · rw [HK.out]
              have hO := S14.out.ownRr r 0 1 rfl rfl (by decide)
              exact ⟨_, rfl, hO.1, hO.2, S14.out.below⟩
        · have hgo : ¬ ((sumR l' : Nat) : Int) ≤ r - (N : Int) := by rw [HSU.out]; omega
          have HGO := Lib.hid hgo
          clear hgo
          have hd : decide (r < (SU : Int) + (N : Int)) = true := by simp; omega
          go_wp2
          go_quiet ((go_at_call 99; exact Calls.quiet_of_same ((HUS.out _).mono fun _ _ h => ⟨h.1, h.2.symm⟩)))
          clear HUS ws
          clear a0 a1 a2 al ai k0 k1 k2 kl ki
          have S15 := Lib.hid (SS.out.drewN nq)
          clear SS
          generalize wr.drewN nq = w5 at *
          clear hlt hd
          have HLS := Lib.hid (ls_spec AR l' cr x1 (by omega) w5 (LsO.ats (OwnR.toO (S15.out.row 1 _ _ _ _ rfl))))
          obtain ⟨a0, a1, a2⟩ := (show Box _ _ (roL r (.slice AR l'.length cr) (.slice AX d'.length cx)) from S15.out.box 0 _ _ rfl).threeQ
          have al := (S15.out.box 0 _ _ rfl).lt
          have ai := (S15.out.box 0 _ _ rfl).ice
          obtain ⟨y0, y1, y2, y3⟩ := (show Box _ _ (rdL x0 x1 x2 x3) from S15.out.box 4 _ _ rfl).four4
          have yl := (S15.out.box 4 _ _ rfl).lt
          have yi := (S15.out.box 4 _ _ rfl).ice
          by_cases hls : lsB l' x1 l'.length = -1
          · have HNN := Lib.hid (HNO.out (HK.out.symm.trans (kpGo_stuck (by have := HGO.out; omega) hls)))
            rw [hls] at HLS
            clear HGO HK HYE HNO hls HSU
            go_wp2_with fail
            refine HLS.out.mono ?_
            rintro e w6 ⟨rfl, hb⟩
            have S16 := Lib.hid (S15.out.more hb)
            clear S15
            clear a0 a1 a2 al ai y0 y1 y2 y3 yl yi hb HLS
            obtain ⟨k0, k1, k2⟩ := (show Box _ _ (roL r (.slice A l.length c) (.slice A2 d.length c2)) from S16.out.box 5 _ _ rfl).threeQ
            have kl := (S16.out.box 5 _ _ rfl).lt
            have ki := (S16.out.box 5 _ _ rfl).ice
            have S17 := Lib.hid (show St w _ [boxT go (roL r (.slice AR l'.length cr) (.slice AX d'.length cx)), boxT (w.heap.size + 1 + 1) (roL 0 (.slice none 0 0) (.slice none 0 0)), boxT (w.heap.size + 1) (rdL x0 x1 x2 x3), boxT w.heap.size (roL r (.slice A l.length c) (.slice A2 d.length c2))] from S16.out.pick [0, 3, 4, 5] (by decide))
            clear S16
            go_wp2_with fail
            refine (HCP.out _ S17.out.below).mono ?_
            rintro e w10 ⟨v, rfl, hp, hn, hb⟩
            obtain ⟨A9, c9, B9, e9, rfl⟩ := rrT.form hp
            have S18 := Lib.hid (S17.out.add (rrT (roV r (.slice A9 l.length c9) (.slice B9 d.length e9)) r l d) hb hp hn)
            clear S17
            have S19 := Lib.hid (show St w w10 [rowT 50 4 (.slice A9 l.length c9) (l.map rcC), rowT 3 1 (.slice B9 d.length e9) (d.map inC), boxT go (roL r (.slice AR l'.length cr) (.slice AX d'.length cx)), boxT (w.heap.size + 1 + 1) (roL 0 (.slice none 0 0) (.slice none 0 0)), boxT (w.heap.size + 1) (rdL x0 x1 x2 x3), boxT w.heap.size (roL r (.slice A l.length c) (.slice A2 d.length c2))] from S18.out.splitR)
            clear S18 hp hn hb
            clear k0 k1 k2 kl ki
            obtain ⟨a0, a1, a2⟩ := (show Box _ _ (roL r (.slice AR l'.length cr) (.slice AX d'.length cx)) from S19.out.box 2 _ _ rfl).threeQ
            have al := (S19.out.box 2 _ _ rfl).lt
            have ai := (S19.out.box 2 _ _ rfl).ice
            have S20 := Lib.hid (show St w (((w10.setCell ⟨go, 0, none⟩ (.int .i64 r)).setCell ⟨go, 1, none⟩ (.slice A9 l.length c9)).setCell ⟨go, 2, none⟩ (.slice B9 d.length e9)) [rowT 50 4 (.slice A9 l.length c9) (l.map rcC), rowT 3 1 (.slice B9 d.length e9) (d.map inC), boxT go (roL r (.slice A9 l.length c9) (.slice B9 d.length e9)), boxT (w.heap.size + 1 + 1) (roL 0 (.slice none 0 0) (.slice none 0 0)), boxT (w.heap.size + 1) (rdL x0 x1 x2 x3), boxT w.heap.size (roL r (.slice A l.length c) (.slice A2 d.length c2))] from S19.out.setAll 2 _ _ rfl (roL r (.slice A9 l.length c9) (.slice B9 d.length e9)) rfl)
            clear S19
            go_upto_region 10 with fail
            clear a0 a1 a2 al ai
            generalize (((w10.setCell ⟨go, 0, none⟩ (.int .i64 r)).setCell ⟨go, 1, none⟩ (.slice A9 l.length c9)).setCell ⟨go, 2, none⟩ (.slice B9 d.length e9)) = w11 at *
            obtain ⟨a0, a1, a2⟩ := (show Box _ _ (roL r (.slice A9 l.length c9) (.slice B9 d.length e9)) from S20.out.box 2 _ _ rfl).threeQ
            have al := (S20.out.box 2 _ _ rfl).lt
            have ai := (S20.out.box 2 _ _ rfl).ice
            obtain ⟨y0, y1, y2, y3⟩ := (show Box _ _ (rdL x0 x1 x2 x3) from S20.out.box 4 _ _ rfl).four4
            have yl := (S20.out.box 4 _ _ rfl).lt
            have yi := (S20.out.box 4 _ _ rfl).ice
            have S21 := Lib.hid (S20.out.made [.int .i64 x0] 3)
            go_wp2_with (at_builtin; go_loud (refine app_ins S21.out 2 _ d rfl rfl _ _ rfl rfl (some ⟨w11.heap.size, 0, none⟩) [x0] 1 rfl (rowsAt_box (S21.out.box 0 _ _ rfl)) (by simp; have := HZD.out; omega) ?_))
            intro A6 n6 c6 w12 hn6 h6
            have S77 := Lib.hid (show St w w12 [boxT w11.heap.size [.int .i64 x0], rowT 50 4 (.slice A9 l.length c9) (l.map rcC), rowT 3 1 (.slice A6 n6 c6) ((d ++ [x0]).map inC), boxT go (roL r (.slice A9 l.length c9) (.slice B9 d.length e9)), boxT (w.heap.size + 1 + 1) (roL 0 (.slice none 0 0) (.slice none 0 0)), boxT (w.heap.size + 1) (rdL x0 x1 x2 x3), boxT w.heap.size (roL r (.slice A l.length c) (.slice A2 d.length c2))] from by first | exact h6 | (rw [List.map_append]; exact h6))
            have HN6 := Lib.hid (show n6 = (d ++ [x0]).length by simpa using hn6)
            clear a0 a1 a2 al ai y0 y1 y2 y3 yl yi h6 hn6
            have S22 := Lib.hid (show St w _ [boxT go (roL r (.slice A9 l.length c9) (.slice B9 d.length e9)), rowT 50 4 (.slice A9 l.length c9) (l.map rcC), rowT 3 1 (.slice A6 n6 c6) ((d ++ [x0]).map inC), boxT (w.heap.size + 1 + 1) (roL 0 (.slice none 0 0) (.slice none 0 0)), boxT (w.heap.size + 1) (rdL x0 x1 x2 x3), boxT w.heap.size (roL r (.slice A l.length c) (.slice A2 d.length c2))] from S77.out.pick [3, 1, 2, 4, 5, 6] (by decide))
            clear S77
            obtain ⟨a0, a1, a2⟩ := (show Box _ _ (roL r (.slice A9 l.length c9) (.slice B9 d.length e9)) from S22.out.box 0 _ _ rfl).threeQ
            have al := (S22.out.box 0 _ _ rfl).lt
            have ai := (S22.out.box 0 _ _ rfl).ice
            have S23 := Lib.hid (show St w (w12.setCell ⟨go, 2, none⟩ (.slice A6 n6 c6)) [boxT go (roL r (.slice A9 l.length c9) (.slice A6 n6 c6)), rowT 50 4 (.slice A9 l.length c9) (l.map rcC), rowT 3 1 (.slice A6 n6 c6) ((d ++ [x0]).map inC), boxT (w.heap.size + 1 + 1) (roL 0 (.slice none 0 0) (.slice none 0 0)), boxT (w.heap.size + 1) (rdL x0 x1 x2 x3), boxT w.heap.size (roL r (.slice A l.length c) (.slice A2 d.length c2))] from S22.out.setBox 0 _ _ rfl 2 (by simp) (.slice A6 n6 c6))
            clear S22
            go_upto_region 11 with fail
            clear a0 a1 a2 al ai
            generalize w12.setCell ⟨go, 2, none⟩ (.slice A6 n6 c6) = w7 at *
            have HRZ := Lib.hid (show Calls Try.prog 97 #[roV r (.slice A9 l.length c9) (.slice A6 n6 c6)] w7 _ from by rw [HN6.out]; exact rcr_spec r A9 A6 l (d ++ [x0]) c9 c6 (by have := HZL.out; omega) (by have := HZT.out; omega) (by have := HZD.out; simp; omega) w7 (LsO.ats (OwnR.toO (S23.out.row 1 _ _ _ _ rfl))) (LsO.ats (OwnR.toO (S23.out.row 2 _ _ _ _ rfl))))
            obtain ⟨a0, a1, a2⟩ := (show Box _ _ (roL r (.slice A9 l.length c9) (.slice A6 n6 c6)) from S23.out.box 0 _ _ rfl).threeQ
            have al := (S23.out.box 0 _ _ rfl).lt
            have ai := (S23.out.box 0 _ _ rfl).ice
            go_wp2_with fail
            refine HRZ.out.mono ?_
            rintro e w8 ⟨rfl, hb⟩
            have S24 := Lib.hid (S23.out.more hb)
            clear S23
            clear a0 a1 a2 al ai hb HRZ
            by_cases hok : RcrOk r l (d ++ [x0])
            · have HK := Lib.hid (HKY2.out (by rw [HNN.out]; exact hok))
              rw [rcrB_yes hok]
              clear HKY2 HKB hok HCP hrl
              obtain ⟨b0, b1, b2⟩ := (show Box _ _ (roL r (.slice A9 l.length c9) (.slice A6 n6 c6)) from S24.out.box 0 _ _ rfl).threeQ
              have bl := (S24.out.box 0 _ _ rfl).lt
              have bi := (S24.out.box 0 _ _ rfl).ice
              obtain ⟨z0, z1, z2⟩ := (show Box _ _ (roL 0 (.slice none 0 0) (.slice none 0 0)) from S24.out.box 3 _ _ rfl).threeQ
              have zl := (S24.out.box 3 _ _ rfl).lt
              have zi := (S24.out.box 3 _ _ rfl).ice
              have S25 := Lib.hid (show St w (((w8.setCell ⟨(w.heap.size + 1 + 1), 0, none⟩ (.int .i64 r)).setCell ⟨(w.heap.size + 1 + 1), 1, none⟩ (.slice A9 l.length c9)).setCell ⟨(w.heap.size + 1 + 1), 2, none⟩ (.slice A6 n6 c6)) [boxT go (roL r (.slice A9 l.length c9) (.slice A6 n6 c6)), rowT 50 4 (.slice A9 l.length c9) (l.map rcC), rowT 3 1 (.slice A6 n6 c6) ((d ++ [x0]).map inC), boxT (w.heap.size + 1 + 1) (roL r (.slice A9 l.length c9) (.slice A6 n6 c6)), boxT (w.heap.size + 1) (rdL x0 x1 x2 x3), boxT w.heap.size (roL r (.slice A l.length c) (.slice A2 d.length c2))] from S24.out.setAll 3 _ _ rfl (roL r (.slice A9 l.length c9) (.slice A6 n6 c6)) rfl)
              go_wp2
              show bodyPost Try.prog Try.f37 _ Exit.ret _ ((((w8.setCell ⟨(w.heap.size + 1 + 1), 0, none⟩ (.int .i64 r)).setCell ⟨(w.heap.size + 1 + 1), 1, none⟩ (.slice A9 l.length c9)).setCell ⟨(w.heap.size + 1 + 1), 2, none⟩ (.slice A6 n6 c6)))
              obtain ⟨q0, q1, q2⟩ := (show Box _ _ (roL r (.slice A9 l.length c9) (.slice A6 n6 c6)) from S25.out.box 3 _ _ rfl).threeQ
              generalize (((w8.setCell ⟨(w.heap.size + 1 + 1), 0, none⟩ (.int .i64 r)).setCell ⟨(w.heap.size + 1 + 1), 1, none⟩ (.slice A9 l.length c9)).setCell ⟨(w.heap.size + 1 + 1), 2, none⟩ (.slice A6 n6 c6)) = WE at *
              refine bodyPost_ret_by (v := roV r (.slice A9 l.length c9) (.slice A6 n6 c6)) ?_ rfl ?_
              · simp [results, Try.f37, go_sem, q0, q1, q2]
              · rw [HK.out, HNN.out]
                have h6 := HN6.out; subst h6
                have hO := S25.out.ownRr r 1 2 rfl rfl (by decide)
                exact ⟨_, rfl, hO.1, hO.2, S25.out.below⟩
            · have HK := Lib.hid (HKB.out (by rw [HNN.out]; exact hok))
              rw [rcrB_no hok]
              clear HKY2 HKB hok hrl
              have S26 := Lib.hid (show St w _ [boxT (w.heap.size + 1 + 1) (roL 0 (.slice none 0 0) (.slice none 0 0)), boxT (w.heap.size + 1) (rdL x0 x1 x2 x3), boxT w.heap.size (roL r (.slice A l.length c) (.slice A2 d.length c2))] from S24.out.pick [3, 4, 5] (by decide))
              clear S24
              obtain ⟨k0, k1, k2⟩ := (show Box _ _ (roL r (.slice A l.length c) (.slice A2 d.length c2)) from S26.out.box 2 _ _ rfl).threeQ
              have kl := (S26.out.box 2 _ _ rfl).lt
              have ki := (S26.out.box 2 _ _ rfl).ice
              go_wp2_with fail
              refine (HCP.out _ S26.out.below).mono ?_
              rintro e w9 ⟨v, rfl, hp, hn, hb⟩
              obtain ⟨A7, c7, B7, e7, rfl⟩ := rrT.form hp
              have S27 := Lib.hid (S26.out.add (rrT (roV r (.slice A7 l.length c7) (.slice B7 d.length e7)) r l d) hb hp hn)
              clear S26
              have S28 := Lib.hid (show St w w9 [rowT 50 4 (.slice A7 l.length c7) (l.map rcC), rowT 3 1 (.slice B7 d.length e7) (d.map inC), boxT (w.heap.size + 1 + 1) (roL 0 (.slice none 0 0) (.slice none 0 0)), boxT (w.heap.size + 1) (rdL x0 x1 x2 x3), boxT w.heap.size (roL r (.slice A l.length c) (.slice A2 d.length c2))] from S27.out.splitR)
              clear S27 hp hn hb
              clear k0 k1 k2 kl ki
              obtain ⟨z0, z1, z2⟩ := (show Box _ _ (roL 0 (.slice none 0 0) (.slice none 0 0)) from S28.out.box 2 _ _ rfl).threeQ
              have zl := (S28.out.box 2 _ _ rfl).lt
              have zi := (S28.out.box 2 _ _ rfl).ice
              have S29 := Lib.hid (show St w (((w9.setCell ⟨(w.heap.size + 1 + 1), 0, none⟩ (.int .i64 r)).setCell ⟨(w.heap.size + 1 + 1), 1, none⟩ (.slice A7 l.length c7)).setCell ⟨(w.heap.size + 1 + 1), 2, none⟩ (.slice B7 d.length e7)) [rowT 50 4 (.slice A7 l.length c7) (l.map rcC), rowT 3 1 (.slice B7 d.length e7) (d.map inC), boxT (w.heap.size + 1 + 1) (roL r (.slice A7 l.length c7) (.slice B7 d.length e7)), boxT (w.heap.size + 1) (rdL x0 x1 x2 x3), boxT w.heap.size (roL r (.slice A l.length c) (.slice A2 d.length c2))] from S28.out.setAll 2 _ _ rfl (roL r (.slice A7 l.length c7) (.slice B7 d.length e7)) rfl)
              go_wp2
              show bodyPost Try.prog Try.f37 _ Exit.ret _ ((((w9.setCell ⟨(w.heap.size + 1 + 1), 0, none⟩ (.int .i64 r)).setCell ⟨(w.heap.size + 1 + 1), 1, none⟩ (.slice A7 l.length c7)).setCell ⟨(w.heap.size + 1 + 1), 2, none⟩ (.slice B7 d.length e7)))
              obtain ⟨q0, q1, q2⟩ := (show Box _ _ (roL r (.slice A7 l.length c7) (.slice B7 d.length e7)) from S29.out.box 2 _ _ rfl).threeQ
              generalize (((w9.setCell ⟨(w.heap.size + 1 + 1), 0, none⟩ (.int .i64 r)).setCell ⟨(w.heap.size + 1 + 1), 1, none⟩ (.slice A7 l.length c7)).setCell ⟨(w.heap.size + 1 + 1), 2, none⟩ (.slice B7 d.length e7)) = WE at *
              refine bodyPost_ret_by (v := roV r (.slice A7 l.length c7) (.slice B7 d.length e7)) ?_ rfl ?_
              · simp [results, Try.f37, go_sem, q0, q1, q2]
              · rw [HK.out]
                have hO := S29.out.ownRr r 0 1 rfl rfl (by decide)
                exact ⟨_, rfl, hO.1, hO.2, S29.out.below⟩
          · obtain ⟨hle, hbl, hk2, hl2, ht2⟩ := kpGo_lsB (p := x1) (n := r - (N : Int)) (l := l') (d := d') (by have := HGO.out; omega) hls
            have HK2 := Lib.hid (hk2.symm.trans HK.out)
            have HLE2 := Lib.hid hl2
            have HTT2 := Lib.hid ht2
            rw [hle] at HLS
            have hcr := ((OwnR.toO (S15.out.row 1 _ _ _ _ rfl)).cap _ _ _ rfl)
            obtain ⟨bb, off, hAR, hbb, hc⟩ := rcCellsI (b := 0) (off := 0) (LsO.ats (OwnR.toO (S15.out.row 1 _ _ _ _ rfl))) (by omega)
            subst hAR
            have hblt1 : decide (loB l' l'.length < l'.length) = true := by simpa using hbl
            have hblt2 : decide (((loB l' l'.length : Nat) : Int) < (l'.length : Int)) = true := by simp; omega
            have hb00 : decide (((loB l' l'.length : Nat) : Int) < 0) = false := by simp
            have HC := Lib.hid (fun W (hl : LsI 4 W W.heap.size (some ⟨bb, off, none⟩) (l'.map rcC)) => (show W.cell? ⟨bb, off + loB l' l'.length * 4, none⟩ = some (.int .i64 l'[loB l' l'.length].1) from by obtain ⟨b2, o2, e2, _, hc2⟩ := rcCellsI (b := 0) (off := 0) hl (by omega); injection e2 with e2; injection e2 with e3 e4; subst e3; subst e4; exact (hc2 _ hbl).1))
            clear hc hk2 hl2 ht2 hle hls HNO HYE HGO HK HSU
            generalize l'[loB l' l'.length].1 = yid at *
            generalize loB l' l'.length = b at *
            have sHD := fun W => head_rcs (some ⟨bb, off, none⟩) l'.length cr b (by omega) W
            have sTL := fun W => cut_rcs (some ⟨bb, off, none⟩) l'.length cr (b + 1) (by omega) W
            rw [show ((b + 1 : Nat) : Int) = (b : Int) + 1 by omega] at sTL
            have wk0 : IntKind.i64.wrap ((b : Int) + 1) = (b : Int) + 1 ∧ wrap64 ((b : Int) + 1) = (b : Int) + 1 := ⟨IntWalk.i64_in _ (by omega), by unfold wrap64; omega⟩
            have WK := Lib.hid wk0
            clear wk0
            go_wp2_with fail
            refine HLS.out.mono ?_
            rintro e w6 ⟨rfl, hb⟩
            have S30 := Lib.hid (S15.out.more hb)
            clear S15
            clear a0 a1 a2 al ai y0 y1 y2 y3 yl yi hb HLS
            obtain ⟨a0, a1, a2⟩ := (show Box _ _ (roL r (.slice (some ⟨bb, off, none⟩) l'.length cr) (.slice AX d'.length cx)) from S30.out.box 0 _ _ rfl).threeQ
            have al := (S30.out.box 0 _ _ rfl).lt
            have ai := (S30.out.box 0 _ _ rfl).ice
            go_upto_region 14 with fail
            clear a0 a1 a2 al ai
            go_cut [] from 73 to 83 (fun wx => ∃ (A9 : Option Addr) (n9 c9 : Nat), n9 = (d' ++ [yid]).length ∧ St w wx [boxT go (roL r (.slice (some ⟨bb, off, none⟩) l'.length cr) (.slice A9 n9 c9)), rowT 50 4 (.slice (some ⟨bb, off, none⟩) l'.length cr) (l'.map rcC), rowT 3 1 (.slice A9 n9 c9) ((d' ++ [yid]).map inC), boxT (w.heap.size + 1 + 1) (roL 0 (.slice none 0 0) (.slice none 0 0)), boxT (w.heap.size + 1) (rdL x0 x1 x2 x3), boxT w.heap.size (roL r (.slice A l.length c) (.slice A2 d.length c2))])
            case first =>
              clear HCP HKB HKY2 HLE2 HTT2 HK2 WK sHD sTL hrl HZL HZD HZT
              obtain ⟨a0, a1, a2⟩ := (show Box _ _ (roL r (.slice (some ⟨bb, off, none⟩) l'.length cr) (.slice AX d'.length cx)) from S30.out.box 0 _ _ rfl).threeQ
              have al := (S30.out.box 0 _ _ rfl).lt
              have ai := (S30.out.box 0 _ _ rfl).ice
              have e0 := HC.out _ (LsO.ats (OwnR.toO (S30.out.row 1 _ _ _ _ rfl)))
              have S31 := Lib.hid (S30.out.made [.int .i64 yid] 3)
              have S32 := Lib.hid (S31.out.drew)
              clear S31
              obtain ⟨d0, d1, d2⟩ := (show Box _ _ (roL r (.slice (some ⟨bb, off, none⟩) l'.length cr) (.slice AX d'.length cx)) from S32.out.box 1 _ _ rfl).threeQ
              have dl := (S32.out.box 1 _ _ rfl).lt
              have di := (S32.out.box 1 _ _ rfl).ice
              have f0 := HC.out _ (LsO.ats (OwnR.toO (S32.out.row 2 _ _ _ _ rfl)))
              have hdl : d'.length + [yid].length ≤ 1099511 := by simp; omega
              clear HC
              go_region_law ((refine step_ins S32.out 3 _ d' rfl rfl _ _ rfl rfl (some ⟨w6.heap.size, 0, none⟩) [yid] 1 rfl (rowsAt_box (S32.out.box 0 _ _ rfl)) hdl ?_; intro A9 n9 c9 w9 hn9 h9; have HN9 := Lib.hid hn9; clear hn9; have S9 := Lib.hid h9; obtain ⟨g0, g1, g2⟩ := (show Box _ _ (roL r (.slice (some ⟨bb, off, none⟩) l'.length cr) (.slice AX d'.length cx)) from S9.out.box 1 _ _ rfl).threeQ; have gi := (S9.out.box 1 _ _ rfl).ice))
              all_goals
                have S93 := Lib.hid (show St w w9 [boxT w6.heap.size [.int .i64 yid], boxT go (roL r (.slice (some ⟨bb, off, none⟩) l'.length cr) (.slice AX d'.length cx)), rowT 50 4 (.slice (some ⟨bb, off, none⟩) l'.length cr) (l'.map rcC), rowT 3 1 (.slice A9 n9 c9) ((d' ++ [yid]).map inC), boxT (w.heap.size + 1 + 1) (roL 0 (.slice none 0 0) (.slice none 0 0)), boxT (w.heap.size + 1) (rdL x0 x1 x2 x3), boxT w.heap.size (roL r (.slice A l.length c) (.slice A2 d.length c2))] from by first | exact h9 | (rw [List.map_append]; exact h9))
                have S33 := Lib.hid (show St w _ [boxT go (roL r (.slice (some ⟨bb, off, none⟩) l'.length cr) (.slice AX d'.length cx)), rowT 50 4 (.slice (some ⟨bb, off, none⟩) l'.length cr) (l'.map rcC), rowT 3 1 (.slice A9 n9 c9) ((d' ++ [yid]).map inC), boxT (w.heap.size + 1 + 1) (roL 0 (.slice none 0 0) (.slice none 0 0)), boxT (w.heap.size + 1) (rdL x0 x1 x2 x3), boxT w.heap.size (roL r (.slice A l.length c) (.slice A2 d.length c2))] from S93.out.pick [1, 2, 3, 4, 5, 6] (by decide))
                have S34 := Lib.hid (show St w (w9.setCell ⟨go, 2, none⟩ (.slice A9 n9 c9)) [boxT go (roL r (.slice (some ⟨bb, off, none⟩) l'.length cr) (.slice A9 n9 c9)), rowT 50 4 (.slice (some ⟨bb, off, none⟩) l'.length cr) (l'.map rcC), rowT 3 1 (.slice A9 n9 c9) ((d' ++ [yid]).map inC), boxT (w.heap.size + 1 + 1) (roL 0 (.slice none 0 0) (.slice none 0 0)), boxT (w.heap.size + 1) (rdL x0 x1 x2 x3), boxT w.heap.size (roL r (.slice A l.length c) (.slice A2 d.length c2))] from S33.out.setBox 0 _ _ rfl 2 (by simp) (.slice A9 n9 c9))
                go_wp2_with fail
                go_meet
                exact ⟨A9, n9, c9, by simpa using HN9.out, S34.out⟩
            case rest =>
              obtain ⟨A9, n9, c9, hn9, hT⟩ := hcut
              have HN9 := Lib.hid hn9
              generalize wc = w10 at *
              have S94 := Lib.hid hT
              clear hT hn9 HC S30
              go_upto_region 15 with fail
              clear HCP HKB HKY2 hrl HZL HZD HZT hl6 ht4 hd6 hx34 hsl2 hb00 hblt1 hblt2
              obtain ⟨a0, a1, a2⟩ := (show Box _ _ (roL r (.slice (some ⟨bb, off, none⟩) l'.length cr) (.slice A9 n9 c9)) from S94.out.box 0 _ _ rfl).threeQ
              have al := (S94.out.box 0 _ _ rfl).lt
              have ai := (S94.out.box 0 _ _ rfl).ice
              have S35 := Lib.hid (S94.out.lit 50 4)
              have S36 := Lib.hid (S35.out.drew)
              clear S35
              obtain ⟨d0, d1, d2⟩ := (show Box _ _ (roL r (.slice (some ⟨bb, off, none⟩) l'.length cr) (.slice A9 n9 c9)) from S36.out.box 1 _ _ rfl).threeQ
              have dl := (S36.out.box 1 _ _ rfl).lt
              have di := (S36.out.box 1 _ _ rfl).ice
              have hRI := (LsO.ats (OwnR.toO (S36.out.row 2 _ _ _ _ rfl)))
              have HTR := Lib.hid (fun W (hl : LsI 4 W W.heap.size (some ⟨bb, off, none⟩) (l'.map rcC)) => (show RowsAt W (some ⟨bb, off, none⟩) ((l'.take b).map rcC) from by rw [List.map_take]; exact (hl.take b).rows (fun x hx => rc_len l' x (List.mem_of_mem_take hx))))
              obtain ⟨AT, hAT⟩ : ∃ AT, (if cr = b + 1 then (some ⟨bb, off, none⟩ : Option Addr) else (some ⟨bb, off, none⟩ : Option Addr).map (·.add ((b + 1) * 4))) = AT := ⟨_, rfl⟩
              simp only [hAT] at sTL
              have HTD := Lib.hid (fun W (hl : LsI 4 W W.heap.size (some ⟨bb, off, none⟩) (l'.map rcC)) => (show RowsAt W AT ((l'.drop (b + 1)).map rcC) from by rw [List.map_drop, ← hAT]; exact (hl.drop (b + 1) cr (by rw [List.length_map]; exact hcr)).rows (fun x hx => rc_len l' x (List.mem_of_mem_drop hx))))
              clear hAT
              have hTL : (l'.take b).length = b := by rw [List.length_take]; omega
              have hDL : (l'.drop (b + 1)).length = l'.length - (b + 1) := by rw [List.length_drop]
              have HTL := Lib.hid hTL
              have HDL := Lib.hid hDL
              clear hTL hDL
              have HR1 := Lib.hid (HTR.out _ hRI)
              clear hRI HTR
              have hLA : ([] : List Rc).length + (l'.take b).length ≤ 1099511 := by rw [HTL.out]; simp; omega
              have hLB : ([] ++ l'.take b).length + (l'.drop (b + 1)).length ≤ 1099511 := by rw [HDL.out, List.nil_append, HTL.out]; omega
              have HLA := Lib.hid hLA
              have HLB := Lib.hid hLB
              clear hLA hLB
              obtain ⟨wk, wk'⟩ := WK.out
              clear WK
              go_region_law ((first | (refine step_rcs S36.out 0 _ [] rfl rfl _ _ rfl rfl (some ⟨bb, off, none⟩) (l'.take b) cr (by rw [HTL.out]; rfl) HR1.out HLA.out ?_; intro A11 n11 c11 w11 hn11 h11; have HN11 := Lib.hid hn11; clear hn11; have S11 := Lib.hid h11; obtain ⟨g0, g1, g2⟩ := (show Box _ _ (roL r (.slice (some ⟨bb, off, none⟩) l'.length cr) (.slice A9 n9 c9)) from S11.out.box 1 _ _ rfl).threeQ; have gi := (S11.out.box 1 _ _ rfl).ice) | (refine step_rcs S11.out 0 _ ([] ++ l'.take b) rfl rfl _ _ rfl rfl AT (l'.drop (b + 1)) (cr - (b + 1)) (by rw [HDL.out]; rfl) (HTD.out _ (LsO.ats (OwnR.toO (S11.out.row 2 _ _ _ _ rfl)))) HLB.out ?_; intro A13 n13 c13 w13 hn13 h13; have HN13 := Lib.hid hn13; clear hn13; have S13 := Lib.hid h13; obtain ⟨j0, j1, j2⟩ := (show Box _ _ (roL r (.slice (some ⟨bb, off, none⟩) l'.length cr) (.slice A9 n9 c9)) from S13.out.box 1 _ _ rfl).threeQ; have ji := (S13.out.box 1 _ _ rfl).ice)))
              all_goals
                have S95 := Lib.hid (show St w w13 [rowT 50 4 (.slice A13 n13 c13) ((l'.eraseIdx b).map rcC), boxT go (roL r (.slice (some ⟨bb, off, none⟩) l'.length cr) (.slice A9 n9 c9)), rowT 50 4 (.slice (some ⟨bb, off, none⟩) l'.length cr) (l'.map rcC), rowT 3 1 (.slice A9 n9 c9) ((d' ++ [yid]).map inC), boxT (w.heap.size + 1 + 1) (roL 0 (.slice none 0 0) (.slice none 0 0)), boxT (w.heap.size + 1) (rdL x0 x1 x2 x3), boxT w.heap.size (roL r (.slice A l.length c) (.slice A2 d.length c2))] from by rw [List.eraseIdx_eq_take_drop_succ]; exact S13.out)
                have HNE := Lib.hid (show n13 = (l'.eraseIdx b).length by rw [List.eraseIdx_eq_take_drop_succ]; exact HN13.out)
                clear S13 S11 h11 h13 S36 S94
                clear a0 a1 a2 al ai d0 d1 d2 dl di HLA HLB g0 g1 g2 gi j0 j1 j2 ji sHD sTL HTD HR1 HTL HDL wk wk'
                have S37 := Lib.hid (show St w _ [boxT go (roL r (.slice (some ⟨bb, off, none⟩) l'.length cr) (.slice A9 n9 c9)), rowT 50 4 (.slice A13 n13 c13) ((l'.eraseIdx b).map rcC), rowT 3 1 (.slice A9 n9 c9) ((d' ++ [yid]).map inC), boxT (w.heap.size + 1 + 1) (roL 0 (.slice none 0 0) (.slice none 0 0)), boxT (w.heap.size + 1) (rdL x0 x1 x2 x3), boxT w.heap.size (roL r (.slice A l.length c) (.slice A2 d.length c2))] from S95.out.pick [1, 0, 3, 4, 5, 6] (by decide))
                clear S95
                have S38 := Lib.hid (show St w (w13.setCell ⟨go, 1, none⟩ (.slice A13 n13 c13)) [boxT go (roL r (.slice A13 n13 c13) (.slice A9 n9 c9)), rowT 50 4 (.slice A13 n13 c13) ((l'.eraseIdx b).map rcC), rowT 3 1 (.slice A9 n9 c9) ((d' ++ [yid]).map inC), boxT (w.heap.size + 1 + 1) (roL 0 (.slice none 0 0) (.slice none 0 0)), boxT (w.heap.size + 1) (rdL x0 x1 x2 x3), boxT w.heap.size (roL r (.slice A l.length c) (.slice A2 d.length c2))] from S37.out.setBox 0 _ _ rfl 1 (by simp) (.slice A13 n13 c13))
                go_wp2
                go_roundg ((l'.eraseIdx b).length + 1)
                case measure => have := HLE2.out; omega
                case rel =>
                  have h9 : n9 = (d' ++ [yid]).length := HN9.out
                  have h13 := HNE.out
                  subst h9 h13
                  exact ⟨l'.eraseIdx b, d' ++ [yid], A13, c13, A9, c9, rfl, HK2.out, ⟨by have := HLE2.out; omega, by have := HTT2.out; omega, by rw [List.length_append]; have := HLE2.out; simp; omega⟩, S38.out⟩
end Go.Proofs.Ytckofkdeedbbgaa
