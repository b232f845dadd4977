/- What this text proves: the contract of the model's TakeCommand. -/
import Derived.Test.YtmmedhjmilgnbaaDoorTcM
namespace Go.Proofs.YtmmedhjmilgnbaaDoor
open Go.ChangeShapes Go.WideShapes Go.ChangeAt Go.RowKit
set_option linter.unusedVariables false

set_option maxHeartbeats 4000000 in
theorem take_spec_bad (x : Int) (p q : Bool) (t : Int) (s : ByteArray) (hs : s.size ≤ 1048576) (w : World) (k n : Int) (d : ByteArray) (b : Bool) (hd : decC s = (k, n, d, b)) (rb : Bool) (hrb : decide (RcOk x t) = rb) (h : ¬ (b = true ∧ RcOk x t)) :
    Calls Tryd.prog 20 #[rcV x p q t, .string s] w fun e w' => e = retT (tkC x p q t s) ∧ Below w.heap.size w w' := by
  have P0 := RP.start w x p q t
  have HV := Lib.hid (tkC_bad (p := p) (q := q) hd h)
  have hd0 := decC_spec s hs
  have hr0 := ro_spec x p q t
  rw [hrb] at hr0
  simp only [hd, retC] at hd0
  have hbr : (b && rb) = false := by
    cases b with
    | false => rfl
    | true => rw [← hrb]; simpa using fun hr => h ⟨rfl, hr⟩
  clear hd h hrb
  have HD := Lib.hid hd0
  have HR := Lib.hid hr0
  clear hd0 hr0
  go_enter Tryd.func20, Tryd.ntmps20
  go_wp2_with fail
  refine (HD.out _).mono ?_
  rintro e w1 ⟨rfl, hb1⟩
  have P1 := Lib.hid (P0.more hb1)
  clear hb1 P0
  obtain ⟨k0, k1, k2, k3⟩ := P1.out.b2.fourR
  go_wp2_with fail
  refine (HR.out _).mono ?_
  rintro e w2 ⟨rfl, hb2⟩
  have P2 := Lib.hid (P1.out.more hb2)
  clear hb2 k0 k1 k2 k3 P1
  cases rb with
  | false =>
    obtain ⟨k0, k1, k2, k3⟩ := P2.out.b2.fourR
    obtain ⟨r0, r1, r2, r3⟩ := P2.out.b4.fourR
    have ri := P2.out.b4.ice
    have BF := Lib.hid (P2.out.fin rfl)
    go_wp2
    show bodyPost Tryd.prog Tryd.f20 _ Exit.ret _ (World.setCells _ (w.heap.size + 1) 0 (rcL x p q t))
    generalize World.setCells _ (w.heap.size + 1) 0 (rcL x p q t) = WE at *
    obtain ⟨c0, c1, c2, c3⟩ := BF.out.2.fourR
    refine bodyPost_ret_by (v := .tuple #[rcV x p q t, .string ⟨#[]⟩, .bool false]) ?_ rfl ⟨by rw [HV.out]; rfl, BF.out.1⟩
    simp [results, Tryd.f20, go_sem, c0, c1, c2, c3]
  | true =>
    cases b with
    | true => cases hbr
    | false =>
      obtain ⟨k0, k1, k2, k3⟩ := P2.out.b2.fourR
      obtain ⟨r0, r1, r2, r3⟩ := P2.out.b4.fourR
      have ri := P2.out.b4.ice
      have BF := Lib.hid (P2.out.fin rfl)
      go_wp2
      show bodyPost Tryd.prog Tryd.f20 _ Exit.ret _ (World.setCells _ (w.heap.size + 1) 0 (rcL x p q t))
      generalize World.setCells _ (w.heap.size + 1) 0 (rcL x p q t) = WE at *
      obtain ⟨c0, c1, c2, c3⟩ := BF.out.2.fourR
      refine bodyPost_ret_by (v := .tuple #[rcV x p q t, .string ⟨#[]⟩, .bool false]) ?_ rfl ⟨by rw [HV.out]; rfl, BF.out.1⟩
      simp [results, Tryd.f20, go_sem, c0, c1, c2, c3]

set_option maxHeartbeats 4000000 in
theorem take_spec_unlock (x : Int) (p q : Bool) (t : Int) (s : ByteArray) (hs : s.size ≤ 1048576) (w : World) (n : Int) (d : ByteArray) (hd : decC s = (1, n, d, true)) (h : RcOk x t) :
    Calls Tryd.prog 20 #[rcV x p q t, .string s] w fun e w' => e = retT (tkC x p q t s) ∧ Below w.heap.size w w' := by
  have P0 := RP.start w x p q t
  have HV := Lib.hid (tkC_unlock (p := p) (q := q) hd h)
  have hd0 := decC_spec s hs
  have hr0 := ro_spec x p q t
  rw [decide_eq_true h] at hr0
  simp only [hd, retC] at hd0
  clear hd h
  have HD := Lib.hid hd0
  have HR := Lib.hid hr0
  clear hd0 hr0
  go_enter Tryd.func20, Tryd.ntmps20
  go_wp2_with fail
  refine (HD.out _).mono ?_
  rintro e w1 ⟨rfl, hb1⟩
  have P1 := Lib.hid (P0.more hb1)
  clear hb1 P0
  obtain ⟨k0, k1, k2, k3⟩ := P1.out.b2.fourR
  go_wp2_with fail
  refine (HR.out _).mono ?_
  rintro e w2 ⟨rfl, hb2⟩
  have P2 := Lib.hid (P1.out.more hb2)
  clear hb2 k0 k1 k2 k3 P1
  have P3 := Lib.hid (show RP w _ (rcL x false q t) from P2.out.set 1 (by simp) (.bool false))
  obtain ⟨f30, f31, f32, f33⟩ := P2.out.b2.fourR
  have fi3 := P2.out.b2.ice
  have P4 := Lib.hid (show RP w _ (rcL x false false t) from P3.out.set 2 (by simp) (.bool false))
  obtain ⟨f40, f41, f42, f43⟩ := P3.out.b2.fourR
  have fi4 := P3.out.b2.ice
  obtain ⟨k0, k1, k2, k3⟩ := P4.out.b2.fourR
  obtain ⟨r0, r1, r2, r3⟩ := P4.out.b4.fourR
  have ri := P4.out.b4.ice
  have BF := Lib.hid (P4.out.fin rfl)
  go_wp2
  show bodyPost Tryd.prog Tryd.f20 _ Exit.ret _ (World.setCells _ (w.heap.size + 1) 0 (rcL x false false t))
  generalize World.setCells _ (w.heap.size + 1) 0 (rcL x false false t) = WE at *
  obtain ⟨c0, c1, c2, c3⟩ := BF.out.2.fourR
  refine bodyPost_ret_by (v := .tuple #[rcV x false false t, .string ⟨#[]⟩, .bool false]) ?_ rfl ⟨by rw [HV.out]; rfl, BF.out.1⟩
  simp [results, Tryd.f20, go_sem, c0, c1, c2, c3]

set_option maxHeartbeats 4000000 in
theorem take_spec_locked (x : Int) (p q : Bool) (t : Int) (s : ByteArray) (hs : s.size ≤ 1048576) (w : World) (n : Int) (d : ByteArray) (hd : decC s = (0, n, d, true)) (h : RcOk x t) (hp : p = true) :
    Calls Tryd.prog 20 #[rcV x p q t, .string s] w fun e w' => e = retT (tkC x p q t s) ∧ Below w.heap.size w w' := by
  have P0 := RP.start w x p q t
  subst hp
  have HV := Lib.hid ((tkC_data (p := true) (q := q) hd h).trans (tkD_locked))
  have hd0 := decC_spec s hs
  have hr0 := ro_spec x true q t
  rw [decide_eq_true h] at hr0
  simp only [hd, retC] at hd0
  obtain ⟨hn0, hn1⟩ := (decC_ok hd).1.2.1
  obtain ⟨⟨x0, x1⟩, t0, t1⟩ := h
  clear hd
  have HD := Lib.hid hd0
  have HR := Lib.hid hr0
  clear hd0 hr0
  go_enter Tryd.func20, Tryd.ntmps20
  go_wp2_with fail
  refine (HD.out _).mono ?_
  rintro e w1 ⟨rfl, hb1⟩
  have P1 := Lib.hid (P0.more hb1)
  clear hb1 P0
  obtain ⟨k0, k1, k2, k3⟩ := P1.out.b2.fourR
  go_wp2_with fail
  refine (HR.out _).mono ?_
  rintro e w2 ⟨rfl, hb2⟩
  have P2 := Lib.hid (P1.out.more hb2)
  clear hb2 k0 k1 k2 k3 P1
  obtain ⟨k0, k1, k2, k3⟩ := P2.out.b2.fourR
  obtain ⟨r0, r1, r2, r3⟩ := P2.out.b4.fourR
  have ri := P2.out.b4.ice
  have BF := Lib.hid (P2.out.fin rfl)
  go_wp2
  show bodyPost Tryd.prog Tryd.f20 _ Exit.ret _ (World.setCells _ (w.heap.size + 1) 0 (rcL x true q t))
  generalize World.setCells _ (w.heap.size + 1) 0 (rcL x true q t) = WE at *
  obtain ⟨c0, c1, c2, c3⟩ := BF.out.2.fourR
  refine bodyPost_ret_by (v := .tuple #[rcV x true q t, .string ⟨#[]⟩, .bool false]) ?_ rfl ⟨by rw [HV.out]; rfl, BF.out.1⟩
  simp [results, Tryd.f20, go_sem, c0, c1, c2, c3]

set_option maxHeartbeats 4000000 in
theorem take_spec_take (x : Int) (p q : Bool) (t : Int) (s : ByteArray) (hs : s.size ≤ 1048576) (w : World) (n : Int) (d : ByteArray) (hd : decC s = (0, n, d, true)) (h : RcOk x t) (hp : p = false) (h1 : (n - x) % 256 = 0 ∧ t < 1000000) :
    Calls Tryd.prog 20 #[rcV x p q t, .string s] w fun e w' => e = retT (tkC x p q t s) ∧ Below w.heap.size w w' := by
  have P0 := RP.start w x p q t
  subst hp
  have HV := Lib.hid ((tkC_data (p := false) (q := q) hd h).trans (tkD_take h1))
  have hd0 := decC_spec s hs
  have hr0 := ro_spec x false q t
  rw [decide_eq_true h] at hr0
  simp only [hd, retC] at hd0
  obtain ⟨hn0, hn1⟩ := (decC_ok hd).1.2.1
  obtain ⟨⟨x0, x1⟩, t0, t1⟩ := h
  clear hd
  have e1 : (n - x) % 256 = 0 := h1.1
  have e2 : decide (t < 1000000) = true := by simpa using h1.2
  have e3 : t ≤ 999999 := by have := h1.2; omega
  clear h1
  have HD := Lib.hid hd0
  have HR := Lib.hid hr0
  clear hd0 hr0
  go_enter Tryd.func20, Tryd.ntmps20
  go_wp2_with fail
  refine (HD.out _).mono ?_
  rintro e w1 ⟨rfl, hb1⟩
  have P1 := Lib.hid (P0.more hb1)
  clear hb1 P0
  obtain ⟨k0, k1, k2, k3⟩ := P1.out.b2.fourR
  go_wp2_with fail
  refine (HR.out _).mono ?_
  rintro e w2 ⟨rfl, hb2⟩
  have P2 := Lib.hid (P1.out.more hb2)
  clear hb2 k0 k1 k2 k3 P1
  have P3 := Lib.hid (show RP w _ (rcL ((x + 1) % 256) false q t) from P2.out.set 0 (by simp) (.int .i64 ((x + 1) % 256)))
  obtain ⟨f30, f31, f32, f33⟩ := P2.out.b2.fourR
  have fi3 := P2.out.b2.ice
  have P4 := Lib.hid (show RP w _ (rcL ((x + 1) % 256) false q (t + 1)) from P3.out.set 3 (by simp) (.int .i64 (t + 1)))
  obtain ⟨f40, f41, f42, f43⟩ := P3.out.b2.fourR
  have fi4 := P3.out.b2.ice
  have P5 := Lib.hid (show RP w _ (rcL ((x + 1) % 256) false false (t + 1)) from P4.out.set 2 (by simp) (.bool false))
  obtain ⟨f50, f51, f52, f53⟩ := P4.out.b2.fourR
  have fi5 := P4.out.b2.ice
  obtain ⟨k0, k1, k2, k3⟩ := P5.out.b2.fourR
  obtain ⟨r0, r1, r2, r3⟩ := P5.out.b4.fourR
  have ri := P5.out.b4.ice
  have BF := Lib.hid (P5.out.fin rfl)
  go_wp2
  show bodyPost Tryd.prog Tryd.f20 _ Exit.ret _ (World.setCells _ (w.heap.size + 1) 0 (rcL ((x + 1) % 256) false false (t + 1)))
  generalize World.setCells _ (w.heap.size + 1) 0 (rcL ((x + 1) % 256) false false (t + 1)) = WE at *
  obtain ⟨c0, c1, c2, c3⟩ := BF.out.2.fourR
  refine bodyPost_ret_by (v := .tuple #[rcV ((x + 1) % 256) false false (t + 1), .string d, .bool true]) ?_ rfl ⟨by rw [HV.out]; rfl, BF.out.1⟩
  simp [results, Tryd.f20, go_sem, c0, c1, c2, c3]

set_option maxHeartbeats 4000000 in
theorem take_spec_again (x : Int) (p q : Bool) (t : Int) (s : ByteArray) (hs : s.size ≤ 1048576) (w : World) (n : Int) (d : ByteArray) (hd : decC s = (0, n, d, true)) (h : RcOk x t) (hp : p = false) (h1 : 1 ≤ (n - x) % 256 ∧ (n - x) % 256 ≤ 40) :
    Calls Tryd.prog 20 #[rcV x p q t, .string s] w fun e w' => e = retT (tkC x p q t s) ∧ Below w.heap.size w w' := by
  have P0 := RP.start w x p q t
  subst hp
  have HV := Lib.hid ((tkC_data (p := false) (q := q) hd h).trans (tkD_again h1))
  have hd0 := decC_spec s hs
  have hr0 := ro_spec x false q t
  rw [decide_eq_true h] at hr0
  simp only [hd, retC] at hd0
  obtain ⟨hn0, hn1⟩ := (decC_ok hd).1.2.1
  obtain ⟨⟨x0, x1⟩, t0, t1⟩ := h
  clear hd
  have hdz : 0 ≤ (n - x) % 256 := by omega
  have hdw : (n - x) % 256 ≤ 255 := by omega
  have HI1 := Lib.hid (in_yes ((n - x) % 256) 1 40 h1.1 h1.2)
  have hz : ((n - x) % 256 == 0) = false := by simp; omega
  clear h1
  have HD := Lib.hid hd0
  have HR := Lib.hid hr0
  clear hd0 hr0
  go_enter Tryd.func20, Tryd.ntmps20
  go_wp2_with fail
  refine (HD.out _).mono ?_
  rintro e w1 ⟨rfl, hb1⟩
  have P1 := Lib.hid (P0.more hb1)
  clear hb1 P0
  obtain ⟨k0, k1, k2, k3⟩ := P1.out.b2.fourR
  go_wp2_with fail
  refine (HR.out _).mono ?_
  rintro e w2 ⟨rfl, hb2⟩
  have P2 := Lib.hid (P1.out.more hb2)
  clear hb2 k0 k1 k2 k3 P1
  obtain ⟨k0, k1, k2, k3⟩ := P2.out.b2.fourR
  go_wp2_with fail
  refine (HI1.out _).mono ?_
  rintro e w' ⟨rfl, rfl⟩
  clear k0 k1 k2 k3
  have P3 := Lib.hid (show RP w _ (rcL x false true t) from P2.out.set 2 (by simp) (.bool true))
  obtain ⟨f30, f31, f32, f33⟩ := P2.out.b2.fourR
  have fi3 := P2.out.b2.ice
  obtain ⟨k0, k1, k2, k3⟩ := P3.out.b2.fourR
  obtain ⟨r0, r1, r2, r3⟩ := P3.out.b4.fourR
  have ri := P3.out.b4.ice
  have BF := Lib.hid (P3.out.fin rfl)
  go_wp2
  show bodyPost Tryd.prog Tryd.f20 _ Exit.ret _ (World.setCells _ (w.heap.size + 1) 0 (rcL x false true t))
  generalize World.setCells _ (w.heap.size + 1) 0 (rcL x false true t) = WE at *
  obtain ⟨c0, c1, c2, c3⟩ := BF.out.2.fourR
  refine bodyPost_ret_by (v := .tuple #[rcV x false true t, .string ⟨#[]⟩, .bool false]) ?_ rfl ⟨by rw [HV.out]; rfl, BF.out.1⟩
  simp [results, Tryd.f20, go_sem, c0, c1, c2, c3]

set_option maxHeartbeats 4000000 in
theorem take_spec_lock (x : Int) (p q : Bool) (t : Int) (s : ByteArray) (hs : s.size ≤ 1048576) (w : World) (n : Int) (d : ByteArray) (hd : decC s = (0, n, d, true)) (h : RcOk x t) (hp : p = false) (h1 : 41 ≤ (n - x) % 256 ∧ (n - x) % 256 ≤ 215) :
    Calls Tryd.prog 20 #[rcV x p q t, .string s] w fun e w' => e = retT (tkC x p q t s) ∧ Below w.heap.size w w' := by
  have P0 := RP.start w x p q t
  subst hp
  have HV := Lib.hid ((tkC_data (p := false) (q := q) hd h).trans (tkD_lock h1))
  have hd0 := decC_spec s hs
  have hr0 := ro_spec x false q t
  rw [decide_eq_true h] at hr0
  simp only [hd, retC] at hd0
  obtain ⟨hn0, hn1⟩ := (decC_ok hd).1.2.1
  obtain ⟨⟨x0, x1⟩, t0, t1⟩ := h
  clear hd
  have hdz : 0 ≤ (n - x) % 256 := by omega
  have hdw : (n - x) % 256 ≤ 255 := by omega
  have HI1 := Lib.hid (in_no ((n - x) % 256) 1 40 (fun h => by omega))
  have HI2 := Lib.hid (in_yes ((n - x) % 256) 41 215 h1.1 h1.2)
  have hz : ((n - x) % 256 == 0) = false := by simp; omega
  clear h1
  have HD := Lib.hid hd0
  have HR := Lib.hid hr0
  clear hd0 hr0
  go_enter Tryd.func20, Tryd.ntmps20
  go_wp2_with fail
  refine (HD.out _).mono ?_
  rintro e w1 ⟨rfl, hb1⟩
  have P1 := Lib.hid (P0.more hb1)
  clear hb1 P0
  obtain ⟨k0, k1, k2, k3⟩ := P1.out.b2.fourR
  go_wp2_with fail
  refine (HR.out _).mono ?_
  rintro e w2 ⟨rfl, hb2⟩
  have P2 := Lib.hid (P1.out.more hb2)
  clear hb2 k0 k1 k2 k3 P1
  obtain ⟨k0, k1, k2, k3⟩ := P2.out.b2.fourR
  go_wp2_with fail
  refine (HI1.out _).mono ?_
  rintro e w' ⟨rfl, rfl⟩
  go_wp2_with fail
  refine (HI2.out _).mono ?_
  rintro e w' ⟨rfl, rfl⟩
  clear k0 k1 k2 k3
  have P3 := Lib.hid (show RP w _ (rcL x true q t) from P2.out.set 1 (by simp) (.bool true))
  obtain ⟨f30, f31, f32, f33⟩ := P2.out.b2.fourR
  have fi3 := P2.out.b2.ice
  obtain ⟨k0, k1, k2, k3⟩ := P3.out.b2.fourR
  obtain ⟨r0, r1, r2, r3⟩ := P3.out.b4.fourR
  have ri := P3.out.b4.ice
  have BF := Lib.hid (P3.out.fin rfl)
  go_wp2
  show bodyPost Tryd.prog Tryd.f20 _ Exit.ret _ (World.setCells _ (w.heap.size + 1) 0 (rcL x true q t))
  generalize World.setCells _ (w.heap.size + 1) 0 (rcL x true q t) = WE at *
  obtain ⟨c0, c1, c2, c3⟩ := BF.out.2.fourR
  refine bodyPost_ret_by (v := .tuple #[rcV x true q t, .string ⟨#[]⟩, .bool false]) ?_ rfl ⟨by rw [HV.out]; rfl, BF.out.1⟩
  simp [results, Tryd.f20, go_sem, c0, c1, c2, c3]

set_option maxHeartbeats 4000000 in
theorem take_spec_none (x : Int) (p q : Bool) (t : Int) (s : ByteArray) (hs : s.size ≤ 1048576) (w : World) (n : Int) (d : ByteArray) (hd : decC s = (0, n, d, true)) (h : RcOk x t) (hp : p = false) (h1 : ¬ ((n - x) % 256 = 0 ∧ t < 1000000)) (h2 : ¬ (1 ≤ (n - x) % 256 ∧ (n - x) % 256 ≤ 40)) (h3 : ¬ (41 ≤ (n - x) % 256 ∧ (n - x) % 256 ≤ 215)) :
    Calls Tryd.prog 20 #[rcV x p q t, .string s] w fun e w' => e = retT (tkC x p q t s) ∧ Below w.heap.size w w' := by
  have P0 := RP.start w x p q t
  subst hp
  have HV := Lib.hid ((tkC_data (p := false) (q := q) hd h).trans (tkD_none h1 h2 h3))
  have hd0 := decC_spec s hs
  have hr0 := ro_spec x false q t
  rw [decide_eq_true h] at hr0
  simp only [hd, retC] at hd0
  obtain ⟨hn0, hn1⟩ := (decC_ok hd).1.2.1
  obtain ⟨⟨x0, x1⟩, t0, t1⟩ := h
  clear hd
  have hdz : 0 ≤ (n - x) % 256 := by omega
  have hdw : (n - x) % 256 ≤ 255 := by omega
  have HI1 := Lib.hid (in_no ((n - x) % 256) 1 40 h2)
  have HI2 := Lib.hid (in_no ((n - x) % 256) 41 215 h3)
  by_cases hz0 : (n - x) % 256 = 0
  · have hz : ((n - x) % 256 == 0) = true := by simp; omega
    have ht : decide (t < 1000000) = false := by simp; omega
    clear h1 h2 h3 hz0
    have HD := Lib.hid hd0
    have HR := Lib.hid hr0
    clear hd0 hr0
    go_enter Tryd.func20, Tryd.ntmps20
    go_wp2_with fail
    refine (HD.out _).mono ?_
    rintro e w1 ⟨rfl, hb1⟩
    have P1 := Lib.hid (P0.more hb1)
    clear hb1 P0
    obtain ⟨k0, k1, k2, k3⟩ := P1.out.b2.fourR
    go_wp2_with fail
    refine (HR.out _).mono ?_
    rintro e w2 ⟨rfl, hb2⟩
    have P2 := Lib.hid (P1.out.more hb2)
    clear hb2 k0 k1 k2 k3 P1
    obtain ⟨k0, k1, k2, k3⟩ := P2.out.b2.fourR
    go_wp2_with fail
    refine (HI1.out _).mono ?_
    rintro e w' ⟨rfl, rfl⟩
    go_wp2_with fail
    refine (HI2.out _).mono ?_
    rintro e w' ⟨rfl, rfl⟩
    clear k0 k1 k2 k3
    obtain ⟨k0, k1, k2, k3⟩ := P2.out.b2.fourR
    obtain ⟨r0, r1, r2, r3⟩ := P2.out.b4.fourR
    have ri := P2.out.b4.ice
    have BF := Lib.hid (P2.out.fin rfl)
    go_wp2
    show bodyPost Tryd.prog Tryd.f20 _ Exit.ret _ (World.setCells _ (w.heap.size + 1) 0 (rcL x false q t))
    generalize World.setCells _ (w.heap.size + 1) 0 (rcL x false q t) = WE at *
    obtain ⟨c0, c1, c2, c3⟩ := BF.out.2.fourR
    refine bodyPost_ret_by (v := .tuple #[rcV x false q t, .string ⟨#[]⟩, .bool false]) ?_ rfl ⟨by rw [HV.out]; rfl, BF.out.1⟩
    simp [results, Tryd.f20, go_sem, c0, c1, c2, c3]
  · have hz : ((n - x) % 256 == 0) = false := by simp; omega
    clear h1 h2 h3 hz0
    have HD := Lib.hid hd0
    have HR := Lib.hid hr0
    clear hd0 hr0
    go_enter Tryd.func20, Tryd.ntmps20
    go_wp2_with fail
    refine (HD.out _).mono ?_
    rintro e w1 ⟨rfl, hb1⟩
    have P1 := Lib.hid (P0.more hb1)
    clear hb1 P0
    obtain ⟨k0, k1, k2, k3⟩ := P1.out.b2.fourR
    go_wp2_with fail
    refine (HR.out _).mono ?_
    rintro e w2 ⟨rfl, hb2⟩
    have P2 := Lib.hid (P1.out.more hb2)
    clear hb2 k0 k1 k2 k3 P1
    obtain ⟨k0, k1, k2, k3⟩ := P2.out.b2.fourR
    go_wp2_with fail
    refine (HI1.out _).mono ?_
    rintro e w' ⟨rfl, rfl⟩
    go_wp2_with fail
    refine (HI2.out _).mono ?_
    rintro e w' ⟨rfl, rfl⟩
    clear k0 k1 k2 k3
    obtain ⟨k0, k1, k2, k3⟩ := P2.out.b2.fourR
    obtain ⟨r0, r1, r2, r3⟩ := P2.out.b4.fourR
    have ri := P2.out.b4.ice
    have BF := Lib.hid (P2.out.fin rfl)
    go_wp2
    show bodyPost Tryd.prog Tryd.f20 _ Exit.ret _ (World.setCells _ (w.heap.size + 1) 0 (rcL x false q t))
    generalize World.setCells _ (w.heap.size + 1) 0 (rcL x false q t) = WE at *
    obtain ⟨c0, c1, c2, c3⟩ := BF.out.2.fourR
    refine bodyPost_ret_by (v := .tuple #[rcV x false q t, .string ⟨#[]⟩, .bool false]) ?_ rfl ⟨by rw [HV.out]; rfl, BF.out.1⟩
    simp [results, Tryd.f20, go_sem, c0, c1, c2, c3]

theorem take_spec (x : Int) (p q : Bool) (t : Int) (s : ByteArray) (hs : s.size ≤ 1048576) (w : World) :
    Calls Tryd.prog 20 #[rcV x p q t, .string s] w fun e w' => e = retT (tkC x p q t s) ∧ Below w.heap.size w w' := by
  obtain ⟨⟨k, n, d, b⟩, hd⟩ : ∃ P, decC s = P := ⟨_, rfl⟩
  by_cases h : b = true ∧ RcOk x t
  · obtain ⟨rfl, h⟩ := h
    have hk := (decC_ok hd).1.1
    rcases (show k = 1 ∨ k = 0 by omega) with rfl | rfl
    · exact take_spec_unlock x p q t s hs w n d hd h
    · cases hp : p with
      | true => exact take_spec_locked x true q t s hs w n d hd h rfl
      | false =>
        by_cases h1 : (n - x) % 256 = 0 ∧ t < 1000000
        · exact take_spec_take x false q t s hs w n d hd h rfl h1
        · by_cases h2 : 1 ≤ (n - x) % 256 ∧ (n - x) % 256 ≤ 40
          · exact take_spec_again x false q t s hs w n d hd h rfl h2
          · by_cases h3 : 41 ≤ (n - x) % 256 ∧ (n - x) % 256 ≤ 215
            · exact take_spec_lock x false q t s hs w n d hd h rfl h3
            · exact take_spec_none x false q t s hs w n d hd h rfl h1 h2 h3
  · exact take_spec_bad x p q t s hs w k n d b hd _ rfl h
end Go.Proofs.YtmmedhjmilgnbaaDoor
