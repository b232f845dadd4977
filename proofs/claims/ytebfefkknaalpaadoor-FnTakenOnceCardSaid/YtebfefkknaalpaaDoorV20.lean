/- What this text proves: the parts TcI of the proof, each under its own words. -/
import Derived.Test.YtebfefkknaalpaaDoorV19
/- What this text proves: the contract of the program's TakeCommand. -/
namespace Go.Proofs.YtebfefkknaalpaaDoor
open Go.ChangeShapes Go.WideShapes Go.ChangeAt Go.RowKit
set_option linter.unusedVariables false

set_option maxHeartbeats 4000000 in
theorem take_impl_bad (x : Int) (p q : Bool) (t : Int) (s : ByteArray) (hs : s.size ≤ 1048576) (w : World) (a0 a1 a2 : Addr) (hS : Sents w a0 a1 a2) (k n : Int) (d : ByteArray) (b : Bool) (hd : decC s = (k, n, d, b)) (rb : Bool) (hrb : decide (RcOk x t) = rb) (h : ¬ (b = true ∧ RcOk x t)) :
    Calls Tryd.prog 11 #[rcV x p q t, .string s] w fun e w' => e = retT (tkC x p q t s) ∧ Below w.heap.size w w' := by
  have P0 := RP.start w x p q t
  have HV := Lib.hid (tkC_bad (p := p) (q := q) hd h)
  have hd0 := decC_impl s hs
  have hr0 := ro_impl x p q t
  rw [hrb] at hr0
  simp only [hd, retC] at hd0
  have hbr : (b && rb) = false := by
    cases b with
    | false => rfl
    | true => rw [← hrb]; simpa using fun hr => h ⟨rfl, hr⟩
  clear hd h hrb
  cases b with
  | false =>
    have HD := Lib.hid hd0
    have HR := Lib.hid hr0
    clear hd0 hr0
    have S0 := Lib.hid ((hS.more ((Below.refl _ w).alloc (Nat.le_refl _) (.cells (rcL x p q t).toArray 31))).more ((Below.refl _ _).alloc (Nat.le_refl _) (.cells (rcL 0 false false 0).toArray 31)))
    clear hS
    go_enter Tryd.func11, Tryd.ntmps11
    go_wp2_with fail
    refine (HD.out _).mono ?_
    rintro e w1 ⟨rfl, hb1⟩
    have P1 := Lib.hid (P0.more hb1)
    have S1 := Lib.hid (S0.out.more hb1)
    clear hb1 P0
    obtain ⟨k0, k1, k2, k3⟩ := P1.out.b2.fourR
    obtain ⟨r0, r1, r2, r3⟩ := P1.out.b4.fourR
    have ri := P1.out.b4.ice
    have BF := Lib.hid (P1.out.fin rfl)
    go_wp2
    show bodyPost Tryd.prog Tryd.f11 _ Exit.ret _ (World.setCells _ (w.heap.size + 1) 0 (rcL x p q t))
    generalize World.setCells _ (w.heap.size + 1) 0 (rcL x p q t) = WE at *
    obtain ⟨c0, c1, c2, c3⟩ := BF.out.2.fourR
    refine bodyPost_ret_by (v := .tuple #[rcV x p q t, .string ⟨#[]⟩, .bool false]) ?_ rfl ⟨by rw [HV.out]; rfl, BF.out.1⟩
    simp [results, Tryd.f11, go_sem, c0, c1, c2, c3]
  | true =>
    cases rb with
    | true => cases hbr
    | false =>
      have HD := Lib.hid hd0
      have HR := Lib.hid hr0
      clear hd0 hr0
      have S0 := Lib.hid ((hS.more ((Below.refl _ w).alloc (Nat.le_refl _) (.cells (rcL x p q t).toArray 31))).more ((Below.refl _ _).alloc (Nat.le_refl _) (.cells (rcL 0 false false 0).toArray 31)))
      clear hS
      go_enter Tryd.func11, Tryd.ntmps11
      go_wp2_with fail
      refine (HD.out _).mono ?_
      rintro e w1 ⟨rfl, hb1⟩
      have P1 := Lib.hid (P0.more hb1)
      have S1 := Lib.hid (S0.out.more hb1)
      clear hb1 P0
      obtain ⟨k0, k1, k2, k3⟩ := P1.out.b2.fourR
      go_wp2_with fail
      refine (HR.out _).mono ?_
      rintro e w2 ⟨rfl, hb2⟩
      have P2 := Lib.hid (P1.out.more hb2)
      have S2 := Lib.hid (S1.out.more hb2)
      clear hb2 k0 k1 k2 k3 P1
      obtain ⟨k0, k1, k2, k3⟩ := P2.out.b2.fourR
      obtain ⟨r0, r1, r2, r3⟩ := P2.out.b4.fourR
      have ri := P2.out.b4.ice
      have BF := Lib.hid (P2.out.fin rfl)
      go_wp2
      show bodyPost Tryd.prog Tryd.f11 _ Exit.ret _ (World.setCells _ (w.heap.size + 1) 0 (rcL x p q t))
      generalize World.setCells _ (w.heap.size + 1) 0 (rcL x p q t) = WE at *
      obtain ⟨c0, c1, c2, c3⟩ := BF.out.2.fourR
      refine bodyPost_ret_by (v := .tuple #[rcV x p q t, .string ⟨#[]⟩, .bool false]) ?_ rfl ⟨by rw [HV.out]; rfl, BF.out.1⟩
      simp [results, Tryd.f11, go_sem, c0, c1, c2, c3]

set_option maxHeartbeats 4000000 in
theorem take_impl_unlock (x : Int) (p q : Bool) (t : Int) (s : ByteArray) (hs : s.size ≤ 1048576) (w : World) (a0 a1 a2 : Addr) (hS : Sents w a0 a1 a2) (n : Int) (d : ByteArray) (hd : decC s = (1, n, d, true)) (h : RcOk x t) :
    Calls Tryd.prog 11 #[rcV x p q t, .string s] w fun e w' => e = retT (tkC x p q t s) ∧ Below w.heap.size w w' := by
  have P0 := RP.start w x p q t
  have HV := Lib.hid (tkC_unlock (p := p) (q := q) hd h)
  have hd0 := decC_impl s hs
  have hr0 := ro_impl x p q t
  rw [decide_eq_true h] at hr0
  simp only [hd, retC] at hd0
  clear hd h
  have HD := Lib.hid hd0
  have HR := Lib.hid hr0
  clear hd0 hr0
  have S0 := Lib.hid ((hS.more ((Below.refl _ w).alloc (Nat.le_refl _) (.cells (rcL x p q t).toArray 31))).more ((Below.refl _ _).alloc (Nat.le_refl _) (.cells (rcL 0 false false 0).toArray 31)))
  clear hS
  go_enter Tryd.func11, Tryd.ntmps11
  go_wp2_with fail
  refine (HD.out _).mono ?_
  rintro e w1 ⟨rfl, hb1⟩
  have P1 := Lib.hid (P0.more hb1)
  have S1 := Lib.hid (S0.out.more hb1)
  clear hb1 P0
  obtain ⟨k0, k1, k2, k3⟩ := P1.out.b2.fourR
  go_wp2_with fail
  refine (HR.out _).mono ?_
  rintro e w2 ⟨rfl, hb2⟩
  have P2 := Lib.hid (P1.out.more hb2)
  have S2 := Lib.hid (S1.out.more hb2)
  clear hb2 k0 k1 k2 k3 P1
  have P3 := Lib.hid (show RP w _ (rcL x false q t) from P2.out.set 1 (by simp) (.bool false))
  obtain ⟨f30, f31, f32, f33⟩ := P2.out.b2.fourR
  have fi3 := P2.out.b2.ice
  have P4 := Lib.hid (show RP w _ (rcL x false false t) from P3.out.set 2 (by simp) (.bool false))
  obtain ⟨f40, f41, f42, f43⟩ := P3.out.b2.fourR
  have fi4 := P3.out.b2.ice
  obtain ⟨k0, k1, k2, k3⟩ := P4.out.b2.fourR
  obtain ⟨r0, r1, r2, r3⟩ := P4.out.b4.fourR
  have ri := P4.out.b4.ice
  have BF := Lib.hid (P4.out.fin rfl)
  go_wp2
  show bodyPost Tryd.prog Tryd.f11 _ Exit.ret _ (World.setCells _ (w.heap.size + 1) 0 (rcL x false false t))
  generalize World.setCells _ (w.heap.size + 1) 0 (rcL x false false t) = WE at *
  obtain ⟨c0, c1, c2, c3⟩ := BF.out.2.fourR
  refine bodyPost_ret_by (v := .tuple #[rcV x false false t, .string ⟨#[]⟩, .bool false]) ?_ rfl ⟨by rw [HV.out]; rfl, BF.out.1⟩
  simp [results, Tryd.f11, go_sem, c0, c1, c2, c3]

set_option maxHeartbeats 4000000 in
theorem take_impl_locked (x : Int) (p q : Bool) (t : Int) (s : ByteArray) (hs : s.size ≤ 1048576) (w : World) (a0 a1 a2 : Addr) (hS : Sents w a0 a1 a2) (n : Int) (d : ByteArray) (hd : decC s = (0, n, d, true)) (h : RcOk x t) (hp : p = true) :
    Calls Tryd.prog 11 #[rcV x p q t, .string s] w fun e w' => e = retT (tkC x p q t s) ∧ Below w.heap.size w w' := by
  have P0 := RP.start w x p q t
  subst hp
  have HV := Lib.hid ((tkC_data (p := true) (q := q) hd h).trans (tkD_locked))
  have hd0 := decC_impl s hs
  have hr0 := ro_impl x true q t
  rw [decide_eq_true h] at hr0
  simp only [hd, retC] at hd0
  obtain ⟨hn0, hn1⟩ := (decC_ok hd).1.2.1
  obtain ⟨⟨x0, x1⟩, t0, t1⟩ := h
  clear hd
  have HF := Lib.hid (fun W hW => rf_ign1 x q t n ⟨x0, x1⟩ ⟨hn0, hn1⟩ a0 a1 a2 W hW)
  have HD := Lib.hid hd0
  have HR := Lib.hid hr0
  clear hd0 hr0
  have S0 := Lib.hid ((hS.more ((Below.refl _ w).alloc (Nat.le_refl _) (.cells (rcL x true q t).toArray 31))).more ((Below.refl _ _).alloc (Nat.le_refl _) (.cells (rcL 0 false false 0).toArray 31)))
  clear hS
  go_enter Tryd.func11, Tryd.ntmps11
  go_wp2_with fail
  refine (HD.out _).mono ?_
  rintro e w1 ⟨rfl, hb1⟩
  have P1 := Lib.hid (P0.more hb1)
  have S1 := Lib.hid (S0.out.more hb1)
  clear hb1 P0
  obtain ⟨k0, k1, k2, k3⟩ := P1.out.b2.fourR
  go_wp2_with fail
  refine (HR.out _).mono ?_
  rintro e w2 ⟨rfl, hb2⟩
  have P2 := Lib.hid (P1.out.more hb2)
  have S2 := Lib.hid (S1.out.more hb2)
  clear hb2 k0 k1 k2 k3 P1
  obtain ⟨k0, k1, k2, k3⟩ := P2.out.b2.fourR
  go_wp2_with fail
  refine (HF.out _ S2.out).mono ?_
  rintro e w3 ⟨rfl, hb3⟩
  have P3 := Lib.hid (P2.out.more hb3)
  have S3 := Lib.hid (S2.out.more hb3)
  clear hb3 k0 k1 k2 k3 P2 S2 S1 S0
  obtain ⟨g0, g1, g2, n01, n02, n12, ⟨y0, z0, q0⟩, ⟨y1, z1, q1⟩, ⟨y2, z2, q2⟩⟩ := S3.out
  have HA := Lib.hid (is_other a2 a0 y2 y0 z2 z0 _ (Ne.symm n02) q2 q0)
  have HB := Lib.hid (is_other a2 a1 y2 y1 z2 z1 _ (Ne.symm n12) q2 q1)
  clear g2 n01 n02 n12 q0 q1 q2
  go_wp2_with fail
  refine HA.out.mono ?_
  rintro e w' ⟨rfl, rfl⟩
  clear g0
  go_wp2_with fail
  refine HB.out.mono ?_
  rintro e w' ⟨rfl, rfl⟩
  clear g1
  obtain ⟨k0, k1, k2, k3⟩ := P3.out.b2.fourR
  obtain ⟨r0, r1, r2, r3⟩ := P3.out.b4.fourR
  have ri := P3.out.b4.ice
  have BF := Lib.hid (P3.out.fin rfl)
  go_wp2
  show bodyPost Tryd.prog Tryd.f11 _ Exit.ret _ (World.setCells _ (w.heap.size + 1) 0 (rcL x true q t))
  generalize World.setCells _ (w.heap.size + 1) 0 (rcL x true q t) = WE at *
  obtain ⟨c0, c1, c2, c3⟩ := BF.out.2.fourR
  refine bodyPost_ret_by (v := .tuple #[rcV x true q t, .string ⟨#[]⟩, .bool false]) ?_ rfl ⟨by rw [HV.out]; rfl, BF.out.1⟩
  simp [results, Tryd.f11, go_sem, c0, c1, c2, c3]

set_option maxHeartbeats 4000000 in
theorem take_impl_take (x : Int) (p q : Bool) (t : Int) (s : ByteArray) (hs : s.size ≤ 1048576) (w : World) (a0 a1 a2 : Addr) (hS : Sents w a0 a1 a2) (n : Int) (d : ByteArray) (hd : decC s = (0, n, d, true)) (h : RcOk x t) (hp : p = false) (h1 : (n - x) % 256 = 0 ∧ t < 1000000) :
    Calls Tryd.prog 11 #[rcV x p q t, .string s] w fun e w' => e = retT (tkC x p q t s) ∧ Below w.heap.size w w' := by
  have P0 := RP.start w x p q t
  subst hp
  have HV := Lib.hid ((tkC_data (p := false) (q := q) hd h).trans (tkD_take h1))
  have hd0 := decC_impl s hs
  have hr0 := ro_impl x false q t
  rw [decide_eq_true h] at hr0
  simp only [hd, retC] at hd0
  obtain ⟨hn0, hn1⟩ := (decC_ok hd).1.2.1
  obtain ⟨⟨x0, x1⟩, t0, t1⟩ := h
  clear hd
  have HF := Lib.hid (fun W hW => rf_nil x q t n ⟨x0, x1⟩ ⟨hn0, hn1⟩ h1 a0 a1 a2 W hW)
  have HN := Lib.hid (next_cnt x ⟨x0, x1⟩)
  have e3 : t ≤ 999999 := by have := h1.2; omega
  clear h1
  have HD := Lib.hid hd0
  have HR := Lib.hid hr0
  clear hd0 hr0
  have S0 := Lib.hid ((hS.more ((Below.refl _ w).alloc (Nat.le_refl _) (.cells (rcL x false q t).toArray 31))).more ((Below.refl _ _).alloc (Nat.le_refl _) (.cells (rcL 0 false false 0).toArray 31)))
  clear hS
  go_enter Tryd.func11, Tryd.ntmps11
  go_wp2_with fail
  refine (HD.out _).mono ?_
  rintro e w1 ⟨rfl, hb1⟩
  have P1 := Lib.hid (P0.more hb1)
  have S1 := Lib.hid (S0.out.more hb1)
  clear hb1 P0
  obtain ⟨k0, k1, k2, k3⟩ := P1.out.b2.fourR
  go_wp2_with fail
  refine (HR.out _).mono ?_
  rintro e w2 ⟨rfl, hb2⟩
  have P2 := Lib.hid (P1.out.more hb2)
  have S2 := Lib.hid (S1.out.more hb2)
  clear hb2 k0 k1 k2 k3 P1
  obtain ⟨k0, k1, k2, k3⟩ := P2.out.b2.fourR
  go_wp2_with fail
  refine (HF.out _ S2.out).mono ?_
  rintro e w3 ⟨rfl, hb3⟩
  have P3 := Lib.hid (P2.out.more hb3)
  have S3 := Lib.hid (S2.out.more hb3)
  clear hb3 k0 k1 k2 k3 P2 S2 S1 S0
  obtain ⟨k0, k1, k2, k3⟩ := P3.out.b2.fourR
  go_wp2_with fail
  refine (HN.out _).mono ?_
  rintro e w' ⟨rfl, rfl⟩
  clear k0 k1 k2 k3
  have P4 := Lib.hid (show RP w _ (rcL ((x + 1) % 256) false q t) from P3.out.set 0 (by simp) (.int .i64 ((x + 1) % 256)))
  obtain ⟨f40, f41, f42, f43⟩ := P3.out.b2.fourR
  have fi4 := P3.out.b2.ice
  have P5 := Lib.hid (show RP w _ (rcL ((x + 1) % 256) false q (t + 1)) from P4.out.set 3 (by simp) (.int .i64 (t + 1)))
  obtain ⟨f50, f51, f52, f53⟩ := P4.out.b2.fourR
  have fi5 := P4.out.b2.ice
  have P6 := Lib.hid (show RP w _ (rcL ((x + 1) % 256) false false (t + 1)) from P5.out.set 2 (by simp) (.bool false))
  obtain ⟨f60, f61, f62, f63⟩ := P5.out.b2.fourR
  have fi6 := P5.out.b2.ice
  obtain ⟨k0, k1, k2, k3⟩ := P6.out.b2.fourR
  obtain ⟨r0, r1, r2, r3⟩ := P6.out.b4.fourR
  have ri := P6.out.b4.ice
  have BF := Lib.hid (P6.out.fin rfl)
  go_wp2
  show bodyPost Tryd.prog Tryd.f11 _ Exit.ret _ (World.setCells _ (w.heap.size + 1) 0 (rcL ((x + 1) % 256) false false (t + 1)))
  generalize World.setCells _ (w.heap.size + 1) 0 (rcL ((x + 1) % 256) false false (t + 1)) = WE at *
  obtain ⟨c0, c1, c2, c3⟩ := BF.out.2.fourR
  refine bodyPost_ret_by (v := .tuple #[rcV ((x + 1) % 256) false false (t + 1), .string d, .bool true]) ?_ rfl ⟨by rw [HV.out]; rfl, BF.out.1⟩
  simp [results, Tryd.f11, go_sem, c0, c1, c2, c3]

set_option maxHeartbeats 4000000 in
theorem take_impl_again (x : Int) (p q : Bool) (t : Int) (s : ByteArray) (hs : s.size ≤ 1048576) (w : World) (a0 a1 a2 : Addr) (hS : Sents w a0 a1 a2) (n : Int) (d : ByteArray) (hd : decC s = (0, n, d, true)) (h : RcOk x t) (hp : p = false) (h1 : 1 ≤ (n - x) % 256 ∧ (n - x) % 256 ≤ 40) :
    Calls Tryd.prog 11 #[rcV x p q t, .string s] w fun e w' => e = retT (tkC x p q t s) ∧ Below w.heap.size w w' := by
  have P0 := RP.start w x p q t
  subst hp
  have HV := Lib.hid ((tkC_data (p := false) (q := q) hd h).trans (tkD_again h1))
  have hd0 := decC_impl s hs
  have hr0 := ro_impl x false q t
  rw [decide_eq_true h] at hr0
  simp only [hd, retC] at hd0
  obtain ⟨hn0, hn1⟩ := (decC_ok hd).1.2.1
  obtain ⟨⟨x0, x1⟩, t0, t1⟩ := h
  clear hd
  have HF := Lib.hid (fun W hW => rf_ask x q t n ⟨x0, x1⟩ ⟨hn0, hn1⟩ h1 a0 a1 a2 W hW)
  clear h1
  have HD := Lib.hid hd0
  have HR := Lib.hid hr0
  clear hd0 hr0
  have S0 := Lib.hid ((hS.more ((Below.refl _ w).alloc (Nat.le_refl _) (.cells (rcL x false q t).toArray 31))).more ((Below.refl _ _).alloc (Nat.le_refl _) (.cells (rcL 0 false false 0).toArray 31)))
  clear hS
  go_enter Tryd.func11, Tryd.ntmps11
  go_wp2_with fail
  refine (HD.out _).mono ?_
  rintro e w1 ⟨rfl, hb1⟩
  have P1 := Lib.hid (P0.more hb1)
  have S1 := Lib.hid (S0.out.more hb1)
  clear hb1 P0
  obtain ⟨k0, k1, k2, k3⟩ := P1.out.b2.fourR
  go_wp2_with fail
  refine (HR.out _).mono ?_
  rintro e w2 ⟨rfl, hb2⟩
  have P2 := Lib.hid (P1.out.more hb2)
  have S2 := Lib.hid (S1.out.more hb2)
  clear hb2 k0 k1 k2 k3 P1
  obtain ⟨k0, k1, k2, k3⟩ := P2.out.b2.fourR
  go_wp2_with fail
  refine (HF.out _ S2.out).mono ?_
  rintro e w3 ⟨rfl, hb3⟩
  have P3 := Lib.hid (P2.out.more hb3)
  have S3 := Lib.hid (S2.out.more hb3)
  clear hb3 k0 k1 k2 k3 P2 S2 S1 S0
  obtain ⟨g0, g1, g2, n01, n02, n12, ⟨y0, z0, q0⟩, ⟨y1, z1, q1⟩, ⟨y2, z2, q2⟩⟩ := S3.out
  have HA := Lib.hid (is_same a0)
  clear g1 g2 n01 n02 n12 q0 q1 q2
  go_wp2_with fail
  refine (HA.out _).mono ?_
  rintro e w' ⟨rfl, rfl⟩
  clear g0
  have P4 := Lib.hid (show RP w _ (rcL x false true t) from P3.out.set 2 (by simp) (.bool true))
  obtain ⟨f40, f41, f42, f43⟩ := P3.out.b2.fourR
  have fi4 := P3.out.b2.ice
  obtain ⟨k0, k1, k2, k3⟩ := P4.out.b2.fourR
  obtain ⟨r0, r1, r2, r3⟩ := P4.out.b4.fourR
  have ri := P4.out.b4.ice
  have BF := Lib.hid (P4.out.fin rfl)
  go_wp2
  show bodyPost Tryd.prog Tryd.f11 _ Exit.ret _ (World.setCells _ (w.heap.size + 1) 0 (rcL x false true t))
  generalize World.setCells _ (w.heap.size + 1) 0 (rcL x false true t) = WE at *
  obtain ⟨c0, c1, c2, c3⟩ := BF.out.2.fourR
  refine bodyPost_ret_by (v := .tuple #[rcV x false true t, .string ⟨#[]⟩, .bool false]) ?_ rfl ⟨by rw [HV.out]; rfl, BF.out.1⟩
  simp [results, Tryd.f11, go_sem, c0, c1, c2, c3]

set_option maxHeartbeats 4000000 in
theorem take_impl_lock (x : Int) (p q : Bool) (t : Int) (s : ByteArray) (hs : s.size ≤ 1048576) (w : World) (a0 a1 a2 : Addr) (hS : Sents w a0 a1 a2) (n : Int) (d : ByteArray) (hd : decC s = (0, n, d, true)) (h : RcOk x t) (hp : p = false) (h1 : 41 ≤ (n - x) % 256 ∧ (n - x) % 256 ≤ 215) :
    Calls Tryd.prog 11 #[rcV x p q t, .string s] w fun e w' => e = retT (tkC x p q t s) ∧ Below w.heap.size w w' := by
  have P0 := RP.start w x p q t
  subst hp
  have HV := Lib.hid ((tkC_data (p := false) (q := q) hd h).trans (tkD_lock h1))
  have hd0 := decC_impl s hs
  have hr0 := ro_impl x false q t
  rw [decide_eq_true h] at hr0
  simp only [hd, retC] at hd0
  obtain ⟨hn0, hn1⟩ := (decC_ok hd).1.2.1
  obtain ⟨⟨x0, x1⟩, t0, t1⟩ := h
  clear hd
  have HF := Lib.hid (fun W hW => rf_lck x q t n ⟨x0, x1⟩ ⟨hn0, hn1⟩ h1 a0 a1 a2 W hW)
  clear h1
  have HD := Lib.hid hd0
  have HR := Lib.hid hr0
  clear hd0 hr0
  have S0 := Lib.hid ((hS.more ((Below.refl _ w).alloc (Nat.le_refl _) (.cells (rcL x false q t).toArray 31))).more ((Below.refl _ _).alloc (Nat.le_refl _) (.cells (rcL 0 false false 0).toArray 31)))
  clear hS
  go_enter Tryd.func11, Tryd.ntmps11
  go_wp2_with fail
  refine (HD.out _).mono ?_
  rintro e w1 ⟨rfl, hb1⟩
  have P1 := Lib.hid (P0.more hb1)
  have S1 := Lib.hid (S0.out.more hb1)
  clear hb1 P0
  obtain ⟨k0, k1, k2, k3⟩ := P1.out.b2.fourR
  go_wp2_with fail
  refine (HR.out _).mono ?_
  rintro e w2 ⟨rfl, hb2⟩
  have P2 := Lib.hid (P1.out.more hb2)
  have S2 := Lib.hid (S1.out.more hb2)
  clear hb2 k0 k1 k2 k3 P1
  obtain ⟨k0, k1, k2, k3⟩ := P2.out.b2.fourR
  go_wp2_with fail
  refine (HF.out _ S2.out).mono ?_
  rintro e w3 ⟨rfl, hb3⟩
  have P3 := Lib.hid (P2.out.more hb3)
  have S3 := Lib.hid (S2.out.more hb3)
  clear hb3 k0 k1 k2 k3 P2 S2 S1 S0
  obtain ⟨g0, g1, g2, n01, n02, n12, ⟨y0, z0, q0⟩, ⟨y1, z1, q1⟩, ⟨y2, z2, q2⟩⟩ := S3.out
  have HA := Lib.hid (is_other a1 a0 y1 y0 z1 z0 _ (Ne.symm n01) q1 q0)
  have HB := Lib.hid (is_same a1)
  clear g2 n01 n02 n12 q0 q1 q2
  go_wp2_with fail
  refine HA.out.mono ?_
  rintro e w' ⟨rfl, rfl⟩
  clear g0
  go_wp2_with fail
  refine (HB.out _).mono ?_
  rintro e w' ⟨rfl, rfl⟩
  clear g1
  have P4 := Lib.hid (show RP w _ (rcL x true q t) from P3.out.set 1 (by simp) (.bool true))
  obtain ⟨f40, f41, f42, f43⟩ := P3.out.b2.fourR
  have fi4 := P3.out.b2.ice
  obtain ⟨k0, k1, k2, k3⟩ := P4.out.b2.fourR
  obtain ⟨r0, r1, r2, r3⟩ := P4.out.b4.fourR
  have ri := P4.out.b4.ice
  have BF := Lib.hid (P4.out.fin rfl)
  go_wp2
  show bodyPost Tryd.prog Tryd.f11 _ Exit.ret _ (World.setCells _ (w.heap.size + 1) 0 (rcL x true q t))
  generalize World.setCells _ (w.heap.size + 1) 0 (rcL x true q t) = WE at *
  obtain ⟨c0, c1, c2, c3⟩ := BF.out.2.fourR
  refine bodyPost_ret_by (v := .tuple #[rcV x true q t, .string ⟨#[]⟩, .bool false]) ?_ rfl ⟨by rw [HV.out]; rfl, BF.out.1⟩
  simp [results, Tryd.f11, go_sem, c0, c1, c2, c3]

set_option maxHeartbeats 4000000 in
theorem take_impl_none (x : Int) (p q : Bool) (t : Int) (s : ByteArray) (hs : s.size ≤ 1048576) (w : World) (a0 a1 a2 : Addr) (hS : Sents w a0 a1 a2) (n : Int) (d : ByteArray) (hd : decC s = (0, n, d, true)) (h : RcOk x t) (hp : p = false) (h1 : ¬ ((n - x) % 256 = 0 ∧ t < 1000000)) (h2 : ¬ (1 ≤ (n - x) % 256 ∧ (n - x) % 256 ≤ 40)) (h3 : ¬ (41 ≤ (n - x) % 256 ∧ (n - x) % 256 ≤ 215)) :
    Calls Tryd.prog 11 #[rcV x p q t, .string s] w fun e w' => e = retT (tkC x p q t s) ∧ Below w.heap.size w w' := by
  have P0 := RP.start w x p q t
  subst hp
  have HV := Lib.hid ((tkC_data (p := false) (q := q) hd h).trans (tkD_none h1 h2 h3))
  have hd0 := decC_impl s hs
  have hr0 := ro_impl x false q t
  rw [decide_eq_true h] at hr0
  simp only [hd, retC] at hd0
  obtain ⟨hn0, hn1⟩ := (decC_ok hd).1.2.1
  obtain ⟨⟨x0, x1⟩, t0, t1⟩ := h
  clear hd
  have HF := Lib.hid (fun W hW => rf_ign2 x q t n ⟨x0, x1⟩ ⟨hn0, hn1⟩ h1 h2 h3 a0 a1 a2 W hW)
  clear h1
  have HD := Lib.hid hd0
  have HR := Lib.hid hr0
  clear hd0 hr0
  have S0 := Lib.hid ((hS.more ((Below.refl _ w).alloc (Nat.le_refl _) (.cells (rcL x false q t).toArray 31))).more ((Below.refl _ _).alloc (Nat.le_refl _) (.cells (rcL 0 false false 0).toArray 31)))
  clear hS
  go_enter Tryd.func11, Tryd.ntmps11
  go_wp2_with fail
  refine (HD.out _).mono ?_
  rintro e w1 ⟨rfl, hb1⟩
  have P1 := Lib.hid (P0.more hb1)
  have S1 := Lib.hid (S0.out.more hb1)
  clear hb1 P0
  obtain ⟨k0, k1, k2, k3⟩ := P1.out.b2.fourR
  go_wp2_with fail
  refine (HR.out _).mono ?_
  rintro e w2 ⟨rfl, hb2⟩
  have P2 := Lib.hid (P1.out.more hb2)
  have S2 := Lib.hid (S1.out.more hb2)
  clear hb2 k0 k1 k2 k3 P1
  obtain ⟨k0, k1, k2, k3⟩ := P2.out.b2.fourR
  go_wp2_with fail
  refine (HF.out _ S2.out).mono ?_
  rintro e w3 ⟨rfl, hb3⟩
  have P3 := Lib.hid (P2.out.more hb3)
  have S3 := Lib.hid (S2.out.more hb3)
  clear hb3 k0 k1 k2 k3 P2 S2 S1 S0
  obtain ⟨g0, g1, g2, n01, n02, n12, ⟨y0, z0, q0⟩, ⟨y1, z1, q1⟩, ⟨y2, z2, q2⟩⟩ := S3.out
  have HA := Lib.hid (is_other a2 a0 y2 y0 z2 z0 _ (Ne.symm n02) q2 q0)
  have HB := Lib.hid (is_other a2 a1 y2 y1 z2 z1 _ (Ne.symm n12) q2 q1)
  clear g2 n01 n02 n12 q0 q1 q2
  go_wp2_with fail
  refine HA.out.mono ?_
  rintro e w' ⟨rfl, rfl⟩
  clear g0
  go_wp2_with fail
  refine HB.out.mono ?_
  rintro e w' ⟨rfl, rfl⟩
  clear g1
  obtain ⟨k0, k1, k2, k3⟩ := P3.out.b2.fourR
  obtain ⟨r0, r1, r2, r3⟩ := P3.out.b4.fourR
  have ri := P3.out.b4.ice
  have BF := Lib.hid (P3.out.fin rfl)
  go_wp2
  show bodyPost Tryd.prog Tryd.f11 _ Exit.ret _ (World.setCells _ (w.heap.size + 1) 0 (rcL x false q t))
  generalize World.setCells _ (w.heap.size + 1) 0 (rcL x false q t) = WE at *
  obtain ⟨c0, c1, c2, c3⟩ := BF.out.2.fourR
  refine bodyPost_ret_by (v := .tuple #[rcV x false q t, .string ⟨#[]⟩, .bool false]) ?_ rfl ⟨by rw [HV.out]; rfl, BF.out.1⟩
  simp [results, Tryd.f11, go_sem, c0, c1, c2, c3]

theorem take_impl (x : Int) (p q : Bool) (t : Int) (s : ByteArray) (hs : s.size ≤ 1048576) (w : World) (a0 a1 a2 : Addr) (hS : Sents w a0 a1 a2) :
    Calls Tryd.prog 11 #[rcV x p q t, .string s] w fun e w' => e = retT (tkC x p q t s) ∧ Below w.heap.size w w' := by
  obtain ⟨⟨k, n, d, b⟩, hd⟩ : ∃ P, decC s = P := ⟨_, rfl⟩
  by_cases h : b = true ∧ RcOk x t
  · obtain ⟨rfl, h⟩ := h
    have hk := (decC_ok hd).1.1
    rcases (show k = 1 ∨ k = 0 by omega) with rfl | rfl
    · exact take_impl_unlock x p q t s hs w a0 a1 a2 hS n d hd h
    · cases hp : p with
      | true => exact take_impl_locked x true q t s hs w a0 a1 a2 hS n d hd h rfl
      | false =>
        by_cases h1 : (n - x) % 256 = 0 ∧ t < 1000000
        · exact take_impl_take x false q t s hs w a0 a1 a2 hS n d hd h rfl h1
        · by_cases h2 : 1 ≤ (n - x) % 256 ∧ (n - x) % 256 ≤ 40
          · exact take_impl_again x false q t s hs w a0 a1 a2 hS n d hd h rfl h2
          · by_cases h3 : 41 ≤ (n - x) % 256 ∧ (n - x) % 256 ≤ 215
            · exact take_impl_lock x false q t s hs w a0 a1 a2 hS n d hd h rfl h3
            · exact take_impl_none x false q t s hs w a0 a1 a2 hS n d hd h rfl h1 h2 h3
  · exact take_impl_bad x p q t s hs w a0 a1 a2 hS k n d b hd _ rfl h
end Go.Proofs.YtebfefkknaalpaaDoor
