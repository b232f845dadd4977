/- What this text proves: the parts HrI of the proof, each under its own words. -/
import Derived.Test.YtebfefkknaalpaaDoorV10
import Derived.Test.YtebfefkknaalpaaDoorV05
import Derived.BigQuiet
/- What this text proves: the contract of the program's HearNotice. -/
namespace Go.Proofs.YtebfefkknaalpaaDoor
open Go.ChangeShapes Go.WideShapes Go.ChangeAt Go.RowKit
set_option linter.unusedVariables false

set_option maxHeartbeats 8000000 in
theorem hear_impl_bad (n b d : Int) (A : Option Addr) (l : List Sn) (c : Nat) (x : Int) (p q : Bool) (hl : l.length ≤ 1048577) (hs : ∀ j (hj : j < l.length), l[j].2.size ≤ 1100000) (w : World) (h : SnsAt w w.heap.size A l) (h1 : ¬ SnOk n b l d) :
    Calls Tryd.prog 12 #[seV n b (.slice A l.length c) d, ntV x p q] w fun e w' => ∃ A1 c1, e = .returned (seV n b (.slice A1 (heL n b d l x).length c1) (heD n b d l x)) ∧ OwnO w' w.heap.size (.slice A1 (heL n b d l x).length c1) (heL n b d l x) ∧ Below w.heap.size w w' := by
  have HV := Lib.hid (he_no (n := n) (b := b) (d := d) (l := l) (x := x) (fun h => h1 h.1))
  have HC := Lib.hid (fun W (hb : Below w.heap.size w W) => copy_impl n b d A l c (by omega) W ((h.more hb).raise hb.size))
  have HS := Lib.hid (fun W (hb : Below w.heap.size w W) => so_impl n b d A l c (by omega) hs W ((h.more hb).raise hb.size))
  rw [show snB n b l d = false from snB_no h1] at HS
  clear h h1 hs
  go_enter Tryd.func12, Tryd.ntmps12
  go_wp2_with fail
  refine (HC.out _ ((((Below.refl _ w).alloc (Nat.le_refl _) _).alloc (by simp) _).alloc (by simp; omega) _)).mono ?_
  rintro e w1 ⟨A1, c1, rfl, ho1, hb1⟩
  have N1 := Lib.hid (OwnR.more ho1 ((Below.refl _ _).alloc (Nat.le_refl _) (.cells (seL n b (.slice A1 l.length c1) d).toArray 26)))
  have P1 := Lib.hid (HP.start n b d _ A1 l _ c1 x p q 26 41 26 hb1 ho1)
  clear hb1 ho1
  obtain ⟨k0, k1, k2, k3⟩ := P1.out.b2.fourS
  go_wp2_with fail
  refine (HS.out _ P1.out.below).mono ?_
  rintro e w2 ⟨rfl, hb2⟩
  have P2 := Lib.hid (P1.out.more hb2)
  have N2 := Lib.hid (OwnR.more N1.out hb2)
  clear hb2 k0 k1 k2 k3 P1 N1
  generalize w1.heap.size = g6 at *
  obtain ⟨s0, s1, s2, s3⟩ := P2.out.b6.fourS
  obtain ⟨r0, r1, r2, r3⟩ := P2.out.b4.fourS
  have ri := P2.out.b4.ice
  have BF := Lib.hid (P2.out.fin rfl)
  go_wp2
  show bodyPost Tryd.prog Tryd.f12 _ Exit.ret _ (World.setCells _ (w.heap.size + 2) 0 (seL n b (.slice A1 l.length c1) d))
  generalize World.setCells _ (w.heap.size + 2) 0 (seL n b (.slice A1 l.length c1) d) = WE at *
  obtain ⟨z0, z1, z2, z3⟩ := BF.out.2.1.fourS
  refine bodyPost_ret_by (v := seV n b (.slice A1 l.length c1) d) ?_ rfl ⟨A1, c1, by rw [HV.out.1, HV.out.2], by rw [HV.out.1]; exact BF.out.2.2.lower (by omega), BF.out.1⟩
  simp [results, Tryd.f12, go_sem, z0, z1, z2, z3]

set_option maxHeartbeats 8000000 in
theorem hear_impl_none (n b d : Int) (A : Option Addr) (l : List Sn) (c : Nat) (x : Int) (p q : Bool) (hl : l.length ≤ 1048577) (hs : ∀ j (hj : j < l.length), l[j].2.size ≤ 1100000) (w : World) (h : SnsAt w w.heap.size A l) (h1 : SnOk n b l d) (h2 : l.length = 0) :
    Calls Tryd.prog 12 #[seV n b (.slice A l.length c) d, ntV x p q] w fun e w' => ∃ A1 c1, e = .returned (seV n b (.slice A1 (heL n b d l x).length c1) (heD n b d l x)) ∧ OwnO w' w.heap.size (.slice A1 (heL n b d l x).length c1) (heL n b d l x) ∧ Below w.heap.size w w' := by
  have HV := Lib.hid (he_no (n := n) (b := b) (d := d) (l := l) (x := x) (fun h => by have := h.2.1; omega))
  have HC := Lib.hid (fun W (hb : Below w.heap.size w W) => copy_impl n b d A l c (by omega) W ((h.more hb).raise hb.size))
  have HS := Lib.hid (fun W (hb : Below w.heap.size w W) => so_impl n b d A l c (by omega) hs W ((h.more hb).raise hb.size))
  rw [show snB n b l d = true from snB_yes h1] at HS
  clear h h1 hs
  have hE : ((l.length : Int) == 0) = true := by simp; exact List.eq_nil_of_length_eq_zero h2
  have hE' : (l.length == 0) = true := by simp; exact List.eq_nil_of_length_eq_zero h2
  clear h2
  go_enter Tryd.func12, Tryd.ntmps12
  go_wp2_with fail
  refine (HC.out _ ((((Below.refl _ w).alloc (Nat.le_refl _) _).alloc (by simp) _).alloc (by simp; omega) _)).mono ?_
  rintro e w1 ⟨A1, c1, rfl, ho1, hb1⟩
  have N1 := Lib.hid (OwnR.more ho1 ((Below.refl _ _).alloc (Nat.le_refl _) (.cells (seL n b (.slice A1 l.length c1) d).toArray 26)))
  have P1 := Lib.hid (HP.start n b d _ A1 l _ c1 x p q 26 41 26 hb1 ho1)
  clear hb1 ho1
  obtain ⟨k0, k1, k2, k3⟩ := P1.out.b2.fourS
  go_wp2_with fail
  refine (HS.out _ P1.out.below).mono ?_
  rintro e w2 ⟨rfl, hb2⟩
  have P2 := Lib.hid (P1.out.more hb2)
  have N2 := Lib.hid (OwnR.more N1.out hb2)
  clear hb2 k0 k1 k2 k3 P1 N1
  generalize w1.heap.size = g6 at *
  obtain ⟨k0, k1, k2, k3⟩ := P2.out.b2.fourS
  obtain ⟨m0, m1, m2⟩ := P2.out.b3.threeR
  obtain ⟨s0, s1, s2, s3⟩ := P2.out.b6.fourS
  obtain ⟨r0, r1, r2, r3⟩ := P2.out.b4.fourS
  have ri := P2.out.b4.ice
  have BF := Lib.hid (P2.out.fin rfl)
  go_wp2
  show bodyPost Tryd.prog Tryd.f12 _ Exit.ret _ (World.setCells _ (w.heap.size + 2) 0 (seL n b (.slice A1 l.length c1) d))
  generalize World.setCells _ (w.heap.size + 2) 0 (seL n b (.slice A1 l.length c1) d) = WE at *
  obtain ⟨z0, z1, z2, z3⟩ := BF.out.2.1.fourS
  refine bodyPost_ret_by (v := seV n b (.slice A1 l.length c1) d) ?_ rfl ⟨A1, c1, by rw [HV.out.1, HV.out.2], by rw [HV.out.1]; exact BF.out.2.2.lower (by omega), BF.out.1⟩
  simp [results, Tryd.f12, go_sem, z0, z1, z2, z3]

set_option maxHeartbeats 8000000 in
theorem hear_impl_seq (n b d : Int) (A : Option Addr) (l : List Sn) (c : Nat) (x : Int) (p q : Bool) (hl : l.length ≤ 1048577) (hs : ∀ j (hj : j < l.length), l[j].2.size ≤ 1100000) (w : World) (h : SnsAt w w.heap.size A l) (h1 : SnOk n b l d) (h2 : 0 < l.length) (h3 : ¬ (0 ≤ x ∧ x ≤ 255)) :
    Calls Tryd.prog 12 #[seV n b (.slice A l.length c) d, ntV x p q] w fun e w' => ∃ A1 c1, e = .returned (seV n b (.slice A1 (heL n b d l x).length c1) (heD n b d l x)) ∧ OwnO w' w.heap.size (.slice A1 (heL n b d l x).length c1) (heL n b d l x) ∧ Below w.heap.size w w' := by
  have HV := Lib.hid (he_no (n := n) (b := b) (d := d) (l := l) (x := x) (fun h => h3 h.2.2.1))
  have HC := Lib.hid (fun W (hb : Below w.heap.size w W) => copy_impl n b d A l c (by omega) W ((h.more hb).raise hb.size))
  have HS := Lib.hid (fun W (hb : Below w.heap.size w W) => so_impl n b d A l c (by omega) hs W ((h.more hb).raise hb.size))
  rw [show snB n b l d = true from snB_yes h1] at HS
  have HI := Lib.hid (iq_no x h3)
  have hE : ((l.length : Int) == 0) = false := beq_eq_false_iff_ne.2 (by omega)
  have hE' : (l.length == 0) = false := beq_eq_false_iff_ne.2 (by omega)
  clear h h1 h2 h3 hs
  go_enter Tryd.func12, Tryd.ntmps12
  go_wp2_with fail
  refine (HC.out _ ((((Below.refl _ w).alloc (Nat.le_refl _) _).alloc (by simp) _).alloc (by simp; omega) _)).mono ?_
  rintro e w1 ⟨A1, c1, rfl, ho1, hb1⟩
  have N1 := Lib.hid (OwnR.more ho1 ((Below.refl _ _).alloc (Nat.le_refl _) (.cells (seL n b (.slice A1 l.length c1) d).toArray 26)))
  have P1 := Lib.hid (HP.start n b d _ A1 l _ c1 x p q 26 41 26 hb1 ho1)
  clear hb1 ho1
  obtain ⟨k0, k1, k2, k3⟩ := P1.out.b2.fourS
  go_wp2_with fail
  refine (HS.out _ P1.out.below).mono ?_
  rintro e w2 ⟨rfl, hb2⟩
  have P2 := Lib.hid (P1.out.more hb2)
  have N2 := Lib.hid (OwnR.more N1.out hb2)
  clear hb2 k0 k1 k2 k3 P1 N1
  generalize w1.heap.size = g6 at *
  obtain ⟨k0, k1, k2, k3⟩ := P2.out.b2.fourS
  obtain ⟨m0, m1, m2⟩ := P2.out.b3.threeR
  go_wp2_with fail
  refine (HI.out _).mono ?_
  rintro e w' ⟨rfl, rfl⟩
  clear k0 k1 k2 k3 m0 m1 m2
  obtain ⟨s0, s1, s2, s3⟩ := P2.out.b6.fourS
  obtain ⟨r0, r1, r2, r3⟩ := P2.out.b4.fourS
  have ri := P2.out.b4.ice
  have BF := Lib.hid (P2.out.fin rfl)
  go_wp2
  show bodyPost Tryd.prog Tryd.f12 _ Exit.ret _ (World.setCells _ (w.heap.size + 2) 0 (seL n b (.slice A1 l.length c1) d))
  generalize World.setCells _ (w.heap.size + 2) 0 (seL n b (.slice A1 l.length c1) d) = WE at *
  obtain ⟨z0, z1, z2, z3⟩ := BF.out.2.1.fourS
  refine bodyPost_ret_by (v := seV n b (.slice A1 l.length c1) d) ?_ rfl ⟨A1, c1, by rw [HV.out.1, HV.out.2], by rw [HV.out.1]; exact BF.out.2.2.lower (by omega), BF.out.1⟩
  simp [results, Tryd.f12, go_sem, z0, z1, z2, z3]

set_option maxHeartbeats 8000000 in
theorem hear_impl_far (n b d : Int) (A : Option Addr) (l : List Sn) (c : Nat) (x : Int) (p q : Bool) (hl : l.length ≤ 1048577) (hs : ∀ j (hj : j < l.length), l[j].2.size ≤ 1100000) (w : World) (h : SnsAt w w.heap.size A l) (h1 : SnOk n b l d) (h2 : 0 < l.length) (h3 : 0 ≤ x ∧ x ≤ 255) (h4 : l.length < heK l x) :
    Calls Tryd.prog 12 #[seV n b (.slice A l.length c) d, ntV x p q] w fun e w' => ∃ A1 c1, e = .returned (seV n b (.slice A1 (heL n b d l x).length c1) (heD n b d l x)) ∧ OwnO w' w.heap.size (.slice A1 (heL n b d l x).length c1) (heL n b d l x) ∧ Below w.heap.size w w' := by
  have HV := Lib.hid (he_no (n := n) (b := b) (d := d) (l := l) (x := x) (fun h => by have := h.2.2.2; omega))
  have HC := Lib.hid (fun W (hb : Below w.heap.size w W) => copy_impl n b d A l c (by omega) W ((h.more hb).raise hb.size))
  have HS := Lib.hid (fun W (hb : Below w.heap.size w W) => so_impl n b d A l c (by omega) hs W ((h.more hb).raise hb.size))
  rw [show snB n b l d = true from snB_yes h1] at HS
  have HI := Lib.hid (iq_yes x h3)
  have hE : ((l.length : Int) == 0) = false := beq_eq_false_iff_ne.2 (by omega)
  have hE' : (l.length == 0) = false := beq_eq_false_iff_ne.2 (by omega)
  obtain ⟨g0, off, hA1, hlt, hcells⟩ := h.resolve_left (by omega)
  subst hA1
  have hc0 : ∀ W, Below w.heap.size w W → W.cell? ⟨g0, off, none⟩ = some (.int .i64 (l[0]'h2).1) := fun W hb => by
    have := (hcells 0 h2).1
    rw [Nat.zero_mul, Nat.add_zero] at this
    exact (hb.cell (p := ⟨g0, off, none⟩) hlt).trans this
  have hq := h1.2 0 h2 h2
  have hq0 : 0 ≤ (l[0]'h2).1 ∧ (l[0]'h2).1 ≤ 255 := by rw [hq.1]; omega
  have hd0 := h1.1.2.2.1
  have hK : heK l x = ((x - (l[0]'h2).1) % 256).toNat := by unfold heK; rw [getN_at h2]
  clear hcells hq
  generalize (l[0]'h2).1 = q0 at *
  obtain ⟨q00, q01⟩ := hq0
  obtain ⟨d00, d01⟩ := hd0
  obtain ⟨x0, x1⟩ := h3
  obtain ⟨K, hKK⟩ : ∃ K, heK l x = K := ⟨_, rfl⟩
  rw [hKK] at hK
  have hKx : (x - q0) % 256 = (K : Int) := by omega
  have hl2 : 0 < l.length := h2
  have HM := Lib.hid (seq_minus x q0 ⟨x0, x1⟩ ⟨q00, q01⟩)
  simp only [hKx] at HM
  rw [hKK] at h4
  have hG : decide ((l.length : Int) < (K : Int)) = true := by simp; omega
  have hG' : decide (l.length < K) = true := by simp; omega
  have HKx := Lib.hid hKx
  have HC0 := Lib.hid hc0
  clear h h1 h2 hs hK hKK hc0
  go_enter Tryd.func12, Tryd.ntmps12
  go_wp2_with fail
  refine (HC.out _ ((((Below.refl _ w).alloc (Nat.le_refl _) _).alloc (by simp) _).alloc (by simp; omega) _)).mono ?_
  rintro e w1 ⟨A1, c1, rfl, ho1, hb1⟩
  have N1 := Lib.hid (OwnR.more ho1 ((Below.refl _ _).alloc (Nat.le_refl _) (.cells (seL n b (.slice A1 l.length c1) d).toArray 26)))
  have P1 := Lib.hid (HP.start n b d _ A1 l _ c1 x p q 26 41 26 hb1 ho1)
  clear hb1 ho1
  obtain ⟨k0, k1, k2, k3⟩ := P1.out.b2.fourS
  go_wp2_with fail
  refine (HS.out _ P1.out.below).mono ?_
  rintro e w2 ⟨rfl, hb2⟩
  have P2 := Lib.hid (P1.out.more hb2)
  have N2 := Lib.hid (OwnR.more N1.out hb2)
  clear hb2 k0 k1 k2 k3 P1 N1
  generalize w1.heap.size = g6 at *
  obtain ⟨k0, k1, k2, k3⟩ := P2.out.b2.fourS
  obtain ⟨m0, m1, m2⟩ := P2.out.b3.threeR
  go_wp2_with fail
  refine (HI.out _).mono ?_
  rintro e w' ⟨rfl, rfl⟩
  have c0 := HC0.out _ P2.out.below
  have hKx := HKx.out
  go_wp2_with fail
  go_quiet ((go_at_call 25; exact Calls.quiet_of_same ((HM.out _).mono fun _ _ h => ⟨h.1, h.2.symm⟩)))
  clear k0 k1 k2 k3 m0 m1 m2 c0
  have P3 := Lib.hid (P2.out.more (below_draws (Below.refl _ _) nq))
  have N3 := Lib.hid (OwnR.more N2.out (below_draws (Below.refl _ _) nq))
  clear P2 N2
  generalize w2.drewN nq = w3 at *
  have P2 := P3
  have hlt2 := P2.out.b2.lt
  clear P3
  obtain ⟨k0, k1, k2, k3⟩ := P2.out.b2.fourS
  obtain ⟨s0, s1, s2, s3⟩ := P2.out.b6.fourS
  obtain ⟨r0, r1, r2, r3⟩ := P2.out.b4.fourS
  have ri := P2.out.b4.ice
  have BF := Lib.hid (P2.out.fin rfl)
  go_wp2
  show bodyPost Tryd.prog Tryd.f12 _ Exit.ret _ (World.setCells _ (w.heap.size + 2) 0 (seL n b (.slice A1 l.length c1) d))
  generalize World.setCells _ (w.heap.size + 2) 0 (seL n b (.slice A1 l.length c1) d) = WE at *
  obtain ⟨z0, z1, z2, z3⟩ := BF.out.2.1.fourS
  refine bodyPost_ret_by (v := seV n b (.slice A1 l.length c1) d) ?_ rfl ⟨A1, c1, by rw [HV.out.1, HV.out.2], by rw [HV.out.1]; exact BF.out.2.2.lower (by omega), BF.out.1⟩
  simp [results, Tryd.f12, go_sem, z0, z1, z2, z3]

set_option maxHeartbeats 8000000 in
theorem hear_impl_take (n b d : Int) (A : Option Addr) (l : List Sn) (c : Nat) (x : Int) (p q : Bool) (hl : l.length ≤ 1048577) (hs : ∀ j (hj : j < l.length), l[j].2.size ≤ 1100000) (w : World) (h : SnsAt w w.heap.size A l) (h1 : SnOk n b l d) (h2 : 0 < l.length) (h3 : 0 ≤ x ∧ x ≤ 255) (h4 : heK l x ≤ l.length) :
    Calls Tryd.prog 12 #[seV n b (.slice A l.length c) d, ntV x p q] w fun e w' => ∃ A1 c1, e = .returned (seV n b (.slice A1 (heL n b d l x).length c1) (heD n b d l x)) ∧ OwnO w' w.heap.size (.slice A1 (heL n b d l x).length c1) (heL n b d l x) ∧ Below w.heap.size w w' := by
  have HV := Lib.hid (he_yes (n := n) (b := b) (d := d) (l := l) (x := x) ⟨h1, h2, h3, h4⟩)
  have HC := Lib.hid (fun W (hb : Below w.heap.size w W) => copy_impl n b d A l c (by omega) W ((h.more hb).raise hb.size))
  have HS := Lib.hid (fun W (hb : Below w.heap.size w W) => so_impl n b d A l c (by omega) hs W ((h.more hb).raise hb.size))
  rw [show snB n b l d = true from snB_yes h1] at HS
  have HI := Lib.hid (iq_yes x h3)
  have hE : ((l.length : Int) == 0) = false := beq_eq_false_iff_ne.2 (by omega)
  have hE' : (l.length == 0) = false := beq_eq_false_iff_ne.2 (by omega)
  obtain ⟨g0, off, hA1, hlt, hcells⟩ := h.resolve_left (by omega)
  subst hA1
  have hc0 : ∀ W, Below w.heap.size w W → W.cell? ⟨g0, off, none⟩ = some (.int .i64 (l[0]'h2).1) := fun W hb => by
    have := (hcells 0 h2).1
    rw [Nat.zero_mul, Nat.add_zero] at this
    exact (hb.cell (p := ⟨g0, off, none⟩) hlt).trans this
  have hq := h1.2 0 h2 h2
  have hq0 : 0 ≤ (l[0]'h2).1 ∧ (l[0]'h2).1 ≤ 255 := by rw [hq.1]; omega
  have hd0 := h1.1.2.2.1
  have hK : heK l x = ((x - (l[0]'h2).1) % 256).toNat := by unfold heK; rw [getN_at h2]
  clear hcells hq
  generalize (l[0]'h2).1 = q0 at *
  obtain ⟨q00, q01⟩ := hq0
  obtain ⟨d00, d01⟩ := hd0
  obtain ⟨x0, x1⟩ := h3
  obtain ⟨K, hKK⟩ : ∃ K, heK l x = K := ⟨_, rfl⟩
  rw [hKK] at hK
  have hKx : (x - q0) % 256 = (K : Int) := by omega
  have hl2 : 0 < l.length := h2
  have HM := Lib.hid (seq_minus x q0 ⟨x0, x1⟩ ⟨q00, q01⟩)
  simp only [hKx] at HM
  rw [hKK] at h4 HV
  have hG : decide ((l.length : Int) < (K : Int)) = false := by simp; omega
  have hG' : decide (l.length < K) = false := by simp; omega
  have hK255 : (K : Int) ≤ 255 := by omega
  have HKx := Lib.hid hKx
  have HC0 := Lib.hid hc0
  obtain ⟨D, hD⟩ : ∃ D : Int, (if 1000000 < d + (K : Int) then 1000000 else d + (K : Int)) = D := ⟨_, rfl⟩
  obtain ⟨L, hL⟩ : ∃ L, l.drop K = L := ⟨_, rfl⟩
  have hLl : l.length - K = L.length := by rw [← hL, List.length_drop]
  rw [hD, hL] at HV
  have HSL := Lib.hid (fun (A1 : Option Addr) (c1 : Nat) => cut_sns A1 l.length c1 K h4)
  have HDR := Lib.hid (fun (A1 : Option Addr) (c1 : Nat) (W : World) (B : Nat) (ho : OwnN W B (.slice A1 l.length c1) l) => (OwnN.drop ho K h4).2)
  rw [hL] at HDR
  rw [hLl] at HSL
  have HD := Lib.hid hD
  clear h h1 h2 hs hK hKK hc0 hD hL hLl
  go_enter Tryd.func12, Tryd.ntmps12
  go_wp2_with fail
  refine (HC.out _ ((((Below.refl _ w).alloc (Nat.le_refl _) _).alloc (by simp) _).alloc (by simp; omega) _)).mono ?_
  rintro e w1 ⟨A1, c1, rfl, ho1, hb1⟩
  have N1 := Lib.hid (OwnR.more ho1 ((Below.refl _ _).alloc (Nat.le_refl _) (.cells (seL n b (.slice A1 l.length c1) d).toArray 26)))
  have P1 := Lib.hid (HP.start n b d _ A1 l _ c1 x p q 26 41 26 hb1 ho1)
  clear hb1 ho1
  obtain ⟨k0, k1, k2, k3⟩ := P1.out.b2.fourS
  go_wp2_with fail
  refine (HS.out _ P1.out.below).mono ?_
  rintro e w2 ⟨rfl, hb2⟩
  have P2 := Lib.hid (P1.out.more hb2)
  have N2 := Lib.hid (OwnR.more N1.out hb2)
  clear hb2 k0 k1 k2 k3 P1 N1
  generalize w1.heap.size = g6 at *
  obtain ⟨k0, k1, k2, k3⟩ := P2.out.b2.fourS
  obtain ⟨m0, m1, m2⟩ := P2.out.b3.threeR
  go_wp2_with fail
  refine (HI.out _).mono ?_
  rintro e w' ⟨rfl, rfl⟩
  have c0 := HC0.out _ P2.out.below
  have hKx := HKx.out
  go_wp2_with fail
  go_quiet ((go_at_call 25; exact Calls.quiet_of_same ((HM.out _).mono fun _ _ h => ⟨h.1, h.2.symm⟩)))
  clear k0 k1 k2 k3 m0 m1 m2 c0
  have P3 := Lib.hid (P2.out.more (below_draws (Below.refl _ _) nq))
  have N3 := Lib.hid (OwnR.more N2.out (below_draws (Below.refl _ _) nq))
  clear P2 N2
  generalize w2.drewN nq = w3 at *
  have P2 := P3
  have hlt2 := P2.out.b2.lt
  clear P3
  clear hKx
  obtain ⟨k0, k1, k2, k3⟩ := P2.out.b2.fourS
  have hsl := HSL.out A1 c1
  have ho := HDR.out A1 c1 w3 _ N3.out
  obtain ⟨U, hU⟩ : ∃ U, (if c1 = K then A1 else A1.map (·.add (K * 2))) = U := ⟨_, rfl⟩
  simp only [hU] at hsl ho
  obtain ⟨c2, hc2⟩ : ∃ c2, c1 - K = c2 := ⟨_, rfl⟩
  simp only [hc2] at hsl ho
  obtain ⟨m0, m1, m2, m3⟩ := P2.out.b6.fourS
  have mi := P2.out.b6.ice
  have P5 := Lib.hid (show HP w w3 g6 _ _ _ _ (.slice U L.length c2) L from by
    have h := P2.out
    have hN := N3.out
    exact ⟨h.below, h.b2, h.b3, h.b4, h.b6, h.g, ho.lower (by simp), fun e => h.nv (by
      rw [← hU] at e
      cases A1 with
      | none => split at e <;> cases e
      | some a =>
        have ha : (a.add (K * 2)).block = a.block := by unfold Addr.add; split <;> rfl
        split at e
        · exact e
        · rw [← e]; exact congrArg some ha.symm)⟩)
  clear ho hU hc2
  have P6 := Lib.hid (show HP w _ g6 _ _ _ (seL n b (.slice U L.length c2) d) (.slice U L.length c2) L from P5.out.set 2 (by simp) (.slice U L.length c2))
  have P7 := Lib.hid (show HP w _ g6 _ _ _ (seL n b (.slice U L.length c2) D) (.slice U L.length c2) L from P6.out.set 3 (by simp) (.int .i64 D))
  have hD := HD.out
  obtain ⟨k0, k1, k2, k3⟩ := P6.out.b2.fourS
  obtain ⟨f0, f1, f2, f3⟩ := P5.out.b6.fourS
  have fi := P5.out.b6.ice
  obtain ⟨e0, e1, e2, e3⟩ := P6.out.b6.fourS
  have ei := P6.out.b6.ice
  obtain ⟨s0, s1, s2, s3⟩ := P7.out.b6.fourS
  obtain ⟨r0, r1, r2, r3⟩ := P7.out.b4.fourS
  have ri := P7.out.b4.ice
  have BF := Lib.hid (P7.out.fin rfl)
  go_wp2
  show bodyPost Tryd.prog Tryd.f12 _ Exit.ret _ (World.setCells _ (w.heap.size + 2) 0 (seL n b (.slice U L.length c2) D))
  generalize World.setCells _ (w.heap.size + 2) 0 (seL n b (.slice U L.length c2) D) = WE at *
  obtain ⟨z0, z1, z2, z3⟩ := BF.out.2.1.fourS
  refine bodyPost_ret_by (v := seV n b (.slice U L.length c2) D) ?_ rfl ⟨_, _, by rw [HV.out.1, HV.out.2], by rw [HV.out.1]; exact BF.out.2.2.lower (by omega), BF.out.1⟩
  simp [results, Tryd.f12, go_sem, z0, z1, z2, z3]

theorem hear_impl (n b d : Int) (A : Option Addr) (l : List Sn) (c : Nat) (x : Int) (p q : Bool) (hl : l.length ≤ 1048577) (hs : ∀ j (hj : j < l.length), l[j].2.size ≤ 1100000) (w : World) (h : SnsAt w w.heap.size A l) :
    Calls Tryd.prog 12 #[seV n b (.slice A l.length c) d, ntV x p q] w fun e w' => ∃ A1 c1, e = .returned (seV n b (.slice A1 (heL n b d l x).length c1) (heD n b d l x)) ∧ OwnO w' w.heap.size (.slice A1 (heL n b d l x).length c1) (heL n b d l x) ∧ Below w.heap.size w w' := by
  by_cases h1 : SnOk n b l d
  · rcases Nat.eq_zero_or_pos l.length with h2 | h2
    · exact hear_impl_none n b d A l c x p q hl hs w h h1 h2
    · by_cases h3 : 0 ≤ x ∧ x ≤ 255
      · rcases Nat.lt_or_ge l.length (heK l x) with h4 | h4
        · exact hear_impl_far n b d A l c x p q hl hs w h h1 h2 h3 h4
        · exact hear_impl_take n b d A l c x p q hl hs w h h1 h2 h3 h4
      · exact hear_impl_seq n b d A l c x p q hl hs w h h1 h2 h3
  · exact hear_impl_bad n b d A l c x p q hl hs w h h1
end Go.Proofs.YtebfefkknaalpaaDoor
