/- What this text proves: the law of FnExactPushFrames: the program and the model answer alike, for every unpacker and list of frames; the list stays; the answer owns its memory. -/
import Derived.Test.YtegahdlfjdjcaabIPs
import Derived.Test.YtegahdlfjdjcaabSPs
import Derived.Test.YtegahdlfjdjcaabFrmT
import Derived.Test.YtegahdlfjdjcaabFrmM
import Derived.Test.YtegahdlfjdjcaabPktM
import Derived.Test.YtegahdlfjdjcaabZz
namespace Go.Proofs.Ytegahdlfjdjcaab
open Go.ChangeShapes Go.WideShapes Go.ChangeAt Go.RowKit
set_option linter.unusedVariables false

/-- The boxes of a law over an unpacker and frames. -/
structure LU (w W : World) (n1 n2 gw gg : Nat) (p zr : List Value) (vw vx vg : Value) (L : List Pk) : Prop where
  below : Below w.heap.size w W
  bp : Box W w.heap.size p
  bw : Box W gw zr
  bg : Box W gg zr
  ow : OwnP W (w.heap.size + 1) vw L
  uw : ∀ k, vw.ownBlock = some k → k < gw
  kx : ∀ k, vx.ownBlock = some k → n1 ≤ k ∧ k < n2
  og : OwnP W n2 vg L
  s1 : w.heap.size < gw
  w1 : gw < n1
  x1 : n1 ≤ n2
  g1 : n2 ≤ gg
  nz : n2 ≤ W.heap.size
theorem LU.more {w W W' : World} {n1 n2 gw gg : Nat} {p zr : List Value} {vw vx vg : Value} {L : List Pk} (h : LU w W n1 n2 gw gg p zr vw vx vg L) (hb : Below W.heap.size W W') : LU w W' n1 n2 gw gg p zr vw vx vg L :=
  ⟨h.below.trans (hb.mono h.below.size), h.bp.more hb, h.bw.more hb, h.bg.more hb, OwnR.more h.ow hb, h.uw, h.kx, OwnR.more h.og hb, h.s1, h.w1, h.x1, h.g1, Nat.le_trans h.nz hb.size⟩
theorem LU.markX {w W W' : World} {n1 n2 gw gg : Nat} {p zr : List Value} {vw vx vg : Value} {L : List Pk} (h : LU w W n1 n2 gw gg p zr vw vx vg L) (hg : W.grownBy W' vx.ownBlock) : LU w W' n1 n2 gw gg p zr vw vx vg L := by
  have a0 := h.s1
  have a1 := h.w1
  have a2 := h.x1
  have a3 := h.g1
  have hne : ∀ k, k < n1 ∨ n2 ≤ k → vx.ownBlock ≠ some k := fun k hk e => by
    have h1 := h.kx k e
    omega
  exact ⟨h.below.grown hg h.below.size (fun k hk => by have := (h.kx k hk).1; omega), h.bp.grown hg (hne _ (by omega)), h.bw.grown hg (hne _ (by omega)), h.bg.grown hg (hne _ (by omega)),
    OwnR.grown h.ow hg (fun k hk => hne _ (by have := h.uw k hk; omega)), h.uw, h.kx, OwnR.grown h.og hg (fun k hk => hne _ (by have := (OwnR.upto h.og k hk).1; omega)), a0, a1, a2, a3, Nat.le_trans h.nz hg.size⟩
/-- What is left of them behind the marks in the answer. -/
structure LV (w W : World) (gw : Nat) (p zr : List Value) (vw : Value) (L : List Pk) : Prop where
  below : Below w.heap.size w W
  bp : Box W w.heap.size p
  bw : Box W gw zr
  ow : OwnP W (w.heap.size + 1) vw L
theorem LV.more {w W W' : World} {gw : Nat} {p zr : List Value} {vw : Value} {L : List Pk} (h : LV w W gw p zr vw L) (hb : Below W.heap.size W W') : LV w W' gw p zr vw L :=
  ⟨h.below.trans (hb.mono h.below.size), h.bp.more hb, h.bw.more hb, OwnR.more h.ow hb⟩
theorem own_stay {E : TypeId} {sz n : Nat} {W W' : World} {b : Nat} {v : Value} {l : List (List Value)} (h : OwnR E sz W b v l) (hb : Below n W W') (hn : ∀ k, v.ownBlock = some k → k < n) : OwnR E sz W' b v l := by
  refine ⟨⟨h.1.1, ?_⟩, h.2⟩
  rcases h.1.2 with h1 | ⟨g, cap, cur, hv, hg, hh, r⟩
  · exact .inl h1
  · exact .inr ⟨g, cap, cur, hv, hg, (hb.block g (hn g (by rw [hv]; rfl))).trans hh, r⟩
theorem LU.markG {w W W' : World} {n1 n2 gw gg : Nat} {p zr : List Value} {vw vx vg : Value} {L : List Pk} (h : LU w W n1 n2 gw gg p zr vw vx vg L) (hb : Below n2 W W') (hz : W.heap.size ≤ W'.heap.size) : LV w W' gw p zr vw L := by
  have a0 := h.s1
  have a1 := h.w1
  have a2 := h.x1
  exact ⟨h.below.trans (hb.mono (by omega)), h.bp.moreAt hb (by omega) hz, h.bw.moreAt hb (by omega) hz, own_stay h.ow hb (fun k hk => by have := h.uw k hk; omega)⟩
/-- The marks of a list of packets lie there. -/
def MksP (W : World) (M : Nat) (v : Value) (n : Nat) : Prop := ∃ A c, v = .slice A n c ∧ (0 < n → ∃ g, A = some ⟨g, 0, none⟩ ∧ g < W.heap.size ∧ MkP W g M n)
theorem MksP.more {W W' : World} {M n : Nat} {v : Value} (h : MksP W M v n) (hb : Below W.heap.size W W') : MksP W' M v n := by
  obtain ⟨A, c, h1, h2⟩ := h
  refine ⟨A, c, h1, fun h0 => ?_⟩
  obtain ⟨g, h3, h4, h5⟩ := h2 h0
  exact ⟨g, h3, Nat.lt_of_lt_of_le h4 hb.size, h5.more hb h4⟩
theorem markP_mks (w : World) (base : Nat) (v : Value) (l : List Pk) (hl : l.length ≤ 1000000) (M : Nat) (hM1 : 1 ≤ M) (hM : M ≤ 10000000) (hown : OwnP w base v l) (hbase : base ≤ w.heap.size) :
    Calls Try.prog 34 #[v, .int .i64 (M : Int)] w fun e w' => e = .returned (.int .i64 ((M : Int) + 3 * (l.length : Int))) ∧ Below base w w' ∧ w.heap.size ≤ w'.heap.size ∧ MksP w' M v l.length :=
  (markP_any w base v l hl M hM1 hM hown hbase).mono fun e w' h => by
    obtain ⟨h1, h2, h3, h4⟩ := h
    obtain ⟨A, c, hv⟩ := hown.form
    rw [List.length_map] at hv
    refine ⟨h1, h2, h3, A, c, hv, fun h0 => ?_⟩
    obtain ⟨g, cap, hg, _⟩ := OwnP.rows hown h0
    have := h4 g cap h0 hg
    rw [hg] at hv
    injection hv with hA
    exact ⟨g, hA.symm, this.1, this.2⟩
theorem heldP_mks (w : World) (M : Nat) (v : Value) (n : Nat) (hn : n ≤ 1000000) (h : MksP w M v n) (hM1 : 1 ≤ M) (hM : M ≤ 10000000) :
    Calls Try.prog 35 #[v, .int .i64 (M : Int)] w fun e w' => e = .returned (.int .i64 ((M : Int) + 3 * (n : Int))) ∧ Below w.heap.size w w' := by
  obtain ⟨A, c, rfl, hA⟩ := h
  exact heldP_any w M A n c hn hA hM1 hM

set_option maxRecDepth 8000 in
set_option maxHeartbeats 8000000 in
theorem law_pushframes (c n : Int) (b : Bool) (r : ByteArray) (l : Int) (A : Option Addr) (fs : List Fr4) (k : Nat) (_ : -9223372036854775808 ≤ c ∧ c ≤ 9223372036854775807) (_ : -9223372036854775808 ≤ n ∧ n ≤ 9223372036854775807) (hr : r.size ≤ maxLen) (_ : -9223372036854775808 ≤ l ∧ l ≤ 9223372036854775807)
    (hl : fs.length ≤ maxLen) (hsz : ∀ j (hj : j < fs.length), fs[j].2.2.2.size ≤ maxLen) (w : World) (h : FrsAt w w.heap.size A fs) :
    Calls Try.prog 8 #[unV c n b r l, .slice A fs.length k] w fun e w' => e = .returned (.bool true) ∧ Below w.heap.size w w' := by
  have F0 := Fit.made w (unL c n b r l) 42
  have hs := fun W => sz_unp c n b r l 1048576 (Nat.le_refl _) hr W
  by_cases hL : r.size ≤ 1048576
  · simp only [if_pos hL] at hs
    have hd0 : decide (1048576 - (r.size : Int) < 0) = false := by simp; omega
    have hs2 := fun W (hb : Below w.heap.size w W) => sz_frs A fs k (1048576 - r.size) hl hsz (by omega) W ((h.more hb).raise hb.size)
    rw [show ((1048576 - r.size : Nat) : Int) = 1048576 - (r.size : Int) by omega] at hs2
    have HS := Lib.hid hs
    clear hs
    by_cases hL2 : fs.length + totD fs fs.length ≤ 1048576 - r.size
    · simp only [if_pos hL2] at hs2
      have hd1 : decide (1048576 - (r.size : Int) - ((fs.length : Int) + (totD fs fs.length : Int)) < 0) = false := by simp; omega
      have HS2 := Lib.hid hs2
      have HT := Lib.hid (to_unp c n b r l)
      have HP := Lib.hid (fun W (hb : Below w.heap.size w W) => to_frs A fs k (by omega) W ((h.more hb).raise hb.size))
      have hx : ∀ v base W, OwnF W base v fs → Calls Try.prog 37 #[unV c n b r l, v] W fun e w' => ∃ v2, e = .returned (.tuple #[unV c (stP c (n, b, r, l) fs fs.length).1 (stP c (n, b, r, l) fs fs.length).2.1 (stP c (n, b, r, l) fs fs.length).2.2.1 (stP c (n, b, r, l) fs fs.length).2.2.2, v2]) ∧ OwnP w' W.heap.size v2 (plP c (n, b, r, l) fs fs.length) ∧ Below W.heap.size W w' := fun v base W ho => pushes_spec c n b r l fs v base (by omega) (by omega) W ho
      have hy : ∀ v base W, OwnF W base v fs → Calls Try.prog 39 #[unV c n b r l, v] W fun e w' => ∃ v2, e = .returned (.tuple #[unV c (stP c (n, b, r, l) fs fs.length).1 (stP c (n, b, r, l) fs fs.length).2.1 (stP c (n, b, r, l) fs fs.length).2.2.1 (stP c (n, b, r, l) fs fs.length).2.2.2, v2]) ∧ OwnP w' W.heap.size v2 (plP c (n, b, r, l) fs fs.length) ∧ Below W.heap.size W w' := fun v base W ho => pushes_impl c n b r l fs v base (by omega) (by omega) W ho
      have hLl : (plP c (n, b, r, l) fs fs.length).length ≤ 262144 := by
        have h1 := plP_len c (n, b, r, l) fs fs.length
        have h2 : (n, b, r, l).2.2.1.size = r.size := rfl
        omega
      obtain ⟨⟨N, B, R, Lo⟩, hSS⟩ : ∃ S, stP c (n, b, r, l) fs fs.length = S := ⟨_, rfl⟩
      rw [hSS] at hx hy
      clear hSS
      obtain ⟨L, hPL⟩ : ∃ L, plP c (n, b, r, l) fs fs.length = L := ⟨_, rfl⟩
      rw [hPL] at hx hy hLl
      clear hPL
      have HX := Lib.hid hx
      have HY := Lib.hid hy
      have HEU := Lib.hid (eq_unp c N B R Lo)
      have HEL := Lib.hid (fun v1 v2 b1 b2 W => eqP_any W b1 b2 v1 v2 L (by omega))
      have HEF := Lib.hid (fun v1 v2 b1 b2 W => eqF_any W b1 b2 v1 v2 fs (by omega))
      have HMF := Lib.hid (fun v bb W hF => markF_any W bb v fs hF 1 (by omega) (by omega))
      have HMK := Lib.hid (fun v b W => markP_mks W b v L (by omega) 1 (by omega) (by omega))
      have HHD := Lib.hid (fun v W (h : MksP W 1 v L.length) => heldP_mks W 1 v L.length (by omega) h (by omega) (by omega))
      have HFB := Lib.hid (show fs.length ≤ 1048576 from by omega)
      obtain ⟨M, hM⟩ : ∃ M, ((1 : Nat) : Int) + 3 * (L.length : Int) = M := ⟨_, rfl⟩
      have hM0 : decide (M < 0) = false := by rw [← hM]; simp; omega
      have hMM : (M != M) = false := by simp
      rw [hM] at HMK HHD
      obtain ⟨K, hK⟩ : ∃ K, ((1 : Nat) : Int) + 4 * (fs.length : Int) = K := ⟨_, rfl⟩
      have hK0 : decide (K < 0) = false := by rw [← hK]; simp; omega
      rw [hK] at HMF
      clear hx hy hM hK hLl hs2 h
      go_enter Try.func8, Try.ntmps8
      go_wp2_with fail
      refine (HS.out _).mono ?_
      rintro e w1 ⟨rfl, hb1⟩
      have F1 := Lib.hid (F0.more hb1)
      clear hb1 F0
      go_wp2_with fail
      refine (HS2.out _ F1.out.below).mono ?_
      rintro e w2 ⟨rfl, hb2⟩
      have F2 := Lib.hid (F1.out.more hb2)
      clear hb2 F1 HS HS2
      obtain ⟨k0, k1, k2, k3, k4⟩ := F2.out.box.five
      go_wp2_with fail
      refine (HT.out _).mono ?_
      rintro e w3 ⟨rfl, hb3⟩
      have F3 := Lib.hid (F2.out.more hb3)
      clear hb3 k0 k1 k2 k3 k4 F2
      go_wp2_with fail
      refine (HP.out _ F3.out.below).mono ?_
      rintro e w4 ⟨v4, rfl, o4, hb4⟩
      have F4 := Lib.hid (F3.out.more hb4)
      have HX4 := Lib.hid (HX.out v4 _ w4 o4)
      clear hb4 o4 F3
      go_wp2_with fail
      refine HX4.out.mono ?_
      rintro e w5 ⟨vw, rfl, ow5, hb5⟩
      have F6 := Lib.hid (show Fit w (w5.alloc (.cells #[.int .i64 c, .int .i64 N, .bool B, .string R, .int .i64 Lo] 45)) w.heap.size (unL c n b r l) from (F4.out.more hb5).more ((Below.refl _ _).alloc (Nat.le_refl _) _))
      have W6 := Lib.hid (show Box (w5.alloc (.cells #[.int .i64 c, .int .i64 N, .bool B, .string R, .int .i64 Lo] 45)) w5.heap.size (unL c N B R Lo) from Box.made w5 (unL c N B R Lo) _ _ rfl)
      have OW6 := Lib.hid (show OwnP (w5.alloc (.cells #[.int .i64 c, .int .i64 N, .bool B, .string R, .int .i64 Lo] 45)) (w.heap.size + 1) vw L from OwnR.more (OwnR.lower ow5 F4.out.box.lt) ((Below.refl _ _).alloc (Nat.le_refl _) _))
      have U6 := Lib.hid (show ∀ k, vw.ownBlock = some k → k < w5.heap.size from fun k hk => (OwnR.upto ow5 k hk).2)
      have S6 := Lib.hid (show w.heap.size < w5.heap.size from (F4.out.more hb5).box.lt)
      clear ow5 hb5 F4 HX4 HX
      go_upto_region 9 with fail
      generalize w5.alloc (.cells #[.int .i64 c, .int .i64 N, .bool B, .string R, .int .i64 Lo] 45) = w6 at *
      generalize w5.heap.size = g6 at *
      go_wp2_with fail
      refine (HP.out _ F6.out.below).mono ?_
      rintro e w7 ⟨vx, rfl, ox7, hb7⟩
      have F7 := Lib.hid (F6.out.more hb7)
      have W7 := Lib.hid (W6.out.more hb7)
      have OW7 := Lib.hid (OwnR.more OW6.out hb7)
      have X7 := Lib.hid ox7
      have S7 := Lib.hid (show g6 < w6.heap.size ∧ w6.heap.size ≤ w7.heap.size from ⟨W6.out.lt, hb7.size⟩)
      clear hb7 ox7 F6 W6 OW6
      go_upto_region 10 with fail
      obtain ⟨k0, k1, k2, k3, k4⟩ := F7.out.box.five
      go_wp2_with fail
      refine (HT.out _).mono ?_
      rintro e w8 ⟨rfl, hb8⟩
      have F8 := Lib.hid (F7.out.more hb8)
      have W8 := Lib.hid (W7.out.more hb8)
      have OW8 := Lib.hid (OwnR.more OW7.out hb8)
      have X8 := Lib.hid (OwnR.more X7.out hb8)
      have KX := Lib.hid (show ∀ k, vx.ownBlock = some k → w6.heap.size ≤ k ∧ k < w7.heap.size from OwnR.upto X7.out)
      have S8 := Lib.hid hb8.size
      have HY8 := Lib.hid (HY.out vx _ w8 X8.out)
      clear hb8 k0 k1 k2 k3 k4 F7 W7 OW7 X7
      go_wp2_with fail
      refine HY8.out.mono ?_
      rintro e w9 ⟨vg, rfl, og9, hb9⟩
      have P10 := Lib.hid (show LU w (w9.alloc (.cells #[.int .i64 c, .int .i64 N, .bool B, .string R, .int .i64 Lo] 45)) w6.heap.size w8.heap.size g6 w9.heap.size (unL c n b r l) (unL c N B R Lo) vw vx vg L from
        ⟨((F8.out.more hb9).more ((Below.refl _ _).alloc (Nat.le_refl _) _)).below, ((F8.out.more hb9).more ((Below.refl _ _).alloc (Nat.le_refl _) _)).box, (W8.out.more hb9).alloc _, Box.made w9 (unL c N B R Lo) _ _ rfl, OwnR.more (OwnR.more OW8.out hb9) ((Below.refl _ _).alloc (Nat.le_refl _) _), U6.out,
          fun k hk => ⟨(KX.out k hk).1, Nat.lt_of_lt_of_le (KX.out k hk).2 S8.out⟩, OwnR.more og9 ((Below.refl _ _).alloc (Nat.le_refl _) _), S6.out, S7.out.1, Nat.le_trans S7.out.2 S8.out, hb9.size, by have := hb9.size; simp; omega⟩)
      have X10 := Lib.hid (show OwnF (w9.alloc (.cells #[.int .i64 c, .int .i64 N, .bool B, .string R, .int .i64 Lo] 45)) w6.heap.size vx fs from OwnR.more (OwnR.more X8.out hb9) ((Below.refl _ _).alloc (Nat.le_refl _) _))
      clear og9 hb9 F8 W8 OW8 X8 HY8 KX S8 S7 S6 U6
      go_upto_region 11 with fail
      generalize w9.alloc (.cells #[.int .i64 c, .int .i64 N, .bool B, .string R, .int .i64 Lo] 45) = w10 at *
      generalize w9.heap.size = g10 at *
      obtain ⟨g0, g1, g2, g3, g4⟩ := P10.out.bg.five
      obtain ⟨m0, m1, m2, m3, m4⟩ := P10.out.bw.five
      go_wp2_with fail
      refine (HEU.out _).mono ?_
      rintro e w11 ⟨rfl, hb11⟩
      have P11 := Lib.hid (P10.out.more hb11)
      have X11 := Lib.hid (OwnR.more X10.out hb11)
      have HL11 := Lib.hid (HEL.out _ _ _ _ w11 P11.out.og P11.out.ow)
      clear hb11 g0 g1 g2 g3 g4 m0 m1 m2 m3 m4 P10 X10
      go_wp2_with fail
      refine HL11.out.mono ?_
      rintro e w12 ⟨rfl, hb12⟩
      have P12 := Lib.hid (P11.out.more hb12)
      have X12 := Lib.hid (OwnR.more X11.out hb12)
      clear hb12 P11 X11 HL11
      go_wp2_with fail
      refine (HP.out _ P12.out.below).mono ?_
      rintro e w13 ⟨v13, rfl, o13, hb13⟩
      have P13 := Lib.hid (P12.out.more hb13)
      have X13 := Lib.hid (OwnR.more X12.out hb13)
      have HF13 := Lib.hid (HEF.out _ _ _ _ w13 X13.out o13)
      clear hb13 o13 P12 X12
      go_wp2_with fail
      refine HF13.out.mono ?_
      rintro e w14 ⟨rfl, hb14⟩
      have P14 := Lib.hid (P13.out.more hb14)
      have X14 := Lib.hid (OwnR.more X13.out hb14)
      have HM14 := Lib.hid (HMF.out _ _ w14 (by have := HFB.out; omega) X14.out (by have h1 := P14.out.x1; have h2 := P14.out.nz; omega))
      clear hb14 P13 X13 HF13
      go_wp2_with fail
      refine HM14.out.mono ?_
      rintro e w15 ⟨rfl, hg15, _⟩
      have P15 := Lib.hid (P14.out.markX hg15)
      clear hg15 P14 X14 HM14 HMF
      obtain ⟨g0, g1, g2, g3, g4⟩ := P15.out.bg.five
      obtain ⟨m0, m1, m2, m3, m4⟩ := P15.out.bw.five
      go_wp2_with fail
      refine (HEU.out _).mono ?_
      rintro e w16 ⟨rfl, hb16⟩
      have P16 := Lib.hid (P15.out.more hb16)
      have HL16 := Lib.hid (HEL.out _ _ _ _ w16 P16.out.og P16.out.ow)
      clear hb16 g0 g1 g2 g3 g4 m0 m1 m2 m3 m4 P15
      go_wp2_with fail
      refine HL16.out.mono ?_
      rintro e w17 ⟨rfl, hb17⟩
      have P17 := Lib.hid (P16.out.more hb17)
      have HM17 := Lib.hid (HMK.out _ _ w17 P17.out.og P17.out.nz)
      clear hb17 P16 HL16
      go_wp2_with fail
      refine HM17.out.mono ?_
      rintro e w18 ⟨rfl, hb18, hz18, mk18⟩
      have Q18 := Lib.hid (P17.out.markG hb18 hz18)
      have K18 := Lib.hid mk18
      have HH18 := Lib.hid (HHD.out _ w18 mk18)
      clear hb18 hz18 mk18 P17 HM17 HMK
      go_wp2_with fail
      refine HH18.out.mono ?_
      rintro e w19 ⟨rfl, hb19⟩
      have Q19 := Lib.hid (Q18.out.more hb19)
      have K19 := Lib.hid (K18.out.more hb19)
      clear hb19 Q18 K18 HH18
      obtain ⟨k0, k1, k2, k3, k4⟩ := Q19.out.bp.five
      go_wp2_with fail
      refine (HT.out _).mono ?_
      rintro e w20 ⟨rfl, hb20⟩
      have Q20 := Lib.hid (Q19.out.more hb20)
      have K20 := Lib.hid (K19.out.more hb20)
      clear hb20 k0 k1 k2 k3 k4 Q19 K19
      go_wp2_with fail
      refine (HP.out _ Q20.out.below).mono ?_
      rintro e w21 ⟨v21, rfl, o21, hb21⟩
      have Q21 := Lib.hid (Q20.out.more hb21)
      have K21 := Lib.hid (K20.out.more hb21)
      have HY21 := Lib.hid (HY.out v21 _ w21 o21)
      clear hb21 o21 Q20 K20
      go_wp2_with fail
      refine HY21.out.mono ?_
      rintro e w22 ⟨vh, rfl, oh22, hb22⟩
      have Q23 := Lib.hid (show LV w (w22.alloc (.cells #[.int .i64 c, .int .i64 N, .bool B, .string R, .int .i64 Lo] 45)) g6 (unL c n b r l) (unL c N B R Lo) vw L from (Q21.out.more hb22).more ((Below.refl _ _).alloc (Nat.le_refl _) _))
      have K23 := Lib.hid (show MksP (w22.alloc (.cells #[.int .i64 c, .int .i64 N, .bool B, .string R, .int .i64 Lo] 45)) 1 vg L.length from (K21.out.more hb22).more ((Below.refl _ _).alloc (Nat.le_refl _) _))
      have X23 := Lib.hid (show Box (w22.alloc (.cells #[.int .i64 c, .int .i64 N, .bool B, .string R, .int .i64 Lo] 45)) w22.heap.size (unL c N B R Lo) from Box.made w22 (unL c N B R Lo) _ _ rfl)
      have O23 := Lib.hid (show OwnP (w22.alloc (.cells #[.int .i64 c, .int .i64 N, .bool B, .string R, .int .i64 Lo] 45)) w21.heap.size vh L from OwnR.more oh22 ((Below.refl _ _).alloc (Nat.le_refl _) _))
      clear oh22 hb22 Q21 K21 HY21
      go_upto_region 28 with fail
      generalize w22.alloc (.cells #[.int .i64 c, .int .i64 N, .bool B, .string R, .int .i64 Lo] 45) = w23 at *
      generalize w22.heap.size = g23 at *
      obtain ⟨g0, g1, g2, g3, g4⟩ := X23.out.five
      obtain ⟨m0, m1, m2, m3, m4⟩ := Q23.out.bw.five
      go_wp2_with fail
      refine (HEU.out _).mono ?_
      rintro e w24 ⟨rfl, hb24⟩
      have Q24 := Lib.hid (Q23.out.more hb24)
      have K24 := Lib.hid (K23.out.more hb24)
      have HL24 := Lib.hid (HEL.out _ _ _ _ w24 (OwnR.more O23.out hb24) Q24.out.ow)
      clear hb24 g0 g1 g2 g3 g4 m0 m1 m2 m3 m4 Q23 K23 X23 O23
      go_wp2_with fail
      refine HL24.out.mono ?_
      rintro e w25 ⟨rfl, hb25⟩
      have Q25 := Lib.hid (Q24.out.more hb25)
      have HH25 := Lib.hid (HHD.out _ w25 (K24.out.more hb25))
      clear hb25 Q24 K24 HL24
      go_wp2_with fail
      refine HH25.out.mono ?_
      rintro e w26 ⟨rfl, hb26⟩
      have Q26 := Lib.hid (Q25.out.more hb26)
      clear hb26 Q25 HH25
      go_wp2
      go_ret
      exact ⟨rfl, Q26.out.below⟩
    · simp only [if_neg hL2] at hs2
      have HS2 := Lib.hid hs2
      clear hs2 h
      go_enter Try.func8, Try.ntmps8
      go_wp2_with fail
      refine (HS.out _).mono ?_
      rintro e w1 ⟨rfl, hb1⟩
      have F1 := Lib.hid (F0.more hb1)
      clear hb1 F0
      go_wp2_with fail
      refine (HS2.out _ F1.out.below).mono ?_
      rintro e w2 ⟨rfl, hb2⟩
      have F2 := Lib.hid (F1.out.more hb2)
      clear hb2
      go_wp2
      go_ret
      exact ⟨rfl, F2.out.below⟩
  · simp only [if_neg hL] at hs
    have HS := Lib.hid hs
    clear hs h
    go_enter Try.func8, Try.ntmps8
    go_wp2_with fail
    refine (HS.out _).mono ?_
    rintro e w1 ⟨rfl, hb1⟩
    have F1 := Lib.hid (F0.more hb1)
    clear hb1 F0
    go_wp2
    go_ret
    exact ⟨rfl, F1.out.below⟩
end Go.Proofs.Ytegahdlfjdjcaab
