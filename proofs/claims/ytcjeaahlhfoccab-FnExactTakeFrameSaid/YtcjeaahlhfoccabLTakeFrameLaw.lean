/- What this text proves: the law of FnExactTakeFrame: the program and the model answer alike, for every packer; the argument stays; the answer owns its memory. -/
import Derived.Test.YtcjeaahlhfoccabSTf
import Derived.Test.YtcjeaahlhfoccabMarkG
import Derived.Deep.RegionHeld3
import Derived.Deep.Cut
import Derived.Deep.CutRange
namespace Go.Proofs.Ytcjeaahlhfoccab
open Go.ChangeShapes Go.WideShapes Go.ChangeAt Go.RowKit
set_option linter.unusedVariables false

/-- The boxes of a law over a packer that answers a frame beside a packer. -/
structure LF (w W : World) (n1 n2 gw gx gg : Nat) (p zw zx zg fw fg : List Value) (vw vx vg : Value) (lw lx lg : List Int) : Prop where
  below : Below w.heap.size w W
  bp : Box W w.heap.size p
  bw : Box W gw zw
  bfw : Box W (gw + 1) fw
  bx : Box W gx zx
  bg : Box W gg zg
  bfg : Box W (gg + 1) fg
  ow : OwnI W (w.heap.size + 1) vw lw
  uw : ∀ k, vw.ownBlock = some k → k < gw
  ox : OwnI W n1 vx lx
  ux : ∀ k, vx.ownBlock = some k → k < gx
  og : OwnI W n2 vg lg
  ug : ∀ k, vg.ownBlock = some k → k < gg
  s1 : w.heap.size < gw
  w1 : gw + 1 < n1
  x1 : n1 ≤ gx
  x2 : gx < n2
  g1 : n2 ≤ gg
  nz : n2 ≤ W.heap.size
theorem LF.z1 {w W : World} {n1 n2 gw gx gg : Nat} {p zw zx zg fw fg : List Value} {vw vx vg : Value} {lw lx lg : List Int} (h : LF w W n1 n2 gw gx gg p zw zx zg fw fg vw vx vg lw lx lg) : n1 ≤ W.heap.size := by
  have := h.x1
  have := h.x2
  have := h.nz
  omega
theorem LF.more {w W W' : World} {n1 n2 gw gx gg : Nat} {p zw zx zg fw fg : List Value} {vw vx vg : Value} {lw lx lg : List Int} (h : LF w W n1 n2 gw gx gg p zw zx zg fw fg vw vx vg lw lx lg) (hb : Below W.heap.size W W') : LF w W' n1 n2 gw gx gg p zw zx zg fw fg vw vx vg lw lx lg :=
  ⟨h.below.trans (hb.mono h.below.size), h.bp.more hb, h.bw.more hb, h.bfw.more hb, h.bx.more hb, h.bg.more hb, h.bfg.more hb, h.ow.more hb, h.uw, h.ox.more hb, h.ux, h.og.more hb, h.ug, h.s1, h.w1, h.x1, h.x2, h.g1, Nat.le_trans h.nz hb.size⟩
theorem LF.markX {w W W' : World} {n1 n2 gw gx gg : Nat} {p zw zx zg fw fg : List Value} {vw vx vg : Value} {lw lx lx' lg : List Int} (h : LF w W n1 n2 gw gx gg p zw zx zg fw fg vw vx vg lw lx lg) (ho : OwnI W' n1 vx lx') (hg : W.grownBy W' vx.ownBlock) : LF w W' n1 n2 gw gx gg p zw zx zg fw fg vw vx vg lw lx' lg := by
  have hlt := World.ownsRow.lt h.ox
  have a0 := h.s1
  have a1 := h.w1
  have a2 := h.x1
  have a3 := h.x2
  have a4 := h.g1
  have hne : ∀ k, k < n1 ∨ gx ≤ k → vx.ownBlock ≠ some k := fun k hk e => by
    have h1 := (hlt k e).1
    have h2 := h.ux k e
    omega
  exact ⟨h.below.grown hg h.below.size (fun k hk => by have := (hlt k hk).1; omega), h.bp.grown hg (hne _ (by omega)), h.bw.grown hg (hne _ (by omega)), h.bfw.grown hg (hne _ (by omega)), h.bx.grown hg (hne _ (by omega)), h.bg.grown hg (hne _ (by omega)), h.bfg.grown hg (hne _ (by omega)),
    h.ow.grown hg (fun k hk => hne _ (by have := h.uw k hk; omega)), h.uw, ho, h.ux, h.og.grown hg (fun k hk => hne _ (by have := (World.ownsRow.lt h.og k hk).1; omega)), h.ug, a0, a1, a2, a3, a4, Nat.le_trans h.nz hg.size⟩
theorem LF.markG {w W W' : World} {n1 n2 gw gx gg : Nat} {p zw zx zg fw fg : List Value} {vw vx vg : Value} {lw lx lg lg' : List Int} (h : LF w W n1 n2 gw gx gg p zw zx zg fw fg vw vx vg lw lx lg) (ho : OwnI W' n2 vg lg') (hg : W.grownBy W' vg.ownBlock) : LF w W' n1 n2 gw gx gg p zw zx zg fw fg vw vx vg lw lx lg' := by
  have hlt := World.ownsRow.lt h.og
  have a0 := h.s1
  have a1 := h.w1
  have a2 := h.x1
  have a3 := h.x2
  have a4 := h.g1
  have hne : ∀ k, k < n2 ∨ gg ≤ k → vg.ownBlock ≠ some k := fun k hk e => by
    have h1 := (hlt k e).1
    have h2 := h.ug k e
    omega
  exact ⟨h.below.grown hg h.below.size (fun k hk => by have := (hlt k hk).1; omega), h.bp.grown hg (hne _ (by omega)), h.bw.grown hg (hne _ (by omega)), h.bfw.grown hg (hne _ (by omega)), h.bx.grown hg (hne _ (by omega)), h.bg.grown hg (hne _ (by omega)), h.bfg.grown hg (hne _ (by omega)),
    h.ow.grown hg (fun k hk => hne _ (by have := h.uw k hk; omega)), h.uw, h.ox.grown hg (fun k hk => hne _ (by have := h.ux k hk; omega)), h.ux, ho, h.ug, a0, a1, a2, a3, a4, Nat.le_trans h.nz hg.size⟩

set_option maxRecDepth 8000 in
set_option maxHeartbeats 4000000 in
theorem law_takeframe (c n : Int) (r : ByteArray) (A : Option Addr) (l : List Int) (k : Nat) (hr : r.size ≤ maxLen) (hl : l.length ≤ maxLen) (w : World) (h : IntsAt w w.heap.size A l) :
    Calls Try.prog 5 #[paV c n r (.slice A l.length k)] w fun e w' => e = .returned (.bool true) ∧ Below w.heap.size w w' := by
  have F0 := Fit.made w (paL c n r (.slice A l.length k)) 24
  have hs := fun W => sz_pak c n r A l.length k 1048576 (Nat.le_refl _) hr hl W
  by_cases hL : r.size + l.length ≤ 1048576
  · have HT := Lib.hid (fun W (hb : Below w.heap.size w W) => to_pak c n r A l k (by omega) W ((h.more hb).raise hb.size))
    have hx : ∀ v W, OwnI W w.heap.size v l → Calls Try.prog 22 #[paV c n r v] W fun e w' => ∃ v, e = .returned (.tuple #[paV c (tkN c n r l) (tkR c n r l) v, frW (tkF c n r l), .bool (tkB c n r l)]) ∧ OwnI w' W.heap.size v (tkL c n r l) ∧ Below W.heap.size W w' := fun v W ho => by
      obtain ⟨A2, c2, rfl⟩ := ho.form
      exact take_spec c n r A2 l c2 (by omega) (by omega) W ho.ints
    have hy : ∀ v W, OwnI W w.heap.size v l → Calls Try.prog 23 #[paV c n r v] W fun e w' => ∃ v, e = .returned (.tuple #[paV c (tkN c n r l) (tkR c n r l) v, frW (tkF c n r l), .bool (tkB c n r l)]) ∧ OwnI w' W.heap.size v (tkL c n r l) ∧ Below W.heap.size W w' := fun v W ho => by
      obtain ⟨A2, c2, rfl⟩ := ho.form
      exact take_impl c n r A2 l c2 (by omega) (by omega) W ho.ints
    have hLl := tkL_len c n r l
    obtain ⟨⟨Y1, Y2, Y3, Y4⟩, hF⟩ : ∃ F, tkF c n r l = F := ⟨_, rfl⟩
    rw [hF] at hx hy
    clear hF
    generalize tkN c n r l = N at *
    generalize tkR c n r l = R at *
    generalize tkL c n r l = L at *
    generalize tkB c n r l = B at *
    have HEF := Lib.hid (eq_frm Y1 Y2 Y3 Y4)
    have hBB : (B != B) = false := by simp
    have HX := Lib.hid hx
    have HY := Lib.hid hy
    have HE := Lib.hid (fun v1 v2 b1 b2 W => eq_pak c n r l (by omega) v1 v2 b1 b2 W)
    have HER := Lib.hid (fun v1 v2 b1 b2 W => eq_pak c N R L (by omega) v1 v2 b1 b2 W)
    have HMX := Lib.hid (fun v b W => mark_grown c n r l (by omega) v b W)
    have HMG := Lib.hid (fun v b W => mark_grown c N R L (by omega) v b W)
    have HHG := Lib.hid (fun v b W => held_pak c N R L.length (by omega) v b W)
    obtain ⟨K, hK⟩ : ∃ K, ((1 + l.length : Nat) : Int) = K := ⟨_, rfl⟩
    obtain ⟨M, hM⟩ : ∃ M, ((1 + L.length : Nat) : Int) = M := ⟨_, rfl⟩
    have hK0 : decide (K < 0) = false := by rw [← hK]; simp; omega
    have hM0 : decide (M < 0) = false := by rw [← hM]; simp; omega
    have hMM : (M != M) = false := by simp
    rw [hK] at HMX
    rw [hM] at HMG HHG
    simp only [if_pos hL] at hs
    have hd0 : decide (1048576 - ((r.size : Int) + (l.length : Int)) < 0) = false := by simp; omega
    rw [show ((r.size + l.length : Nat) : Int) = (r.size : Int) + (l.length : Int) by omega] at hs
    have HS := Lib.hid hs
    clear hs h hx hy hK hM hLl
    go_enter Try.func5, Try.ntmps5
    go_wp2_with fail
    refine (HS.out _).mono ?_
    rintro e w1 ⟨rfl, hb1⟩
    have F1 := Lib.hid (F0.more hb1)
    obtain ⟨k0, k1, k2, k3⟩ := F1.out.box.fourP
    clear hb1 F0
    go_wp2_with fail
    refine (HT.out _ F1.out.below).mono ?_
    rintro e w2 ⟨v2, rfl, ho2, hb2⟩
    have F2 := Lib.hid (F1.out.more hb2)
    have HX2 := Lib.hid (HX.out v2 w2 (ho2.lower F1.out.below.size))
    clear hb2 k0 k1 k2 k3 ho2
    go_wp2_with fail
    refine (HX2.out).mono ?_
    rintro e w3 ⟨vw, rfl, ow3, hb3⟩
    obtain ⟨Aw, cw, hvw⟩ := ow3.form
    subst hvw
    have F4 : Fit w ((w3.alloc (.cells #[.int .i64 c, .int .i64 N, .string R, .slice Aw L.length cw] 29)).alloc (.cells #[.int .i64 Y1, .int .i64 Y2, .int .i64 Y3, .string Y4] 41)) w.heap.size (paL c n r (.slice A l.length k)) := ((F2.out.more hb3).more ((Below.refl _ _).alloc (Nat.le_refl _) _)).more ((Below.refl _ _).alloc (Nat.le_refl _) _)
    have X4 : Fit w3 ((w3.alloc (.cells #[.int .i64 c, .int .i64 N, .string R, .slice Aw L.length cw] 29)).alloc (.cells #[.int .i64 Y1, .int .i64 Y2, .int .i64 Y3, .string Y4] 41)) w3.heap.size (paL c N R (.slice Aw L.length cw)) := (Fit.made w3 (paL c N R (.slice Aw L.length cw)) _).more ((Below.refl _ _).alloc (Nat.le_refl _) _)
    have XF4 := Lib.hid (show Box ((w3.alloc (.cells #[.int .i64 c, .int .i64 N, .string R, .slice Aw L.length cw] 29)).alloc (.cells #[.int .i64 Y1, .int .i64 Y2, .int .i64 Y3, .string Y4] 41)) (w3.heap.size + 1) (frL Y1 Y2 Y3 Y4) from Box.made (w3.alloc (.cells (paL c N R (.slice Aw L.length cw)).toArray 29)) (frL Y1 Y2 Y3 Y4) _ _ (by simp))
    have O4 : OwnI ((w3.alloc (.cells #[.int .i64 c, .int .i64 N, .string R, .slice Aw L.length cw] 29)).alloc (.cells #[.int .i64 Y1, .int .i64 Y2, .int .i64 Y3, .string Y4] 41)) (w.heap.size + 1) (.slice Aw L.length cw) L := ((ow3.lower (by have := F2.out.box.lt; omega)).more ((Below.refl _ _).alloc (Nat.le_refl _) _)).more ((Below.refl _ _).alloc (Nat.le_refl _) _)
    have U4 := Lib.hid (upto ow3)
    have S4 := Lib.hid (show w.heap.size < w3.heap.size from (F2.out.more hb3).box.lt)
    clear ow3 hb3
    go_upto_region 6 with fail
    generalize (w3.alloc (.cells #[.int .i64 c, .int .i64 N, .string R, .slice Aw L.length cw] 29)).alloc (.cells #[.int .i64 Y1, .int .i64 Y2, .int .i64 Y3, .string Y4] 41) = w4 at *
    generalize w3.heap.size = g4 at *
    obtain ⟨k0, k1, k2, k3⟩ := F4.box.fourP
    go_wp2_with fail
    refine (HT.out _ F4.below).mono ?_
    rintro e w5 ⟨vx, rfl, ox5, hb5⟩
    obtain ⟨Ax, cx, hvx⟩ := ox5.form
    subst hvx
    have F6 : Fit w (w5.alloc (.cells #[.int .i64 c, .int .i64 n, .string r, .slice Ax l.length cx] 29)) w.heap.size (paL c n r (.slice A l.length k)) := (F4.more hb5).more ((Below.refl _ _).alloc (Nat.le_refl _) _)
    have W6 : Box (w5.alloc (.cells #[.int .i64 c, .int .i64 n, .string r, .slice Ax l.length cx] 29)) g4 (paL c N R (.slice Aw L.length cw)) := (X4.box.more hb5).more ((Below.refl _ _).alloc (Nat.le_refl _) _)
    have X6 : Box (w5.alloc (.cells #[.int .i64 c, .int .i64 n, .string r, .slice Ax l.length cx] 29)) w5.heap.size (paL c n r (.slice Ax l.length cx)) := Box.made w5 (paL c n r (.slice Ax l.length cx)) _ _ rfl
    have WF6 := Lib.hid (show Box (w5.alloc (.cells #[.int .i64 c, .int .i64 n, .string r, .slice Ax l.length cx] 29)) (g4 + 1) (frL Y1 Y2 Y3 Y4) from (XF4.out.more hb5).alloc _)
    have OW6 : OwnI (w5.alloc (.cells #[.int .i64 c, .int .i64 n, .string r, .slice Ax l.length cx] 29)) (w.heap.size + 1) (.slice Aw L.length cw) L := (O4.more hb5).more ((Below.refl _ _).alloc (Nat.le_refl _) _)
    have OX6 : OwnI (w5.alloc (.cells #[.int .i64 c, .int .i64 n, .string r, .slice Ax l.length cx] 29)) w4.heap.size (.slice Ax l.length cx) l := ox5.more ((Below.refl _ _).alloc (Nat.le_refl _) _)
    have U6 := Lib.hid (upto ox5)
    have S6 := Lib.hid (show w4.heap.size ≤ w5.heap.size from hb5.size)
    have S7 := Lib.hid (show g4 + 1 < w4.heap.size from XF4.out.lt)
    have S8 := Lib.hid F4.below.size
    clear ox5 hb5 k0 k1 k2 k3 F4 X4 O4
    go_upto_region 7 with fail
    generalize w5.alloc (.cells #[.int .i64 c, .int .i64 n, .string r, .slice Ax l.length cx] 29) = w6 at *
    generalize w5.heap.size = g6 at *
    obtain ⟨x0, x1, x2, x3⟩ := X6.fourP
    have HY6 := Lib.hid (HY.out _ w6 (OX6.lower S8.out))
    go_wp2_with fail
    refine HY6.out.mono ?_
    rintro e w7 ⟨vg, rfl, og7, hb7⟩
    obtain ⟨Ag, cg, hvg⟩ := og7.form
    subst hvg
    have P8 : LF w ((w7.alloc (.cells #[.int .i64 c, .int .i64 N, .string R, .slice Ag L.length cg] 29)).alloc (.cells #[.int .i64 Y1, .int .i64 Y2, .int .i64 Y3, .string Y4] 41)) w4.heap.size w6.heap.size g4 g6 w7.heap.size (paL c n r (.slice A l.length k)) (paL c N R (.slice Aw L.length cw)) (paL c n r (.slice Ax l.length cx)) (paL c N R (.slice Ag L.length cg)) (frL Y1 Y2 Y3 Y4) (frL Y1 Y2 Y3 Y4) (.slice Aw L.length cw) (.slice Ax l.length cx) (.slice Ag L.length cg) L l L :=
      ⟨(((F6.more hb7).more ((Below.refl _ _).alloc (Nat.le_refl _) _)).more ((Below.refl _ _).alloc (Nat.le_refl _) _)).below, (((F6.more hb7).more ((Below.refl _ _).alloc (Nat.le_refl _) _)).more ((Below.refl _ _).alloc (Nat.le_refl _) _)).box, ((W6.more hb7).alloc _).alloc _, ((WF6.out.more hb7).alloc _).alloc _, ((X6.more hb7).alloc _).alloc _, (Box.made w7 (paL c N R (.slice Ag L.length cg)) _ _ rfl).alloc _, Box.made (w7.alloc (.cells (paL c N R (.slice Ag L.length cg)).toArray 29)) (frL Y1 Y2 Y3 Y4) _ _ (by simp),
       ((OW6.more hb7).more ((Below.refl _ _).alloc (Nat.le_refl _) _)).more ((Below.refl _ _).alloc (Nat.le_refl _) _), U4.out, ((OX6.more hb7).more ((Below.refl _ _).alloc (Nat.le_refl _) _)).more ((Below.refl _ _).alloc (Nat.le_refl _) _), U6.out, (og7.more ((Below.refl _ _).alloc (Nat.le_refl _) _)).more ((Below.refl _ _).alloc (Nat.le_refl _) _), upto og7, S4.out, S7.out, S6.out, X6.lt, hb7.size, by have := hb7.size; simp; omega⟩
    clear og7 hb7 x0 x1 x2 x3 F6 W6 X6 OW6 OX6
    go_upto_region 8 with fail
    generalize (w7.alloc (.cells #[.int .i64 c, .int .i64 N, .string R, .slice Ag L.length cg] 29)).alloc (.cells #[.int .i64 Y1, .int .i64 Y2, .int .i64 Y3, .string Y4] 41) = w8 at *
    generalize w7.heap.size = g8 at *
    obtain ⟨g0, g1, g2, g3⟩ := P8.bg.fourP
    obtain ⟨m0, m1, m2, m3⟩ := P8.bw.fourP
    have HE8 := Lib.hid (HER.out _ _ _ _ w8 P8.og P8.ow)
    go_wp2_with fail
    refine HE8.out.mono ?_
    rintro e w9 ⟨rfl, hb9⟩
    have P9a := Lib.hid (P8.more hb9)
    clear hb9 g0 g1 g2 g3 m0 m1 m2 m3 P8
    obtain ⟨y0, y1, y2, y3⟩ := P9a.out.bfg.four
    obtain ⟨z0, z1, z2, z3⟩ := P9a.out.bfw.four
    go_wp2_with fail
    refine (HEF.out _).mono ?_
    rintro e w9b ⟨rfl, hbf⟩
    have P9 := Lib.hid (P9a.out.more hbf)
    clear hbf y0 y1 y2 y3 z0 z1 z2 z3
    have P9d := Lib.hid (P9.out.more (Below.refl _ _).drew)
    obtain ⟨k0, k1, k2, k3⟩ := P9d.out.bp.fourP
    obtain ⟨x0, x1, x2, x3⟩ := P9d.out.bx.fourP
    have HT9 := Lib.hid ((HT.out _ P9d.out.below).mono fun e w' h => (show ∃ v, e = .returned (paV c n r v) ∧ OwnI w' w.heap.size v l ∧ Below w9b.drew.heap.size w9b.drew w' ∧ Cells4P w' w.heap.size (.int .i64 c) (.int .i64 n) (.string r) (.slice A l.length k) ∧ Cells4P w' g6 (.int .i64 c) (.int .i64 n) (.string r) (.slice Ax l.length cx) from by
      obtain ⟨v, h1, h2, h3⟩ := h
      exact ⟨v, h1, h2.lower P9d.out.below.size, h3, (P9d.out.more h3).bp.fourP, (P9d.out.more h3).bx.fourP⟩))
    go_wp2
    go_region_held3 (fun w' => w'.cell? ⟨w.heap.size, 0, none⟩ = some (.int .i64 c) ∧ w'.cell? ⟨w.heap.size, 1, none⟩ = some (.int .i64 n) ∧ w'.cell? ⟨w.heap.size, 2, none⟩ = some (.string r) ∧ w'.cell? ⟨w.heap.size, 3, none⟩ = some (.slice A l.length k) ∧ w'.cell? ⟨g6, 0, none⟩ = some (.int .i64 c) ∧ w'.cell? ⟨g6, 1, none⟩ = some (.int .i64 n) ∧ w'.cell? ⟨g6, 2, none⟩ = some (.string r) ∧ w'.cell? ⟨g6, 3, none⟩ = some (.slice Ax l.length cx)) (first | exact ⟨k0, k1, k2, k3, x0, x1, x2, x3⟩ | exact ⟨l4, l5, l6, l7, l0, l1, l2, l3⟩ | exact ⟨n4, n5, n6, n7, n0, n1, n2, n3⟩)
      (first
        | (go_at_call 14; (with_reducible refine HT9.out.mono ?_); rintro e w10 ⟨v10, rfl, O10, B10, ⟨l4, l5, l6, l7⟩, l0, l1, l2, l3⟩)
        | (go_at_call 17; (with_reducible refine (HE.out _ _ w4.heap.size w.heap.size _ (P9d.out.more B10).ox O10).mono ?_); rintro e w11 ⟨rfl, B11⟩; obtain ⟨n0, n1, n2, n3⟩ := ((P9d.out.more B10).more B11).bx.fourP; obtain ⟨n4, n5, n6, n7⟩ := ((P9d.out.more B10).more B11).bp.fourP))
    all_goals
      have P11 := Lib.hid ((P9d.out.more B10).more B11)
      clear k0 k1 k2 k3 x0 x1 x2 x3 l0 l1 l2 l3 l4 l5 l6 l7 B10 B11 O10
      go_wp2_with fail
      refine (HMX.out _ _ _ P11.out.ox P11.out.z1).mono ?_
      rintro e w12 ⟨rfl, ox12, hg12⟩
      have P12 := Lib.hid (P11.out.markX ox12 hg12)
      obtain ⟨g0, g1, g2, g3⟩ := P12.out.bg.fourP
      obtain ⟨m0, m1, m2, m3⟩ := P12.out.bw.fourP
      have HE12 := Lib.hid (HER.out _ _ _ _ w12 P12.out.og P12.out.ow)
      clear ox12 hg12 n0 n1 n2 n3 n4 n5 n6 n7
      go_wp2_with fail
      refine HE12.out.mono ?_
      rintro e w13 ⟨rfl, hb13⟩
      have P13a := Lib.hid (P12.out.more hb13)
      clear hb13 g0 g1 g2 g3 m0 m1 m2 m3
      obtain ⟨y0, y1, y2, y3⟩ := P13a.out.bfg.four
      obtain ⟨z0, z1, z2, z3⟩ := P13a.out.bfw.four
      go_wp2_with fail
      refine (HEF.out _).mono ?_
      rintro e w13b ⟨rfl, hbf⟩
      have P13 := Lib.hid (P13a.out.more hbf)
      clear hbf y0 y1 y2 y3 z0 z1 z2 z3
      obtain ⟨g0, g1, g2, g3⟩ := P13.out.bg.fourP
      go_wp2_with fail
      refine (HMG.out _ _ _ P13.out.og P13.out.nz).mono ?_
      rintro e w14 ⟨rfl, og14, hg14⟩
      have P14 := Lib.hid (P13.out.markG og14 hg14)
      clear og14 hg14 g0 g1 g2 g3
      obtain ⟨g0, g1, g2, g3⟩ := P14.out.bg.fourP
      have HH14 := Lib.hid (HHG.out _ _ w14 P14.out.og)
      go_wp2_with fail
      refine HH14.out.mono ?_
      rintro e w15 ⟨rfl, hb15⟩
      have P15 := Lib.hid (P14.out.more hb15)
      clear hb15 g0 g1 g2 g3
      obtain ⟨k0, k1, k2, k3⟩ := P15.out.bp.fourP
      go_wp2_with fail
      refine (HT.out _ P15.out.below).mono ?_
      rintro e w16 ⟨v16, rfl, o16, hb16⟩
      have P16 := Lib.hid (P15.out.more hb16)
      have HY16 := Lib.hid (HY.out v16 w16 (o16.lower P15.out.below.size))
      clear hb16 o16 k0 k1 k2 k3
      go_wp2_with fail
      refine HY16.out.mono ?_
      rintro e w17 ⟨vh, rfl, oh17, hb17⟩
      obtain ⟨Ah, ch, hvh⟩ := oh17.form
      subst hvh
      have P18 : LF w ((w17.alloc (.cells #[.int .i64 c, .int .i64 N, .string R, .slice Ah L.length ch] 29)).alloc (.cells #[.int .i64 Y1, .int .i64 Y2, .int .i64 Y3, .string Y4] 41)) w4.heap.size w6.heap.size g4 g6 g8 (paL c n r (.slice A l.length k)) (paL c N R (.slice Aw L.length cw)) (paL c n r (.slice Ax l.length cx)) (paL c N R (.slice Ag L.length cg)) (frL Y1 Y2 Y3 Y4) (frL Y1 Y2 Y3 Y4) (.slice Aw L.length cw) (.slice Ax l.length cx) (.slice Ag L.length cg) L (marksI 1 l.length) (marksI 1 L.length) := ((P16.out.more hb17).more ((Below.refl _ _).alloc (Nat.le_refl _) _)).more ((Below.refl _ _).alloc (Nat.le_refl _) _)
      have XF18 : Box ((w17.alloc (.cells #[.int .i64 c, .int .i64 N, .string R, .slice Ah L.length ch] 29)).alloc (.cells #[.int .i64 Y1, .int .i64 Y2, .int .i64 Y3, .string Y4] 41)) (w17.heap.size + 1) (frL Y1 Y2 Y3 Y4) := Box.made (w17.alloc (.cells (paL c N R (.slice Ah L.length ch)).toArray 29)) (frL Y1 Y2 Y3 Y4) _ _ (by simp)
      have X18 : Box ((w17.alloc (.cells #[.int .i64 c, .int .i64 N, .string R, .slice Ah L.length ch] 29)).alloc (.cells #[.int .i64 Y1, .int .i64 Y2, .int .i64 Y3, .string Y4] 41)) w17.heap.size (paL c N R (.slice Ah L.length ch)) := (Box.made w17 (paL c N R (.slice Ah L.length ch)) _ _ rfl).alloc _
      have O18 : OwnI ((w17.alloc (.cells #[.int .i64 c, .int .i64 N, .string R, .slice Ah L.length ch] 29)).alloc (.cells #[.int .i64 Y1, .int .i64 Y2, .int .i64 Y3, .string Y4] 41)) w16.heap.size (.slice Ah L.length ch) L := (oh17.more ((Below.refl _ _).alloc (Nat.le_refl _) _)).more ((Below.refl _ _).alloc (Nat.le_refl _) _)
      clear oh17 hb17
      go_upto_region 25 with fail
      generalize (w17.alloc (.cells #[.int .i64 c, .int .i64 N, .string R, .slice Ah L.length ch] 29)).alloc (.cells #[.int .i64 Y1, .int .i64 Y2, .int .i64 Y3, .string Y4] 41) = w18 at *
      generalize w17.heap.size = g18 at *
      obtain ⟨x0, x1, x2, x3⟩ := X18.fourP
      obtain ⟨m0, m1, m2, m3⟩ := P18.bw.fourP
      have HE18 := Lib.hid (HER.out _ _ _ _ w18 O18 P18.ow)
      go_wp2_with fail
      refine HE18.out.mono ?_
      rintro e w19 ⟨rfl, hb19⟩
      have P19a := Lib.hid (P18.more hb19)
      obtain ⟨y0, y1, y2, y3⟩ := (XF18.more hb19).four
      obtain ⟨z0, z1, z2, z3⟩ := P19a.out.bfw.four
      clear hb19 x0 x1 x2 x3 m0 m1 m2 m3 P18 X18 O18 XF18
      go_wp2_with fail
      refine (HEF.out _).mono ?_
      rintro e w19b ⟨rfl, hbf⟩
      have P19 := Lib.hid (P19a.out.more hbf)
      clear hbf y0 y1 y2 y3 z0 z1 z2 z3
      obtain ⟨g0, g1, g2, g3⟩ := P19.out.bg.fourP
      have HH19 := Lib.hid (HHG.out _ _ w19b P19.out.og)
      go_wp2_with fail
      refine HH19.out.mono ?_
      rintro e w20 ⟨rfl, hb20⟩
      have P20 := Lib.hid (P19.out.more hb20)
      clear hb20 g0 g1 g2 g3
      go_wp2
      go_ret
      exact ⟨rfl, P20.out.below⟩
  · simp only [if_neg hL] at hs
    have HS := Lib.hid hs
    clear hs h
    go_enter Try.func5, Try.ntmps5
    go_wp2_with fail
    refine (HS.out _).mono ?_
    rintro e w1 ⟨rfl, hb1⟩
    have F1 := Lib.hid (F0.more hb1)
    clear hb1 F0
    go_wp2
    go_ret
    exact ⟨rfl, F1.out.below⟩
end Go.Proofs.Ytcjeaahlhfoccab
