/- What this text proves: the law of FnExactTakeFrames: the program and the model answer alike, for every packer; the argument stays; the answer owns its memory. -/
import Derived.Test.YtcjeaahlhfoccabITs
import Derived.Test.YtcjeaahlhfoccabSTs
import Derived.Test.YtcjeaahlhfoccabMarkG
import Derived.Deep.RegionHeld3
import Derived.Deep.Cut
import Derived.Deep.CutRange
namespace Go.Proofs.Ytcjeaahlhfoccab
open Go.ChangeShapes Go.WideShapes Go.ChangeAt Go.RowKit
set_option linter.unusedVariables false

/-- The boxes of a law over a packer that answers frames beside a packer. -/
structure LS (w W : World) (n1 n2 gw gx gg : Nat) (p zw zx zg : List Value) (vw vx vg fw fg : Value) (lw lx lg : List Int) (lf : List Fr) : Prop where
  below : Below w.heap.size w W
  bp : Box W w.heap.size p
  bw : Box W gw zw
  bx : Box W gx zx
  bg : Box W gg zg
  ow : OwnI W (w.heap.size + 1) vw lw
  uw : ∀ k, vw.ownBlock = some k → k < gw
  ox : OwnI W n1 vx lx
  ux : ∀ k, vx.ownBlock = some k → k < gx
  og : OwnI W n2 vg lg
  ug : ∀ k, vg.ownBlock = some k → k < gg
  ol : OwnF W (w.heap.size + 1) fw lf
  ul : ∀ k, fw.ownBlock = some k → k < gw
  kf : ∀ k, fg.ownBlock = some k → n2 ≤ k ∧ k < gg
  ap : ∀ k, vg.ownBlock = some k → fg.ownBlock ≠ some k
  s1 : w.heap.size < gw
  w1 : gw < n1
  x1 : n1 ≤ gx
  x2 : gx < n2
  g1 : n2 ≤ gg
  nz : n2 ≤ W.heap.size
theorem LS.z1 {w W : World} {n1 n2 gw gx gg : Nat} {p zw zx zg : List Value} {vw vx vg fw fg : Value} {lw lx lg : List Int} {lf : List Fr} (h : LS w W n1 n2 gw gx gg p zw zx zg vw vx vg fw fg lw lx lg lf) : n1 ≤ W.heap.size := by
  have := h.x1
  have := h.x2
  have := h.nz
  omega
theorem LS.more {w W W' : World} {n1 n2 gw gx gg : Nat} {p zw zx zg : List Value} {vw vx vg fw fg : Value} {lw lx lg : List Int} {lf : List Fr} (h : LS w W n1 n2 gw gx gg p zw zx zg vw vx vg fw fg lw lx lg lf) (hb : Below W.heap.size W W') : LS w W' n1 n2 gw gx gg p zw zx zg vw vx vg fw fg lw lx lg lf :=
  ⟨h.below.trans (hb.mono h.below.size), h.bp.more hb, h.bw.more hb, h.bx.more hb, h.bg.more hb, h.ow.more hb, h.uw, h.ox.more hb, h.ux, h.og.more hb, h.ug, OwnR.more h.ol hb, h.ul, h.kf, h.ap, h.s1, h.w1, h.x1, h.x2, h.g1, Nat.le_trans h.nz hb.size⟩
theorem LS.markX {w W W' : World} {n1 n2 gw gx gg : Nat} {p zw zx zg : List Value} {vw vx vg fw fg : Value} {lw lx lx' lg : List Int} {lf : List Fr} (h : LS w W n1 n2 gw gx gg p zw zx zg vw vx vg fw fg lw lx lg lf) (ho : OwnI W' n1 vx lx') (hg : W.grownBy W' vx.ownBlock) : LS w W' n1 n2 gw gx gg p zw zx zg vw vx vg fw fg lw lx' lg lf := by
  have hlt := World.ownsRow.lt h.ox
  have a0 := h.s1
  have a1 := h.w1
  have a2 := h.x1
  have a3 := h.x2
  have a4 := h.g1
  have hne : ∀ k, k < n1 ∨ gx ≤ k → vx.ownBlock ≠ some k := fun k hk e => by
    have h1 := (hlt k e).1
    have h2 := h.ux k e
    omega
  exact ⟨h.below.grown hg h.below.size (fun k hk => by have := (hlt k hk).1; omega), h.bp.grown hg (hne _ (by omega)), h.bw.grown hg (hne _ (by omega)), h.bx.grown hg (hne _ (by omega)), h.bg.grown hg (hne _ (by omega)),
    h.ow.grown hg (fun k hk => hne _ (by have := h.uw k hk; omega)), h.uw, ho, h.ux, h.og.grown hg (fun k hk => hne _ (by have := (World.ownsRow.lt h.og k hk).1; omega)), h.ug, OwnR.grown h.ol hg (fun k hk => hne _ (by have := h.ul k hk; omega)), h.ul, h.kf, h.ap, a0, a1, a2, a3, a4, Nat.le_trans h.nz hg.size⟩
theorem LS.markG {w W W' : World} {n1 n2 gw gx gg : Nat} {p zw zx zg : List Value} {vw vx vg fw fg : Value} {lw lx lg lg' : List Int} {lf : List Fr} (h : LS w W n1 n2 gw gx gg p zw zx zg vw vx vg fw fg lw lx lg lf) (ho : OwnI W' n2 vg lg') (hg : W.grownBy W' vg.ownBlock) : LS w W' n1 n2 gw gx gg p zw zx zg vw vx vg fw fg lw lx lg' lf := by
  have hlt := World.ownsRow.lt h.og
  have a0 := h.s1
  have a1 := h.w1
  have a2 := h.x1
  have a3 := h.x2
  have a4 := h.g1
  have hne : ∀ k, k < n2 ∨ gg ≤ k → vg.ownBlock ≠ some k := fun k hk e => by
    have h1 := (hlt k e).1
    have h2 := h.ug k e
    omega
  exact ⟨h.below.grown hg h.below.size (fun k hk => by have := (hlt k hk).1; omega), h.bp.grown hg (hne _ (by omega)), h.bw.grown hg (hne _ (by omega)), h.bx.grown hg (hne _ (by omega)), h.bg.grown hg (hne _ (by omega)),
    h.ow.grown hg (fun k hk => hne _ (by have := h.uw k hk; omega)), h.uw, h.ox.grown hg (fun k hk => hne _ (by have := h.ux k hk; omega)), h.ux, ho, h.ug, OwnR.grown h.ol hg (fun k hk => hne _ (by have := h.ul k hk; omega)), h.ul, h.kf, h.ap, a0, a1, a2, a3, a4, Nat.le_trans h.nz hg.size⟩
theorem LS.markF {w W W' : World} {n1 n2 gw gx gg : Nat} {p zw zx zg : List Value} {vw vx vg fw fg : Value} {lw lx lg : List Int} {lf : List Fr} (h : LS w W n1 n2 gw gx gg p zw zx zg vw vx vg fw fg lw lx lg lf) (hg : W.grownBy W' fg.ownBlock) : LS w W' n1 n2 gw gx gg p zw zx zg vw vx vg fw fg lw lx lg lf := by
  have a0 := h.s1
  have a1 := h.w1
  have a2 := h.x1
  have a3 := h.x2
  have a4 := h.g1
  have hne : ∀ k, k < n2 ∨ gg ≤ k → fg.ownBlock ≠ some k := fun k hk e => by
    have h1 := h.kf k e
    omega
  exact ⟨h.below.grown hg h.below.size (fun k hk => by have := (h.kf k hk).1; omega), h.bp.grown hg (hne _ (by omega)), h.bw.grown hg (hne _ (by omega)), h.bx.grown hg (hne _ (by omega)), h.bg.grown hg (hne _ (by omega)),
    h.ow.grown hg (fun k hk => hne _ (by have := h.uw k hk; omega)), h.uw, h.ox.grown hg (fun k hk => hne _ (by have := h.ux k hk; omega)), h.ux, h.og.grown hg (fun k hk => h.ap k hk), h.ug, OwnR.grown h.ol hg (fun k hk => hne _ (by have := h.ul k hk; omega)), h.ul, h.kf, h.ap, a0, a1, a2, a3, a4, Nat.le_trans h.nz hg.size⟩
/-- The marks of a list of frames lie there. -/
def MksF (W : World) (M : Nat) (v : Value) (n : Nat) : Prop := ∃ A c, v = .slice A n c ∧ (0 < n → ∃ g, A = some ⟨g, 0, none⟩ ∧ g < W.heap.size ∧ MkF W g M n)
theorem MksF.more {W W' : World} {M n : Nat} {v : Value} (h : MksF W M v n) (hb : Below W.heap.size W W') : MksF W' M v n := by
  obtain ⟨A, c, h1, h2⟩ := h
  refine ⟨A, c, h1, fun h0 => ?_⟩
  obtain ⟨g, h3, h4, h5⟩ := h2 h0
  exact ⟨g, h3, Nat.lt_of_lt_of_le h4 hb.size, h5.more hb h4⟩
theorem markF_mks (w : World) (base : Nat) (v : Value) (l : List Fr) (hl : l.length ≤ 1000000) (M : Nat) (hM1 : 1 ≤ M) (hM : M ≤ 10000000) (hown : OwnF w base v l) (hbase : base ≤ w.heap.size) :
    Calls Try.prog 28 #[v, .int .i64 (M : Int)] w fun e w' => e = .returned (.int .i64 ((M : Int) + 4 * (l.length : Int))) ∧ w.grownBy w' v.ownBlock ∧ MksF w' M v l.length :=
  (markF_any w base v l hl M hM1 hM hown hbase).mono fun e w' h => by
    obtain ⟨h1, h2, h3⟩ := h
    obtain ⟨A, c, hv⟩ := hown.form
    rw [List.length_map] at hv
    refine ⟨h1, h2, A, c, hv, fun h0 => ?_⟩
    obtain ⟨g, cap, hg, _⟩ := OwnF.rows hown h0
    have := h3 g cap h0 hg
    rw [hg] at hv
    injection hv with hA
    exact ⟨g, hA.symm, this.1, this.2⟩
theorem heldF_mks (w : World) (M : Nat) (v : Value) (n : Nat) (hn : n ≤ 1000000) (h : MksF w M v n) (hM1 : 1 ≤ M) (hM : M ≤ 10000000) :
    Calls Try.prog 29 #[v, .int .i64 (M : Int)] w fun e w' => e = .returned (.int .i64 ((M : Int) + 4 * (n : Int))) ∧ Below w.heap.size w w' := by
  obtain ⟨A, c, rfl, hA⟩ := h
  exact heldF_any w M A n c hn hA hM1 hM

set_option maxRecDepth 8000 in
set_option maxHeartbeats 8000000 in
theorem law_takeframes (c n : Int) (r : ByteArray) (A : Option Addr) (l : List Int) (k : Nat) (hr : r.size ≤ maxLen) (hl : l.length ≤ maxLen) (w : World) (h : IntsAt w w.heap.size A l) :
    Calls Try.prog 6 #[paV c n r (.slice A l.length k)] w fun e w' => e = .returned (.bool true) ∧ Below w.heap.size w w' := by
  have F0 := Fit.made w (paL c n r (.slice A l.length k)) 24
  have hs := fun W => sz_pak c n r A l.length k 1048576 (Nat.le_refl _) hr hl W
  by_cases hL : r.size + l.length ≤ 1048576
  · have HT := Lib.hid (fun W (hb : Below w.heap.size w W) => to_pak c n r A l k (by omega) W ((h.more hb).raise hb.size))
    obtain ⟨K, hK, hKb⟩ := runs_ex c (n, r, l)
    have hKb2 : K ≤ 1000000 := by have h1 : 24 * K ≤ r.size := hKb; omega
    have hx : ∀ v W, OwnI W w.heap.size v l → Calls Try.prog 25 #[paV c n r v] W fun e w' => ∃ v v2, e = .returned (.tuple #[paV c (itT c (n, r, l) K).1 (itT c (n, r, l) K).2.1 v, v2]) ∧ OwnI w' W.heap.size v (itT c (n, r, l) K).2.2 ∧ OwnF w' W.heap.size v2 (flT c (n, r, l) K) ∧ Below W.heap.size W w' := fun v W ho => by
      obtain ⟨A2, c2, rfl⟩ := ho.form
      exact takes_spec c n r A2 l c2 K (by omega) (by omega) hK hKb2 W ho.ints
    have hy : ∀ v W, OwnI W w.heap.size v l → Calls Try.prog 26 #[paV c n r v] W fun e w' => ∃ v v2, e = .returned (.tuple #[paV c (itT c (n, r, l) K).1 (itT c (n, r, l) K).2.1 v, v2]) ∧ OwnI w' W.heap.size v (itT c (n, r, l) K).2.2 ∧ OwnF w' W.heap.size v2 (flT c (n, r, l) K) ∧ Below W.heap.size W w' := fun v W ho => by
      obtain ⟨A2, c2, rfl⟩ := ho.form
      exact takes_impl c n r A2 l c2 K (by omega) (by omega) hK hKb2 W ho.ints
    have hLl : (itT c (n, r, l) K).2.2.length ≤ 1048576 := Nat.le_trans (itT_le c (n, r, l) K).2 (by show l.length ≤ 1048576; omega)
    have hFl : (flT c (n, r, l) K).length ≤ 1000000 := by rw [flT_len]; exact hKb2
    obtain ⟨⟨N, R, L⟩, hS⟩ : ∃ S, itT c (n, r, l) K = S := ⟨_, rfl⟩
    rw [hS] at hx hy hLl
    replace hLl : L.length ≤ 1048576 := hLl
    obtain ⟨FL, hFL⟩ : ∃ FL, flT c (n, r, l) K = FL := ⟨_, rfl⟩
    rw [hFL] at hx hy hFl
    clear hS hFL hK hKb hKb2
    have HX := Lib.hid hx
    have HY := Lib.hid hy
    have HE := Lib.hid (fun v1 v2 b1 b2 W => eq_pak c n r l (by omega) v1 v2 b1 b2 W)
    have HER := Lib.hid (fun v1 v2 b1 b2 W => eq_pak c N R L (by omega) v1 v2 b1 b2 W)
    have HEL := Lib.hid (fun v1 v2 b1 b2 W => eqF_any W b1 b2 v1 v2 FL (by omega))
    have HMX := Lib.hid (fun v b W => mark_grown c n r l (by omega) v b W)
    have HMG := Lib.hid (fun v b W => mark_grown c N R L (by omega) v b W)
    have HHG := Lib.hid (fun v b W => held_pak c N R L.length (by omega) v b W)
    have HML := Lib.hid (fun v b W => markF_mks W b v FL hFl (1 + L.length) (by omega) (by omega))
    have HHL := Lib.hid (fun v W (h : MksF W (1 + L.length) v FL.length) => heldF_mks W (1 + L.length) v FL.length hFl h (by omega) (by omega))
    obtain ⟨K, hK⟩ : ∃ K, ((1 + l.length : Nat) : Int) = K := ⟨_, rfl⟩
    obtain ⟨M, hM⟩ : ∃ M, ((1 + L.length : Nat) : Int) = M := ⟨_, rfl⟩
    have hK0 : decide (K < 0) = false := by rw [← hK]; simp; omega
    have hM0 : decide (M < 0) = false := by rw [← hM]; simp; omega
    rw [hK] at HMX
    rw [hM] at HMG HHG HML HHL
    obtain ⟨M2, hM2⟩ : ∃ M2, M + 4 * (FL.length : Int) = M2 := ⟨_, rfl⟩
    have hM20 : decide (M2 < 0) = false := by rw [← hM2, ← hM]; simp; omega
    have hMM : (M2 != M2) = false := by simp
    rw [hM2] at HML HHL
    simp only [if_pos hL] at hs
    have hd0 : decide (1048576 - ((r.size : Int) + (l.length : Int)) < 0) = false := by simp; omega
    rw [show ((r.size + l.length : Nat) : Int) = (r.size : Int) + (l.length : Int) by omega] at hs
    have HS := Lib.hid hs
    clear hs h hx hy hK hM hM2 hLl hFl
    go_enter Try.func6, Try.ntmps6
    go_wp2_with fail
    refine (HS.out _).mono ?_
    rintro e w1 ⟨rfl, hb1⟩
    have F1 := Lib.hid (F0.more hb1)
    obtain ⟨k0, k1, k2, k3⟩ := F1.out.box.fourP
    clear hb1 F0
    go_wp2_with fail
    refine (HT.out _ F1.out.below).mono ?_
    rintro e w2 ⟨v2, rfl, ho2, hb2⟩
    have F2 := Lib.hid (F1.out.more hb2)
    have HX2 := Lib.hid (HX.out v2 w2 (ho2.lower F1.out.below.size))
    clear hb2 k0 k1 k2 k3 ho2
    go_wp2_with fail
    refine (HX2.out).mono ?_
    rintro e w3 ⟨vw, fw, rfl, ow3, of3, hb3⟩
    obtain ⟨Aw, cw, hvw⟩ := ow3.form
    subst hvw
    have F4 : Fit w (w3.alloc (.cells #[.int .i64 c, .int .i64 N, .string R, .slice Aw L.length cw] 29)) w.heap.size (paL c n r (.slice A l.length k)) := (F2.out.more hb3).more ((Below.refl _ _).alloc (Nat.le_refl _) _)
    have X4 : Fit w3 (w3.alloc (.cells #[.int .i64 c, .int .i64 N, .string R, .slice Aw L.length cw] 29)) w3.heap.size (paL c N R (.slice Aw L.length cw)) := Fit.made w3 (paL c N R (.slice Aw L.length cw)) _
    have O4 : OwnI (w3.alloc (.cells #[.int .i64 c, .int .i64 N, .string R, .slice Aw L.length cw] 29)) (w.heap.size + 1) (.slice Aw L.length cw) L := (ow3.lower (by have := F2.out.box.lt; omega)).more ((Below.refl _ _).alloc (Nat.le_refl _) _)
    have OF4 := Lib.hid (show OwnF (w3.alloc (.cells #[.int .i64 c, .int .i64 N, .string R, .slice Aw L.length cw] 29)) (w.heap.size + 1) fw FL from OwnR.more (OwnR.lower of3 (by have := F2.out.box.lt; omega)) ((Below.refl _ _).alloc (Nat.le_refl _) _))
    have U4 := Lib.hid (upto ow3)
    have UF4 := Lib.hid (show ∀ k, fw.ownBlock = some k → k < w3.heap.size from fun k hk => (OwnR.upto of3 k hk).2)
    have S4 := Lib.hid (show w.heap.size < w3.heap.size from (F2.out.more hb3).box.lt)
    clear ow3 of3 hb3
    go_upto_region 6 with fail
    generalize w3.alloc (.cells #[.int .i64 c, .int .i64 N, .string R, .slice Aw L.length cw] 29) = w4 at *
    generalize w3.heap.size = g4 at *
    obtain ⟨k0, k1, k2, k3⟩ := F4.box.fourP
    go_wp2_with fail
    refine (HT.out _ F4.below).mono ?_
    rintro e w5 ⟨vx, rfl, ox5, hb5⟩
    obtain ⟨Ax, cx, hvx⟩ := ox5.form
    subst hvx
    have F6 : Fit w (w5.alloc (.cells #[.int .i64 c, .int .i64 n, .string r, .slice Ax l.length cx] 29)) w.heap.size (paL c n r (.slice A l.length k)) := (F4.more hb5).more ((Below.refl _ _).alloc (Nat.le_refl _) _)
    have W6 : Box (w5.alloc (.cells #[.int .i64 c, .int .i64 n, .string r, .slice Ax l.length cx] 29)) g4 (paL c N R (.slice Aw L.length cw)) := (X4.box.more hb5).more ((Below.refl _ _).alloc (Nat.le_refl _) _)
    have X6 : Box (w5.alloc (.cells #[.int .i64 c, .int .i64 n, .string r, .slice Ax l.length cx] 29)) w5.heap.size (paL c n r (.slice Ax l.length cx)) := Box.made w5 (paL c n r (.slice Ax l.length cx)) _ _ rfl
    have OW6 : OwnI (w5.alloc (.cells #[.int .i64 c, .int .i64 n, .string r, .slice Ax l.length cx] 29)) (w.heap.size + 1) (.slice Aw L.length cw) L := (O4.more hb5).more ((Below.refl _ _).alloc (Nat.le_refl _) _)
    have OF6 := Lib.hid (show OwnF (w5.alloc (.cells #[.int .i64 c, .int .i64 n, .string r, .slice Ax l.length cx] 29)) (w.heap.size + 1) fw FL from OwnR.more (OwnR.more OF4.out hb5) ((Below.refl _ _).alloc (Nat.le_refl _) _))
    have OX6 : OwnI (w5.alloc (.cells #[.int .i64 c, .int .i64 n, .string r, .slice Ax l.length cx] 29)) w4.heap.size (.slice Ax l.length cx) l := ox5.more ((Below.refl _ _).alloc (Nat.le_refl _) _)
    have U6 := Lib.hid (upto ox5)
    have S6 := Lib.hid (show w4.heap.size ≤ w5.heap.size from hb5.size)
    have S7 := Lib.hid (show g4 < w4.heap.size from X4.box.lt)
    have S8 := Lib.hid F4.below.size
    clear ox5 hb5 k0 k1 k2 k3 F4 X4 O4 OF4
    go_upto_region 7 with fail
    generalize w5.alloc (.cells #[.int .i64 c, .int .i64 n, .string r, .slice Ax l.length cx] 29) = w6 at *
    generalize w5.heap.size = g6 at *
    obtain ⟨x0, x1, x2, x3⟩ := X6.fourP
    have HY6 := Lib.hid (HY.out _ w6 (OX6.lower S8.out))
    go_wp2_with fail
    refine HY6.out.mono ?_
    rintro e w7 ⟨vg, fg, rfl, og7, of7, hb7⟩
    obtain ⟨Ag, cg, hvg⟩ := og7.form
    subst hvg
    have P8 : LS w (w7.alloc (.cells #[.int .i64 c, .int .i64 N, .string R, .slice Ag L.length cg] 29)) w4.heap.size w6.heap.size g4 g6 w7.heap.size (paL c n r (.slice A l.length k)) (paL c N R (.slice Aw L.length cw)) (paL c n r (.slice Ax l.length cx)) (paL c N R (.slice Ag L.length cg)) (.slice Aw L.length cw) (.slice Ax l.length cx) (.slice Ag L.length cg) fw fg L l L FL :=
      ⟨((F6.more hb7).more ((Below.refl _ _).alloc (Nat.le_refl _) _)).below, ((F6.more hb7).more ((Below.refl _ _).alloc (Nat.le_refl _) _)).box, (W6.more hb7).alloc _, (X6.more hb7).alloc _, Box.made w7 (paL c N R (.slice Ag L.length cg)) _ _ rfl,
       (OW6.more hb7).more ((Below.refl _ _).alloc (Nat.le_refl _) _), U4.out, (OX6.more hb7).more ((Below.refl _ _).alloc (Nat.le_refl _) _), U6.out, og7.more ((Below.refl _ _).alloc (Nat.le_refl _) _), upto og7,
       OwnR.more (OwnR.more OF6.out hb7) ((Below.refl _ _).alloc (Nat.le_refl _) _), UF4.out, OwnR.upto of7, fun k hk e => by
         rcases own_apartF og7 of7 with h | h
         · rw [h] at hk; cases hk
         · exact h (hk.trans e.symm), S4.out, S7.out, S6.out, X6.lt, hb7.size, by have := hb7.size; simp; omega⟩
    have G8 := Lib.hid (show OwnF (w7.alloc (.cells #[.int .i64 c, .int .i64 N, .string R, .slice Ag L.length cg] 29)) w6.heap.size fg FL from OwnR.more of7 ((Below.refl _ _).alloc (Nat.le_refl _) _))
    clear og7 of7 hb7 x0 x1 x2 x3 F6 W6 X6 OW6 OX6 OF6
    go_upto_region 8 with fail
    generalize w7.alloc (.cells #[.int .i64 c, .int .i64 N, .string R, .slice Ag L.length cg] 29) = w8 at *
    generalize w7.heap.size = g8 at *
    obtain ⟨g0, g1, g2, g3⟩ := P8.bg.fourP
    obtain ⟨m0, m1, m2, m3⟩ := P8.bw.fourP
    have HE8 := Lib.hid (HER.out _ _ _ _ w8 P8.og P8.ow)
    go_wp2_with fail
    refine HE8.out.mono ?_
    rintro e w9 ⟨rfl, hb9⟩
    have P9a := Lib.hid (P8.more hb9)
    have G9a := Lib.hid (OwnR.more G8.out hb9)
    have HL9 := Lib.hid (HEL.out _ _ _ _ w9 G9a.out P9a.out.ol)
    clear hb9 g0 g1 g2 g3 m0 m1 m2 m3 P8 G8
    go_wp2_with fail
    refine HL9.out.mono ?_
    rintro e w9b ⟨rfl, hbf⟩
    have P9 := Lib.hid (P9a.out.more hbf)
    have G9 := Lib.hid (OwnR.more G9a.out hbf)
    clear hbf
    have P9d := Lib.hid (P9.out.more (Below.refl _ _).drew)
    have G9d := Lib.hid (OwnR.more G9.out (Below.refl _ _).drew)
    obtain ⟨k0, k1, k2, k3⟩ := P9d.out.bp.fourP
    obtain ⟨x0, x1, x2, x3⟩ := P9d.out.bx.fourP
    have HT9 := Lib.hid ((HT.out _ P9d.out.below).mono fun e w' h => (show ∃ v, e = .returned (paV c n r v) ∧ OwnI w' w.heap.size v l ∧ Below w9b.drew.heap.size w9b.drew w' ∧ Cells4P w' w.heap.size (.int .i64 c) (.int .i64 n) (.string r) (.slice A l.length k) ∧ Cells4P w' g6 (.int .i64 c) (.int .i64 n) (.string r) (.slice Ax l.length cx) from by
      obtain ⟨v, h1, h2, h3⟩ := h
      exact ⟨v, h1, h2.lower P9d.out.below.size, h3, (P9d.out.more h3).bp.fourP, (P9d.out.more h3).bx.fourP⟩))
    go_wp2
    go_region_held3 (fun w' => w'.cell? ⟨w.heap.size, 0, none⟩ = some (.int .i64 c) ∧ w'.cell? ⟨w.heap.size, 1, none⟩ = some (.int .i64 n) ∧ w'.cell? ⟨w.heap.size, 2, none⟩ = some (.string r) ∧ w'.cell? ⟨w.heap.size, 3, none⟩ = some (.slice A l.length k) ∧ w'.cell? ⟨g6, 0, none⟩ = some (.int .i64 c) ∧ w'.cell? ⟨g6, 1, none⟩ = some (.int .i64 n) ∧ w'.cell? ⟨g6, 2, none⟩ = some (.string r) ∧ w'.cell? ⟨g6, 3, none⟩ = some (.slice Ax l.length cx)) (first | exact ⟨k0, k1, k2, k3, x0, x1, x2, x3⟩ | exact ⟨l4, l5, l6, l7, l0, l1, l2, l3⟩ | exact ⟨n4, n5, n6, n7, n0, n1, n2, n3⟩)
      (first
        | (go_at_call 14; (with_reducible refine HT9.out.mono ?_); rintro e w10 ⟨v10, rfl, O10, B10, ⟨l4, l5, l6, l7⟩, l0, l1, l2, l3⟩)
        | (go_at_call 17; (with_reducible refine (HE.out _ _ w4.heap.size w.heap.size _ (P9d.out.more B10).ox O10).mono ?_); rintro e w11 ⟨rfl, B11⟩; obtain ⟨n0, n1, n2, n3⟩ := ((P9d.out.more B10).more B11).bx.fourP; obtain ⟨n4, n5, n6, n7⟩ := ((P9d.out.more B10).more B11).bp.fourP))
    all_goals
      have P11 := Lib.hid ((P9d.out.more B10).more B11)
      have G11 := Lib.hid (OwnR.more (OwnR.more G9d.out B10) B11)
      clear k0 k1 k2 k3 x0 x1 x2 x3 l0 l1 l2 l3 l4 l5 l6 l7 B10 B11 O10
      go_wp2_with fail
      refine (HMX.out _ _ _ P11.out.ox P11.out.z1).mono ?_
      rintro e w12 ⟨rfl, ox12, hg12⟩
      have P12 := Lib.hid (P11.out.markX ox12 hg12)
      have G12 := Lib.hid (OwnR.grown G11.out hg12 (fun k hk e => by
        have h1 := (P11.out.kf k hk).1
        have h2 := P11.out.ux k e
        have h3 := P11.out.x2
        omega))
      obtain ⟨g0, g1, g2, g3⟩ := P12.out.bg.fourP
      obtain ⟨m0, m1, m2, m3⟩ := P12.out.bw.fourP
      have HE12 := Lib.hid (HER.out _ _ _ _ w12 P12.out.og P12.out.ow)
      clear ox12 hg12 n0 n1 n2 n3 n4 n5 n6 n7
      go_wp2_with fail
      refine HE12.out.mono ?_
      rintro e w13 ⟨rfl, hb13⟩
      have P13a := Lib.hid (P12.out.more hb13)
      have G13a := Lib.hid (OwnR.more G12.out hb13)
      have HL13 := Lib.hid (HEL.out _ _ _ _ w13 G13a.out P13a.out.ol)
      clear hb13 g0 g1 g2 g3 m0 m1 m2 m3
      go_wp2_with fail
      refine HL13.out.mono ?_
      rintro e w13b ⟨rfl, hbf⟩
      have P13 := Lib.hid (P13a.out.more hbf)
      have G13 := Lib.hid (OwnR.more G13a.out hbf)
      clear hbf
      obtain ⟨g0, g1, g2, g3⟩ := P13.out.bg.fourP
      go_wp2_with fail
      refine (HMG.out _ _ _ P13.out.og P13.out.nz).mono ?_
      rintro e w14 ⟨rfl, og14, hg14⟩
      have P14 := Lib.hid (P13.out.markG og14 hg14)
      have G14 := Lib.hid (OwnR.grown G13.out hg14 (fun k hk e => P13.out.ap k e hk))
      have HM14 := Lib.hid (HML.out _ _ w14 G14.out P14.out.nz)
      clear og14 hg14 g0 g1 g2 g3
      go_wp2_with fail
      refine HM14.out.mono ?_
      rintro e w14b ⟨rfl, hg14b, mk14⟩
      have P14b := Lib.hid (P14.out.markF hg14b)
      have K14b := Lib.hid mk14
      clear hg14b mk14
      obtain ⟨g0, g1, g2, g3⟩ := P14b.out.bg.fourP
      have HH14 := Lib.hid (HHG.out _ _ w14b P14b.out.og)
      go_wp2_with fail
      refine HH14.out.mono ?_
      rintro e w15a ⟨rfl, hb15⟩
      have P15a := Lib.hid (P14b.out.more hb15)
      have K15a := Lib.hid (K14b.out.more hb15)
      have HL15 := Lib.hid (HHL.out _ w15a K15a.out)
      clear hb15 g0 g1 g2 g3
      go_wp2_with fail
      refine HL15.out.mono ?_
      rintro e w15 ⟨rfl, hb15⟩
      have P15 := Lib.hid (P15a.out.more hb15)
      have K15 := Lib.hid (K15a.out.more hb15)
      clear hb15
      obtain ⟨k0, k1, k2, k3⟩ := P15.out.bp.fourP
      go_wp2_with fail
      refine (HT.out _ P15.out.below).mono ?_
      rintro e w16 ⟨v16, rfl, o16, hb16⟩
      have P16 := Lib.hid (P15.out.more hb16)
      have K16 := Lib.hid (K15.out.more hb16)
      have HY16 := Lib.hid (HY.out v16 w16 (o16.lower P15.out.below.size))
      clear hb16 o16 k0 k1 k2 k3
      go_wp2_with fail
      refine HY16.out.mono ?_
      rintro e w17 ⟨vh, fh, rfl, oh17, of17, hb17⟩
      obtain ⟨Ah, ch, hvh⟩ := oh17.form
      subst hvh
      have P18 : LS w (w17.alloc (.cells #[.int .i64 c, .int .i64 N, .string R, .slice Ah L.length ch] 29)) w4.heap.size w6.heap.size g4 g6 g8 (paL c n r (.slice A l.length k)) (paL c N R (.slice Aw L.length cw)) (paL c n r (.slice Ax l.length cx)) (paL c N R (.slice Ag L.length cg)) (.slice Aw L.length cw) (.slice Ax l.length cx) (.slice Ag L.length cg) fw fg L (marksI 1 l.length) (marksI 1 L.length) FL := (P16.out.more hb17).more ((Below.refl _ _).alloc (Nat.le_refl _) _)
      have K18 := Lib.hid (show MksF (w17.alloc (.cells #[.int .i64 c, .int .i64 N, .string R, .slice Ah L.length ch] 29)) (1 + L.length) fg FL.length from (K16.out.more hb17).more ((Below.refl _ _).alloc (Nat.le_refl _) _))
      have X18 : Box (w17.alloc (.cells #[.int .i64 c, .int .i64 N, .string R, .slice Ah L.length ch] 29)) w17.heap.size (paL c N R (.slice Ah L.length ch)) := Box.made w17 (paL c N R (.slice Ah L.length ch)) _ _ rfl
      have O18 : OwnI (w17.alloc (.cells #[.int .i64 c, .int .i64 N, .string R, .slice Ah L.length ch] 29)) w16.heap.size (.slice Ah L.length ch) L := oh17.more ((Below.refl _ _).alloc (Nat.le_refl _) _)
      have OF18 := Lib.hid (show OwnF (w17.alloc (.cells #[.int .i64 c, .int .i64 N, .string R, .slice Ah L.length ch] 29)) w16.heap.size fh FL from OwnR.more of17 ((Below.refl _ _).alloc (Nat.le_refl _) _))
      clear oh17 of17 hb17
      go_upto_region 29 with fail
      generalize w17.alloc (.cells #[.int .i64 c, .int .i64 N, .string R, .slice Ah L.length ch] 29) = w18 at *
      generalize w17.heap.size = g18 at *
      obtain ⟨x0, x1, x2, x3⟩ := X18.fourP
      obtain ⟨m0, m1, m2, m3⟩ := P18.bw.fourP
      have HE18 := Lib.hid (HER.out _ _ _ _ w18 O18 P18.ow)
      go_wp2_with fail
      refine HE18.out.mono ?_
      rintro e w19 ⟨rfl, hb19⟩
      have P19a := Lib.hid (P18.more hb19)
      have K19a := Lib.hid (K18.out.more hb19)
      have HL19 := Lib.hid (HEL.out _ _ _ _ w19 (OwnR.more OF18.out hb19) P19a.out.ol)
      clear hb19 x0 x1 x2 x3 m0 m1 m2 m3 P18 X18 O18 OF18
      go_wp2_with fail
      refine HL19.out.mono ?_
      rintro e w19b ⟨rfl, hbf⟩
      have P19 := Lib.hid (P19a.out.more hbf)
      have K19 := Lib.hid (K19a.out.more hbf)
      clear hbf
      obtain ⟨g0, g1, g2, g3⟩ := P19.out.bg.fourP
      have HH19 := Lib.hid (HHG.out _ _ w19b P19.out.og)
      go_wp2_with fail
      refine HH19.out.mono ?_
      rintro e w20 ⟨rfl, hb20⟩
      have P20 := Lib.hid (P19.out.more hb20)
      have HL20 := Lib.hid (HHL.out _ w20 (K19.out.more hb20))
      clear hb20 g0 g1 g2 g3
      go_wp2_with fail
      refine HL20.out.mono ?_
      rintro e w21 ⟨rfl, hb21⟩
      have P21 := Lib.hid (P20.out.more hb21)
      clear hb21
      go_wp2
      go_ret
      exact ⟨rfl, P21.out.below⟩
  · simp only [if_neg hL] at hs
    have HS := Lib.hid hs
    clear hs h
    go_enter Try.func6, Try.ntmps6
    go_wp2_with fail
    refine (HS.out _).mono ?_
    rintro e w1 ⟨rfl, hb1⟩
    have F1 := Lib.hid (F0.more hb1)
    clear hb1 F0
    go_wp2
    go_ret
    exact ⟨rfl, F1.out.below⟩
end Go.Proofs.Ytcjeaahlhfoccab
