/- What this text proves: the laws' own comparison, marks and their reading over senders whose list lies somewhere in a block. -/
import Derived.Test.YtmmedhjmilgnbabSntO
import Derived.Test.YtmmedhjmilgnbabSnd
namespace Go.Proofs.Ytmmedhjmilgnbab
open Go.ChangeShapes Go.WideShapes Go.ChangeAt Go.RowKit
set_option linter.unusedVariables false

theorem eq_sno (n b d : Int) (l : List Sn) (hl : l.length ≤ 2000000) (v1 v2 : Value) (b1 b2 : Nat) (w : World) (h1 : OwnO w b1 v1 l) (h2 : OwnO w b2 v2 l) :
    Calls Try.prog 16 #[seV n b v1 d, seV n b v2 d] w fun e w' => e = .returned (.bool true) ∧ Below w.heap.size w w' := by
  obtain ⟨A1, c1, rfl⟩ := h1.form
  obtain ⟨A2, c2, rfl⟩ := h2.form
  have HE := Lib.hid (fun W (hb : Below w.heap.size w W) => eqSo_any W b1 b2 (.slice A1 l.length c1) (.slice A2 l.length c2) l hl (OwnO.more h1 hb) (OwnO.more h2 hb))
  have B0 := (((Below.refl _ w).alloc (Nat.le_refl _) (.cells (seL n b (.slice A1 l.length c1) d).toArray 38)).alloc (by simp) (.cells (seL n b (.slice A2 l.length c2) d).toArray 38))
  have X0 := (Box.made w (seL n b (.slice A1 l.length c1) d) 38 w.heap.size rfl).alloc (.cells (seL n b (.slice A2 l.length c2) d).toArray 38)
  have Y0 := Box.made (w.alloc (.cells (seL n b (.slice A1 l.length c1) d).toArray 38)) (seL n b (.slice A2 l.length c2) d) 38 (w.heap.size + 1) (by simp)
  clear h1 h2
  go_enter Try.func16, Try.ntmps16
  go_wp2_with fail
  refine (HE.out _ B0).mono ?_
  rintro e w' ⟨rfl, hb⟩
  obtain ⟨x0, x1, x2, x3⟩ := (X0.more hb).fourS
  obtain ⟨y0, y1, y2, y3⟩ := (Y0.more hb).fourS
  have HB := Lib.hid (B0.trans (hb.mono B0.size))
  clear hb X0 Y0 B0
  go_wp2
  go_ret
  exact ⟨rfl, HB.out⟩

theorem mark_sno (n b d : Int) (l : List Sn) (hl : l.length ≤ 1100000) (v : Value) (base : Nat) (w : World) (h : OwnO w base v l) (hb : base ≤ w.heap.size) :
    Calls Try.prog 17 #[seV n b v d, .int .i64 1] w fun e w' => e = .returned (.int .i64 (1 + 2 * (l.length : Int))) ∧ w.grownBy w' v.ownBlock ∧ MksO w' 1 v l.length := by
  obtain ⟨A1, c1, rfl⟩ := h.form
  have HE := Lib.hid (fun W (hW : Below w.heap.size w W) => (markO_any W base (.slice A1 l.length c1) l hl 1 (by omega) (by omega) (OwnO.more h hW) (Nat.le_trans hb hW.size)).mono fun e w' hh => (show e = .returned (.int .i64 (1 + 2 * (l.length : Int))) ∧ w.grownBy w' (Value.slice A1 l.length c1).ownBlock ∧ MksO w' 1 (.slice A1 l.length c1) l.length from ⟨hh.1, grown_trans (grown_of hW _) hh.2.1, hh.2.2⟩))
  clear h
  go_enter Try.func17, Try.ntmps17
  go_wp2_with fail
  refine (HE.out _ ((Below.refl _ w).alloc (Nat.le_refl _) _)).mono ?_
  rintro e w' ⟨rfl, hg, hm⟩
  have HG := Lib.hid hg
  have HM := Lib.hid hm
  clear hg hm
  go_wp2
  go_ret
  exact ⟨rfl, HG.out, HM.out⟩
theorem held_sno (n b d : Int) (N : Nat) (hN : N ≤ 1100000) (v : Value) (w : World) (h : MksO w 1 v N) :
    Calls Try.prog 18 #[seV n b v d, .int .i64 1] w fun e w' => e = .returned (.int .i64 (1 + 2 * (N : Int))) ∧ Below w.heap.size w w' := by
  obtain ⟨A1, c1, hv, _⟩ := id h
  subst hv
  have hd : decide (1 + 2 * (N : Int) < 0) = false := by simp; omega
  have HE := Lib.hid (fun W (hW : Below w.heap.size w W) => heldO_mks W 1 (.slice A1 N c1) N hN (h.more hW) (by omega) (by omega))
  clear h
  go_enter Try.func18, Try.ntmps18
  go_wp2_with fail
  refine (HE.out _ ((Below.refl _ w).alloc (Nat.le_refl _) _)).mono ?_
  rintro e w' ⟨rfl, hb⟩
  have HB := Lib.hid (((Below.refl _ w).alloc (Nat.le_refl _) (.cells (seL n b (.slice A1 N c1) d).toArray 38)).trans (hb.mono (by simp)))
  clear hb
  go_wp2
  go_ret
  exact ⟨rfl, HB.out⟩
end Go.Proofs.Ytmmedhjmilgnbab
