/- What this text proves: the contracts of the laws' own functions over senders: their sizes, copies, comparisons and marks. -/
import Derived.Test.YtmmedhjmilgnbabSntM
import Derived.Test.YtmmedhjmilgnbabSndB
namespace Go.Proofs.Ytmmedhjmilgnbab
open Go.ChangeShapes Go.WideShapes Go.ChangeAt Go.RowKit
set_option linter.unusedVariables false

theorem sz_snd (n b d : Int) (A : Option Addr) (l : List Sn) (c L : Nat) (hl : l.length ≤ maxLen) (hs : ∀ j (hj : j < l.length), l[j].2.size ≤ maxLen) (hL : L ≤ 1048576) (w : World) (h : SnsAt w w.heap.size A l) :
    Calls Try.prog 12 #[seV n b (.slice A l.length c) d, .int .i64 (L : Int)] w fun e w' => e = .returned (.int .i64 (if l.length + totN l l.length ≤ L then (L : Int) - ((l.length : Int) + (totN l l.length : Int)) else -1)) ∧ Below w.heap.size w w' := by
  have HC := Lib.hid (fun W (hb : Below w.heap.size w W) => sz_sns A l c L hl hs hL W ((h.more hb).raise hb.size))
  clear h
  by_cases hk : l.length + totN l l.length ≤ L
  · simp only [if_pos hk] at HC ⊢
    have hd0 : decide ((L : Int) - ((l.length : Int) + (totN l l.length : Int)) < 0) = false := by simp; omega
    generalize (L : Int) - ((l.length : Int) + (totN l l.length : Int)) = X at *
    go_enter Try.func12, Try.ntmps12
    go_wp2_with fail
    refine (HC.out _ ((Below.refl _ w).alloc (Nat.le_refl _) _)).mono ?_
    rintro e w' ⟨rfl, hb⟩
    have HB := Lib.hid (((Below.refl _ w).alloc (Nat.le_refl _) (.cells (seL n b (.slice A l.length c) d).toArray 34)).trans (hb.mono (by simp)))
    clear hb
    go_wp2
    go_ret
    exact ⟨rfl, HB.out⟩
  · simp only [if_neg hk] at HC ⊢
    go_enter Try.func12, Try.ntmps12
    go_wp2_with fail
    refine (HC.out _ ((Below.refl _ w).alloc (Nat.le_refl _) _)).mono ?_
    rintro e w' ⟨rfl, hb⟩
    have HB := Lib.hid (((Below.refl _ w).alloc (Nat.le_refl _) (.cells (seL n b (.slice A l.length c) d).toArray 34)).trans (hb.mono (by simp)))
    clear hb
    go_wp2
    go_ret
    exact ⟨rfl, HB.out⟩

set_option maxHeartbeats 2000000 in
theorem to_snd (n b d : Int) (A : Option Addr) (l : List Sn) (k : Nat) (hl : l.length ≤ 1048576) (w : World) (h : SnsAt w w.heap.size A l) :
    Calls Try.prog 14 #[seV n b (.slice A l.length k) d] w fun e w' => ∃ A1 c1, e = .returned (seV n b (.slice A1 l.length c1) d) ∧ OwnN w' w.heap.size (.slice A1 l.length c1) l ∧ Below w.heap.size w w' := by
  have HT := Lib.hid (fun W (hb : Below w.heap.size w W) => to_sns A l k hl W ((h.more hb).raise hb.size))
  clear h
  go_enter Try.func14, Try.ntmps14
  go_wp2_with fail
  have BI := ((Box.made w (seL n b (.slice A l.length k) d) 34 w.heap.size rfl).alloc (.cells (seL 0 0 (.slice none 0 0) 0).toArray 38)).alloc (.cells (seL n b (.slice none 0 0) 0).toArray 38)
  have BR := ((Box.made (w.alloc (.cells (seL n b (.slice A l.length k) d).toArray 34)) (seL 0 0 (.slice none 0 0) 0) 38 (w.heap.size + 1) (by simp)).alloc (.cells (seL n b (.slice none 0 0) 0).toArray 38))
  have BO := Box.made ((w.alloc (.cells (seL n b (.slice A l.length k) d).toArray 34)).alloc (.cells (seL 0 0 (.slice none 0 0) 0).toArray 38)) (seL n b (.slice none 0 0) 0) 38 (w.heap.size + 1 + 1) (by simp)
  have BB : Below w.heap.size w (((w.alloc (.cells (seL n b (.slice A l.length k) d).toArray 34)).alloc (.cells (seL 0 0 (.slice none 0 0) 0).toArray 38)).alloc (.cells (seL n b (.slice none 0 0) 0).toArray 38)) := (((Below.refl _ w).alloc (Nat.le_refl _) _).alloc (by simp) _).alloc (by simp; omega) _
  have hz : (((w.alloc (.cells (seL n b (.slice A l.length k) d).toArray 34)).alloc (.cells (seL 0 0 (.slice none 0 0) 0).toArray 38)).alloc (.cells (seL n b (.slice none 0 0) 0).toArray 38)).heap.size = w.heap.size + 3 := by simp
  refine (HT.out _ BB).mono ?_
  rintro e w2 ⟨v, rfl, hown, hb⟩
  have BI2 := BI.more hb
  have BR2 := BR.more hb
  have BO2 := BO.more hb
  have BB2 := BB.trans (hb.mono (by omega))
  rw [hz] at hown
  obtain ⟨A2, c2, rfl⟩ := hown.nform
  have BI3 := BI2.other (ga := w.heap.size + 1 + 1) (by omega) 2 (.slice A2 l.length c2)
  have BO3 := BO2.set 2 (by simp) (.slice A2 l.length c2)
  have BO4 := BO3.set 3 (by simp) (.int .i64 d)
  have BR3 := (BR2.other (ga := w.heap.size + 1 + 1) (by omega) 2 (.slice A2 l.length c2)).other (ga := w.heap.size + 1 + 1) (by omega) 3 (.int .i64 d)
  have HB3 := Lib.hid ((BB2.setCell (p := ⟨w.heap.size + 1 + 1, 2, none⟩) (by simp; omega) (.slice A2 l.length c2)).setCell (p := ⟨w.heap.size + 1 + 1, 3, none⟩) (by simp; omega) (.int .i64 d))
  have HO3 := Lib.hid ((hown.past (g := w.heap.size + 1 + 1) (j := 2) (by omega) (.slice A2 l.length c2)).past (g := w.heap.size + 1 + 1) (j := 3) (by omega) (.int .i64 d))
  obtain ⟨i0, i1, i2, i3⟩ := BI2.fourS
  obtain ⟨j0, j1, j2, j3⟩ := BI3.fourS
  obtain ⟨m0, m1, m2, m3⟩ := BO2.fourS
  have mi := BO2.ice
  obtain ⟨n0, n1, n2, n3⟩ := (show Box _ _ (seL n b (.slice A2 l.length c2) 0) from BO3).fourS
  have ni := BO3.ice
  obtain ⟨k0, k1, k2, k3⟩ := (show Box _ _ (seL n b (.slice A2 l.length c2) d) from BO4).fourS
  obtain ⟨r0, r1, r2, r3⟩ := BR3.fourS
  have ri := BR3.ice
  have BF := Lib.hid (BR3.all (us := seL n b (.slice A2 l.length c2) d) rfl)
  have HBF := Lib.hid (below_setCells (B := w.heap.size) (ga := w.heap.size + 1) (by omega) (seL n b (.slice A2 l.length c2) d) 0 _ HB3.out)
  have HOF := Lib.hid (HO3.out.cellsPast (g := w.heap.size + 1) (by omega) (seL n b (.slice A2 l.length c2) d) 0 _)
  clear BR BO BI BB BI2 BR2 BO2 BB2 BO3 BI3 BO4 BR3 hown hb hz
  go_wp2
  show bodyPost Try.prog Try.f14 _ Exit.ret _ (((w2.setCell ⟨w.heap.size + 1 + 1, 2, none⟩ (.slice A2 l.length c2)).setCell ⟨w.heap.size + 1 + 1, 3, none⟩ (.int .i64 d)).setCells (w.heap.size + 1) 0 (seL n b (.slice A2 l.length c2) d))
  generalize ((w2.setCell ⟨w.heap.size + 1 + 1, 2, none⟩ (.slice A2 l.length c2)).setCell ⟨w.heap.size + 1 + 1, 3, none⟩ (.int .i64 d)).setCells (w.heap.size + 1) 0 (seL n b (.slice A2 l.length c2) d) = WE at *
  obtain ⟨c0, c1, c3, c4⟩ := BF.out.fourS
  refine bodyPost_ret_by (v := seV n b (.slice A2 l.length c2) d) ?_ rfl ⟨_, _, rfl, OwnR.lower HOF.out (by omega), HBF.out⟩
  simp [results, Try.f14, go_sem, c0, c1, c3, c4]

theorem eq_snd (n b d : Int) (l : List Sn) (hl : l.length ≤ 2000000) (v1 v2 : Value) (b1 b2 : Nat) (w : World) (h1 : OwnN w b1 v1 l) (h2 : OwnN w b2 v2 l) :
    Calls Try.prog 16 #[seV n b v1 d, seV n b v2 d] w fun e w' => e = .returned (.bool true) ∧ Below w.heap.size w w' := by
  obtain ⟨A1, c1, rfl⟩ := h1.nform
  obtain ⟨A2, c2, rfl⟩ := h2.nform
  have HE := Lib.hid (fun W (hb : Below w.heap.size w W) => eqSn_any W b1 b2 (.slice A1 l.length c1) (.slice A2 l.length c2) l hl (OwnR.more h1 hb) (OwnR.more h2 hb))
  have B0 := (((Below.refl _ w).alloc (Nat.le_refl _) (.cells (seL n b (.slice A1 l.length c1) d).toArray 38)).alloc (by simp) (.cells (seL n b (.slice A2 l.length c2) d).toArray 38))
  have X0 := (Box.made w (seL n b (.slice A1 l.length c1) d) 38 w.heap.size rfl).alloc (.cells (seL n b (.slice A2 l.length c2) d).toArray 38)
  have Y0 := Box.made (w.alloc (.cells (seL n b (.slice A1 l.length c1) d).toArray 38)) (seL n b (.slice A2 l.length c2) d) 38 (w.heap.size + 1) (by simp)
  clear h1 h2
  go_enter Try.func16, Try.ntmps16
  go_wp2_with fail
  refine (HE.out _ B0).mono ?_
  rintro e w' ⟨rfl, hb⟩
  obtain ⟨x0, x1, x2, x3⟩ := (X0.more hb).fourS
  obtain ⟨y0, y1, y2, y3⟩ := (Y0.more hb).fourS
  have HB := Lib.hid (B0.trans (hb.mono B0.size))
  clear hb X0 Y0 B0
  go_wp2
  go_ret
  exact ⟨rfl, HB.out⟩

theorem mark_snd (n b d : Int) (l : List Sn) (hl : l.length ≤ 1100000) (v : Value) (base : Nat) (w : World) (h : OwnN w base v l) (hb : base ≤ w.heap.size) :
    Calls Try.prog 17 #[seV n b v d, .int .i64 1] w fun e w' => e = .returned (.int .i64 (1 + 2 * (l.length : Int))) ∧ w.grownBy w' v.ownBlock ∧ MksN w' 1 v l.length := by
  obtain ⟨A1, c1, rfl⟩ := h.nform
  have HE := Lib.hid (fun W (hW : Below w.heap.size w W) => (markN_any W base (.slice A1 l.length c1) l hl 1 (by omega) (by omega) (OwnR.more h hW) (Nat.le_trans hb hW.size)).mono fun e w' hh => (show e = .returned (.int .i64 (1 + 2 * (l.length : Int))) ∧ w.grownBy w' (Value.slice A1 l.length c1).ownBlock ∧ MksN w' 1 (.slice A1 l.length c1) l.length from ⟨hh.1, grown_trans (grown_of hW _) hh.2.1, hh.2.2⟩))
  clear h
  go_enter Try.func17, Try.ntmps17
  go_wp2_with fail
  refine (HE.out _ ((Below.refl _ w).alloc (Nat.le_refl _) _)).mono ?_
  rintro e w' ⟨rfl, hg, hm⟩
  have HG := Lib.hid hg
  have HM := Lib.hid hm
  clear hg hm
  go_wp2
  go_ret
  exact ⟨rfl, HG.out, HM.out⟩
theorem held_snd (n b d : Int) (N : Nat) (hN : N ≤ 1100000) (v : Value) (w : World) (h : MksN w 1 v N) :
    Calls Try.prog 18 #[seV n b v d, .int .i64 1] w fun e w' => e = .returned (.int .i64 (1 + 2 * (N : Int))) ∧ Below w.heap.size w w' := by
  obtain ⟨A1, c1, hv, _⟩ := id h
  subst hv
  have hd : decide (1 + 2 * (N : Int) < 0) = false := by simp; omega
  have HE := Lib.hid (fun W (hW : Below w.heap.size w W) => heldN_mks W 1 (.slice A1 N c1) N hN (h.more hW) (by omega) (by omega))
  clear h
  go_enter Try.func18, Try.ntmps18
  go_wp2_with fail
  refine (HE.out _ ((Below.refl _ w).alloc (Nat.le_refl _) _)).mono ?_
  rintro e w' ⟨rfl, hb⟩
  have HB := Lib.hid (((Below.refl _ w).alloc (Nat.le_refl _) (.cells (seL n b (.slice A1 N c1) d).toArray 38)).trans (hb.mono (by simp)))
  clear hb
  go_wp2
  go_ret
  exact ⟨rfl, HB.out⟩
end Go.Proofs.Ytmmedhjmilgnbab
