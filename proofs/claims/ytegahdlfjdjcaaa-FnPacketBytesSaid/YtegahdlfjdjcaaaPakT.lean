/- What this text proves: the contract of the laws' own copy of a packer: its Starts lie in memory of their own. -/
import Derived.Test.YtegahdlfjdjcaaaPak
namespace Go.Proofs.Ytegahdlfjdjcaaa
open Go.ChangeShapes Go.WideShapes Go.ChangeAt Go.RowKit
set_option linter.unusedVariables false

theorem OwnI.past {W : World} {base g j : Nat} {v : Value} {l : List Int} (h : OwnI W base v l) (hg : g < base) (u : Value) : OwnI (W.setCell ⟨g, j, none⟩ u) base v l := by
  refine World.ownsRow.kept (row := some g) h ⟨rfl, rfl, rfl, by simp, fun k hk hne => Below.heap_setCell W _ u k (fun e => hne (by rw [e]))⟩ ?_
  by_cases he : v.ownBlock = none
  · exact .inl he
  · refine .inr fun e => ?_
    have := (World.ownsRow.lt h g e).1
    omega
abbrev Cells4P (W : World) (g : Nat) (x y z u : Value) : Prop := W.cell? ⟨g, 0, none⟩ = some x ∧ W.cell? ⟨g, 1, none⟩ = some y ∧ W.cell? ⟨g, 2, none⟩ = some z ∧ W.cell? ⟨g, 3, none⟩ = some u
theorem Box.fourP {W : World} {g : Nat} {x y z u : Value} (h : Box W g [x, y, z, u]) : Cells4P W g x y z u := ⟨h.cell 0 (by simp), h.cell 1 (by simp), h.cell 2 (by simp), h.cell 3 (by simp)⟩

set_option maxHeartbeats 2000000 in
theorem to_pak (c n : Int) (r : ByteArray) (A : Option Addr) (l : List Int) (k : Nat) (hl : l.length ≤ 1048576) (w : World) (h : IntsAt w w.heap.size A l) :
    Calls Try.prog 48 #[paV c n r (.slice A l.length k)] w fun e w' => ∃ v, e = .returned (paV c n r v) ∧ OwnI w' w.heap.size v l ∧ Below w.heap.size w w' := by
  have HT := Lib.hid (fun W (hb : Below w.heap.size w W) => toI_any A l k hl W (by
    rcases h.more hb with h0 | ⟨b, off, hA, hlt, hc⟩
    · exact .inl h0
    · exact .inr ⟨b, off, hA, Nat.lt_of_lt_of_le hlt hb.size, hc⟩))
  clear h
  go_enter Try.func48, Try.ntmps48
  go_wp2_with fail
  have BR := ((Box.made (w.alloc (.cells (paL c n r (.slice A l.length k)).toArray 72)) (paL 0 0 ⟨#[]⟩ (.slice none 0 0)) 34 (w.heap.size + 1) (by simp)).alloc (.cells (paL c n r (.slice none 0 0)).toArray 34))
  have BO := Box.made ((w.alloc (.cells (paL c n r (.slice A l.length k)).toArray 72)).alloc (.cells (paL 0 0 ⟨#[]⟩ (.slice none 0 0)).toArray 34)) (paL c n r (.slice none 0 0)) 34 (w.heap.size + 1 + 1) (by simp)
  have BB : Below w.heap.size w (((w.alloc (.cells (paL c n r (.slice A l.length k)).toArray 72)).alloc (.cells (paL 0 0 ⟨#[]⟩ (.slice none 0 0)).toArray 34)).alloc (.cells (paL c n r (.slice none 0 0)).toArray 34)) := (((Below.refl _ w).alloc (Nat.le_refl _) _).alloc (by simp) _).alloc (by simp; omega) _
  have hz : (((w.alloc (.cells (paL c n r (.slice A l.length k)).toArray 72)).alloc (.cells (paL 0 0 ⟨#[]⟩ (.slice none 0 0)).toArray 34)).alloc (.cells (paL c n r (.slice none 0 0)).toArray 34)).heap.size = w.heap.size + 3 := by simp
  refine (HT.out _ BB).mono ?_
  rintro e w2 ⟨v, rfl, hown, hb⟩
  have BR2 := BR.more hb
  have BO2 := BO.more hb
  have BB2 := BB.trans (hb.mono (by omega))
  rw [hz] at hown
  have BO3 := BO2.set 3 (by simp) v
  have BR3 := (BR2.other (ga := w.heap.size + 1 + 1) (by omega) 3 v)
  have HB3 := Lib.hid ((BB2.setCell (p := ⟨w.heap.size + 1 + 1, 3, none⟩) (by simp; omega) v))
  have HO3 := Lib.hid (hown.past (g := w.heap.size + 1 + 1) (j := 3) (by omega) v)
  obtain ⟨A2, c2, rfl⟩ := hown.form
  obtain ⟨m0, m1, m2, m3⟩ := BO2.fourP
  have mi := BO2.ice
  obtain ⟨k0, k1, k2, k3⟩ := (show Box _ _ (paL c n r (.slice A2 l.length c2)) from BO3).fourP
  obtain ⟨r0, r1, r2, r3⟩ := BR3.fourP
  have ri := BR3.ice
  have BF := Lib.hid (BR3.all (us := paL c n r (.slice A2 l.length c2)) rfl)
  have HBF := Lib.hid (below_setCells (B := w.heap.size) (ga := w.heap.size + 1) (by omega) (paL c n r (.slice A2 l.length c2)) 0 _ HB3.out)
  have past4 : ∀ (us : List Value) (o : Nat) (W : World), OwnI W (w.heap.size + 3) (.slice A2 l.length c2) l → OwnI (W.setCells (w.heap.size + 1) o us) (w.heap.size + 3) (.slice A2 l.length c2) l := by
    intro us
    induction us with
    | nil => intro o W h; exact h
    | cons u r ih => intro o W h; exact ih _ _ (h.past (by omega) u)
  have HOF := Lib.hid (past4 (paL c n r (.slice A2 l.length c2)) 0 _ HO3.out)
  clear BR BO BB BR2 BO2 BB2 BO3 BR3 hown hb past4 hz
  go_wp2
  show bodyPost Try.prog Try.f48 _ Exit.ret _ ((w2.setCell ⟨w.heap.size + 1 + 1, 3, none⟩ (.slice A2 l.length c2)).setCells (w.heap.size + 1) 0 (paL c n r (.slice A2 l.length c2)))
  generalize (w2.setCell ⟨w.heap.size + 1 + 1, 3, none⟩ (.slice A2 l.length c2)).setCells (w.heap.size + 1) 0 (paL c n r (.slice A2 l.length c2)) = WE at *
  obtain ⟨c0, c1, c3, c4⟩ := BF.out.fourP
  refine bodyPost_ret_by (v := paV c n r (.slice A2 l.length c2)) ?_ rfl ⟨_, rfl, HOF.out.lower (by omega), HBF.out⟩
  simp [results, Try.f48, go_sem, c0, c1, c3, c4]
end Go.Proofs.Ytegahdlfjdjcaaa
