/- What this text proves: the drawn drifts are drifts. -/
import Derived.Test.YtggfmimnmpanbaaDoorDraw
import Derived.Test.YtggfmimnmpanbaaDoorDrf
import Derived.Test.YtggfmimnmpanbaaDoorGro
namespace Go.Proofs.YtggfmimnmpanbaaDoor
open Go.ChangeShapes Go.WideShapes Go.ChangeAt Go.RowKit
set_option linter.unusedVariables false

theorem pickI_at (w : World) (g b n c : Nat) (f : Nat → Int) (hn0 : 0 < n) (hn : n ≤ 1000) (hb : b < w.heap.size) (hbg : b ≠ g)
    (hcell : ∀ j, j < n → w.cell? ⟨b, j, none⟩ = some (.int .i64 (f j))) (hcur : CurB w g) :
    Calls Tryd.prog 41 #[.pointer (some ⟨g, 0, none⟩), .slice (some ⟨b, 0, none⟩) n c] w fun e w' => ∃ j, j < n ∧ e = .returned (.int .i64 (f j)) ∧ CurB w' g ∧ w.grownBy w' (some g) := by
  have Hc := Lib.hid hcell
  clear hcell
  go_enter Tryd.func41, Tryd.ntmps41
  go_wp2_with fail
  refine (below_any _ g n (by omega) hcur).mono ?_
  rintro e w1 ⟨x, hx0, hx1, hx2, rfl, hc1, hg1⟩
  have hx3 := hx1 (by omega)
  clear hx1 hx2
  obtain ⟨j, rfl⟩ := Int.eq_ofNat_of_zero_le hx0
  have hj : j < n := by omega
  have cj : w1.cell? ⟨b, j, none⟩ = some (.int .i64 (f j)) := hg1.cell (Hc.out j hj) (fun e => by injection e with e; exact hbg e)
  go_wp2
  go_ret
  exact ⟨j, hj, rfl, hc1, hg1⟩
theorem cells_at (w : World) (l : List Int) : ∀ j, j < l.length → (w.alloc (.cells (l.map (Value.int .i64)).toArray 3)).cell? ⟨w.heap.size, j, none⟩ = some (.int .i64 (l.getD j 0)) := fun j hj => by
  rw [World.cell?_alloc_at _ _ _ _ rfl]
  simp [List.getD_eq_getElem?_getD, List.getElem?_eq_getElem hj]
theorem grown_cellsD {g : Nat} {w : World} : ∀ (us : List Value) (o : Nat) (W : World), w.heap.size ≤ g → ∀ r, w.grownBy W r → w.grownBy (W.setCells g o us) r := by
  intro us
  induction us with
  | nil => intro o W _ r h; exact h
  | cons u us ih =>
    intro o W hg r h
    refine ih _ _ hg r ⟨h.os, h.tape, h.output, by simpa [World.setCell] using h.size, fun k hk hne => ?_⟩
    have hkg : ¬ g = k := by omega
    rw [← h.block k hk hne]
    simp [World.setCell, Array.getElem?_modify, hkg]
def ratesD : List Int := [0, 1, -1, 7, -30, 100, -100]
def offsD : List Int := [0, 3, 1000]
theorem ratesD_ok (j : Nat) (h : j < 7) : -100 ≤ ratesD.getD j 0 ∧ ratesD.getD j 0 ≤ 100 := by
  have : ∀ k : Fin 7, -100 ≤ ratesD.getD k.val 0 ∧ ratesD.getD k.val 0 ≤ 100 := by decide
  exact this ⟨j, h⟩
theorem offsD_ok (j : Nat) (h : j < 3) : 0 ≤ offsD.getD j 0 ∧ offsD.getD j 0 ≤ 1000 := by
  have : ∀ k : Fin 3, 0 ≤ offsD.getD k.val 0 ∧ offsD.getD k.val 0 ≤ 1000 := by decide
  exact this ⟨j, h⟩
set_option maxRecDepth 20000 in
set_option maxHeartbeats 4000000 in
theorem drift_draw (w : World) (g : Nat) (hcur : CurB w g) :
    Calls Tryd.prog 29 #[.pointer (some ⟨g, 0, none⟩)] w fun e w' => ∃ r o : Int, DrOk r o ∧ e = .returned (drV r o) ∧ CurB w' g ∧ w.grownBy w' (some g) := by
  have hlt := hcur.lt
  have C0 := hcur.more (((Below.refl w.heap.size w).alloc (Nat.le_refl _) (.cells (drL 0 0).toArray 25)).alloc (by simp) (.cells (ratesD.map (Value.int .i64)).toArray 3)) hlt
  have B0 := (Box.made w (drL 0 0) 25 _ rfl).alloc (.cells (ratesD.map (Value.int .i64)).toArray 3)
  have G0 := Lib.hid (grown_trans (World.grownBy_alloc w (.cells (drL 0 0).toArray 25) (some g)) (World.grownBy_alloc _ (.cells (ratesD.map (Value.int .i64)).toArray 3) (some g)))
  have HPICK := Lib.hid (pickI_at ((w.alloc (.cells (drL 0 0).toArray 25)).alloc (.cells (ratesD.map (Value.int .i64)).toArray 3)) g (w.heap.size + 1) 7 7 (fun j => ratesD.getD j 0) (by decide) (by decide) (by simp) (by omega) (fun j hj => by have h := cells_at (w.alloc (.cells (drL 0 0).toArray 25)) ratesD j hj; simpa using h) C0)
  go_enter Tryd.func29, Tryd.ntmps29
  go_wp2_with fail
  refine HPICK.out.mono ?_
  rintro e w2 ⟨j, hj, rfl, C2, G2⟩
  have hr := ratesD_ok j hj
  generalize ratesD.getD j 0 = r at *
  have B2 := B0.grown G2 (fun e => by injection e with e; omega)
  have G2' := Lib.hid (grown_trans G0.out G2)
  have Z2 : w.heap.size + 1 ≤ w2.heap.size := by have := G2.size; simp at this; omega
  have Z2' : w.heap.size < w2.heap.size := by omega
  clear G2 B0 G0 C0 HPICK hj
  have C3 := C2.more ((Below.refl w2.heap.size w2).alloc (Nat.le_refl _) (.cells (offsD.map (Value.int .i64)).toArray 3)) C2.lt
  have B3 := B2.alloc (.cells (offsD.map (Value.int .i64)).toArray 3)
  have G3 := Lib.hid (grown_trans G2'.out (World.grownBy_alloc _ (.cells (offsD.map (Value.int .i64)).toArray 3) (some g)))
  have HPICK2 := Lib.hid (pickI_at (w2.alloc (.cells (offsD.map (Value.int .i64)).toArray 3)) g w2.heap.size 3 3 (fun j => offsD.getD j 0) (by decide) (by decide) (by simp) (by omega) (fun j hj => cells_at w2 offsD j hj) C3)
  clear C3 C2 B2 G2'
  go_wp2_with fail
  refine HPICK2.out.mono ?_
  rintro e w4 ⟨j, hj, rfl, C4, G4⟩
  have ho := offsD_ok j hj
  generalize offsD.getD j 0 = o at *
  have B4 := B3.grown G4 (fun e => by injection e with e; omega)
  have G4' := Lib.hid (grown_trans G3.out G4)
  have HD := Lib.hid (show DrOk r o from ⟨hr, ho⟩)
  have x0 := B4.cell 0 (by simp)
  have x1 := B4.cell 1 (by simp)
  have xi := B4.ice
  have y1 : (w4.setCell ⟨w.heap.size, 0, none⟩ (.int .i64 r)).cell? ⟨w.heap.size, 1, none⟩ = some (.int .i64 0) := (B4.set 0 (by simp) (.int .i64 r)).cell 1 (by simp)
  have BF := Lib.hid (B4.all (us := drL r o) rfl)
  have CF := Lib.hid (C4.more (below_setCells (B := w.heap.size) (ga := w.heap.size) (Nat.le_refl _) (drL r o) 0 w4 (Below.refl _ _)) hlt)
  have GF := Lib.hid (grown_cellsD (g := w.heap.size) (drL r o) 0 w4 (Nat.le_refl _) _ G4'.out)
  clear B3 G3 HPICK2 G4 G4' C4 B4 hr ho hj
  go_wp2
  show bodyPost _ _ _ _ _ (w4.setCells w.heap.size 0 (drL r o))
  generalize w4.setCells w.heap.size 0 (drL r o) = WE at *
  have q0 := BF.out.cell 0 (by simp)
  have q1 := BF.out.cell 1 (by simp)
  refine bodyPost_ret_by (v := drV r o) ?_ rfl ⟨r, o, HD.out, rfl, CF.out, GF.out⟩
  simp [results, Tryd.f29, go_sem, q0, q1]
theorem CodeOk.wider7 {w : World} {B B' : Nat} {A : Option Addr} {n : Nat} (h : CodeOk w B A n) (hB : B ≤ B') : CodeOk w B' A n := by
  rcases h with h | ⟨b, off, hA, hlt, hc⟩
  · exact .inl h
  · exact .inr ⟨b, off, hA, Nat.lt_of_lt_of_le hlt hB, hc⟩
set_option maxRecDepth 20000 in
set_option maxHeartbeats 2000000 in
theorem draw_drift (A : Option Addr) (n c : Nat) (hn : n ≤ 1048576) (w : World) (hc : CodeOk w w.heap.size A n) :
    Calls Tryd.prog 10 #[.slice A n c] w fun e w' => ∃ r o : Int, DrOk r o ∧ e = .returned (drV r o) ∧ Below w.heap.size w w' := by
  have W0 := (Below.refl _ w).alloc (Nat.le_refl _) (.cells (drL 0 0).toArray 25)
  have B0 := Lib.hid (Box.made w (drL 0 0) 25 _ rfl)
  have HN := Lib.hid (new_any A n c hn (w.alloc (.cells (drL 0 0).toArray 25)) (CodeOk.wider7 (hc.more W0) W0.size))
  have HW0 := Lib.hid W0
  clear W0 hc
  go_enter Tryd.func10, Tryd.ntmps10
  go_wp2_with fail
  refine HN.out.mono ?_
  rintro e w2 ⟨rfl, C2, hb2⟩
  have hs1 : (w.alloc (.cells (drL 0 0).toArray 25)).heap.size = w.heap.size + 1 := by simp
  rw [hs1] at C2
  have HD := Lib.hid (drift_draw w2 _ C2)
  have B2 := Lib.hid (B0.out.more hb2)
  have W2 := Lib.hid (HW0.out.trans (hb2.mono HW0.out.size))
  have Z2 : (w.alloc (.cells (drL 0 0).toArray 25)).heap.size ≤ w2.heap.size := hb2.size
  clear C2 hb2 HN B0 HW0
  go_wp2_with fail
  refine HD.out.mono ?_
  rintro e w3 ⟨r, o, hro, rfl, C3, G3⟩
  have HRO := Lib.hid hro
  have B3 := B2.out.grown G3 (fun e => by injection e with e; omega)
  have W3 := Lib.hid (W2.out.grown G3 W2.out.size (fun k hk => by injection hk with hk; omega))
  have x0 := B3.cell 0 (by simp)
  have x1 := B3.cell 1 (by simp)
  have xi := B3.ice
  have y1 : (w3.setCell ⟨w.heap.size, 0, none⟩ (.int .i64 r)).cell? ⟨w.heap.size, 1, none⟩ = some (.int .i64 0) := (B3.set 0 (by simp) (.int .i64 r)).cell 1 (by simp)
  have BF := Lib.hid (B3.all (us := drL r o) rfl)
  have WF := Lib.hid (below_setCells (B := w.heap.size) (ga := w.heap.size) (Nat.le_refl _) (drL r o) 0 w3 W3.out)
  clear B3 W3 B2 W2 HD C3 G3 hro Z2 hs1
  go_wp2
  show bodyPost _ _ _ _ _ (w3.setCells w.heap.size 0 (drL r o))
  generalize w3.setCells w.heap.size 0 (drL r o) = WE at *
  have q0 := BF.out.cell 0 (by simp)
  have q1 := BF.out.cell 1 (by simp)
  refine bodyPost_ret_by (v := drV r o) ?_ rfl ⟨r, o, HRO.out, rfl, WF.out⟩
  simp [results, Tryd.f10, go_sem, q0, q1]
end Go.Proofs.YtggfmimnmpanbaaDoor
