/- What this text proves: the drawn orders are orders. -/
import Derived.Test.YtebfefkknaalpaaDraw
import Derived.Test.YtebfefkknaalpaaOrdE
import Derived.Test.YtebfefkknaalpaaLs
import Derived.Deep.LoopGhost
namespace Go.Proofs.Ytebfefkknaalpaa
open Go.ChangeShapes Go.WideShapes Go.ChangeAt Go.RowKit
set_option linter.unusedVariables false

theorem pickI_of (w : World) (g b n c : Nat) (f : Nat → Int) (hn0 : 0 < n) (hn : n ≤ 1000) (hb : b < w.heap.size) (hbg : b ≠ g)
    (hcell : ∀ j, j < n → w.cell? ⟨b, j, none⟩ = some (.int .i64 (f j))) (hcur : CurB w g) :
    Calls Try.prog 89 #[.pointer (some ⟨g, 0, none⟩), .slice (some ⟨b, 0, none⟩) n c] w fun e w' => ∃ j, j < n ∧ e = .returned (.int .i64 (f j)) ∧ CurB w' g ∧ w.grownBy w' (some g) := by
  have Hc := Lib.hid hcell
  clear hcell
  go_enter Try.func89, Try.ntmps89
  go_wp2_with fail
  refine (below_any _ g n (by omega) hcur).mono ?_
  rintro e w1 ⟨x, hx0, hx1, hx2, rfl, hc1, hg1⟩
  have hx3 := hx1 (by omega)
  clear hx1 hx2
  obtain ⟨j, rfl⟩ := Int.eq_ofNat_of_zero_le hx0
  have hj : j < n := by omega
  have cj : w1.cell? ⟨b, j, none⟩ = some (.int .i64 (f j)) := hg1.cell (Hc.out j hj) (fun e => by injection e with e; exact hbg e)
  go_wp2
  go_ret
  exact ⟨j, hj, rfl, hc1, hg1⟩
theorem grown_cellsG {g : Nat} {w : World} : ∀ (us : List Value) (o : Nat) (W : World), w.heap.size ≤ g → ∀ r, w.grownBy W r → w.grownBy (W.setCells g o us) r := by
  intro us
  induction us with
  | nil => intro o W _ r h; exact h
  | cons u us ih =>
    intro o W hg r h
    refine ih _ _ hg r ⟨h.os, h.tape, h.output, by simpa [World.setCell] using h.size, fun k hk hne => ?_⟩
    have hkg : ¬ g = k := by omega
    rw [← h.block k hk hne]
    simp [World.setCell, Array.getElem?_modify, hkg]
theorem below_cellsG {g n : Nat} {w : World} (us : List Value) (o : Nat) (W : World) (hg : n ≤ g) (h : Below n w W) : Below n w (W.setCells g o us) := below_setCells hg us o W h

def kindsO : List Int := [0, 0, 1, 1, 1, 2, 3, 4]
def valsO : List Int := [0, 5, 300, 65535]
def safeO : List Int := [0, 0, 1]
theorem kindsO_ok (j : Nat) (h : j < 8) : kindsO.getD j 0 = 0 ∨ kindsO.getD j 0 = 1 ∨ kindsO.getD j 0 = 2 ∨ kindsO.getD j 0 = 3 ∨ kindsO.getD j 0 = 4 := by
  have : ∀ k : Fin 8, kindsO.getD k.val 0 = 0 ∨ kindsO.getD k.val 0 = 1 ∨ kindsO.getD k.val 0 = 2 ∨ kindsO.getD k.val 0 = 3 ∨ kindsO.getD k.val 0 = 4 := by decide
  exact this ⟨j, h⟩
theorem valsO_ok (j : Nat) (h : j < 4) : 0 ≤ valsO.getD j 0 ∧ valsO.getD j 0 ≤ 65535 := by
  have : ∀ k : Fin 4, 0 ≤ valsO.getD k.val 0 ∧ valsO.getD k.val 0 ≤ 65535 := by decide
  exact this ⟨j, h⟩
theorem safeO_ok (j : Nat) (h : j < 3) : 0 ≤ safeO.getD j 0 ∧ safeO.getD j 0 ≤ 1 := by
  have : ∀ k : Fin 3, 0 ≤ safeO.getD k.val 0 ∧ safeO.getD k.val 0 ≤ 1 := by decide
  exact this ⟨j, h⟩
theorem cells_lit (w : World) (l : List Int) : ∀ j, j < l.length → (w.alloc (.cells (l.map (Value.int .i64)).toArray 3)).cell? ⟨w.heap.size, j, none⟩ = some (.int .i64 (l.getD j 0)) := fun j hj => by
  rw [World.cell?_alloc_at _ _ _ _ rfl]
  simp [List.getD_eq_getElem?_getD, List.getElem?_eq_getElem hj]
theorem grown_far {w W : World} {x : Nat} {r : Option Nat} (h : w.grownBy W r) (hx : w.heap.size ≤ x) (j : Nat) (v : Value) : w.grownBy (W.setCell ⟨x, j, none⟩ v) r :=
  ⟨h.os, h.tape, h.output, by simpa [World.setCell] using h.size, fun k hk hne => by
    have hkg : ¬ x = k := by omega
    rw [← h.block k hk hne]
    simp [World.setCell, Array.getElem?_modify, hkg]⟩
/-- An order as a tuple. -/
abbrev Oq := Int × Int × Int × Int
abbrev oqC (p : Oq) : List Value := [.int .i64 p.1, .int .i64 p.2.1, .int .i64 p.2.2.1, .int .i64 p.2.2.2]
def OqOk (p : Oq) : Prop := OrOk p.1 p.2.1 p.2.2.1 p.2.2.2
theorem oq_make {k t a b : Int} (ht : 0 ≤ t ∧ t ≤ 1000000) (ha : 0 ≤ a ∧ a ≤ hiA k) (hb : 0 ≤ b ∧ b ≤ hiB k) : OrOk k t a b := ⟨ht, ha, hb⟩

set_option maxHeartbeats 4000000 in
theorem order_draw (w : World) (g : Nat) (now : Nat) (hnow : now ≤ 1000) (hcur : CurB w g) :
    Calls Try.prog 53 #[.pointer (some ⟨g, 0, none⟩), .int .i64 (now : Int)] w fun e w' => ∃ p : Oq, OqOk p ∧ e = .returned (orV p.1 p.2.1 p.2.2.1 p.2.2.2) ∧ CurB w' g ∧ w.grownBy w' (some g) := by
  have hlt := hcur.lt
  have C0 := hcur.more (((Below.refl w.heap.size w).alloc (Nat.le_refl _) (.cells (orL 0 0 0 0).toArray 27)).alloc (by simp) (.cells (kindsO.map (Value.int .i64)).toArray 3)) hlt
  have B0 := (Box.made w (orL 0 0 0 0) 27 _ rfl).alloc (.cells (kindsO.map (Value.int .i64)).toArray 3)
  have G0 := Lib.hid (grown_trans (World.grownBy_alloc w (.cells (orL 0 0 0 0).toArray 27) (some g)) (World.grownBy_alloc _ (.cells (kindsO.map (Value.int .i64)).toArray 3) (some g)))
  have HPICK := Lib.hid (pickI_of ((w.alloc (.cells (orL 0 0 0 0).toArray 27)).alloc (.cells (kindsO.map (Value.int .i64)).toArray 3)) g (w.heap.size + 1) 8 8 (fun j => kindsO.getD j 0) (by decide) (by decide) (by simp) (by omega) (fun j hj => by have h := cells_lit (w.alloc (.cells (orL 0 0 0 0).toArray 27)) kindsO j hj; simpa using h) C0)
  go_enter Try.func53, Try.ntmps53
  go_wp2_with fail
  refine HPICK.out.mono ?_
  rintro e w2 ⟨j, hj, rfl, C2, G2⟩
  have hkind := kindsO_ok j hj
  generalize kindsO.getD j 0 = K at *
  have B2 := B0.grown G2 (fun e => by injection e with e; omega)
  have G2' := Lib.hid (grown_trans G0.out G2)
  have Z2 : w.heap.size + 1 ≤ w2.heap.size := by have := G2.size; simp at this; omega
  clear G2 B0 G0 C0 HPICK hj
  go_wp2_with fail
  refine (below_any _ g 12 (by decide) C2).mono ?_
  rintro e w3 ⟨t, ht0, ht1, _, rfl, C3, G3⟩
  have HT := Lib.hid (ht1 (by decide))
  have hT : 0 ≤ (now : Int) + t ∧ (now : Int) + t ≤ 1000000 := by have := HT.out; omega
  obtain ⟨T, hTe⟩ : ∃ T, (now : Int) + t = T := ⟨_, rfl⟩
  have hw : IntKind.i64.wrap ((now : Int) + t) = T := (IntWalk.i64_in _ (by have := HT.out; omega)).trans hTe
  have hw' : wrap64 ((now : Int) + t) = T := by unfold wrap64; have := HT.out; omega
  rw [hTe] at hT
  clear hTe
  have B3 := B2.grown G3 (fun e => by injection e with e; omega)
  have G3' := Lib.hid (grown_trans G2'.out G3)
  have Z3 : w.heap.size + 1 ≤ w3.heap.size := by have := G3.size; omega
  clear ht1 C2 G3 B2 G2' Z2
  have hlt3 := C3.lt
  have C4 := Lib.hid (show CurB (w3.alloc (.cells (orL K T 0 0).toArray 27)) g from C3.more ((Below.refl w3.heap.size w3).alloc (Nat.le_refl _) _) hlt3)
  have B4 := Lib.hid (B3.alloc (.cells (orL K T 0 0).toArray 27))
  have X4 := Lib.hid (Box.made w3 (orL K T 0 0) 27 w3.heap.size rfl)
  have G4 := Lib.hid (show w.grownBy (w3.alloc (.cells (orL K T 0 0).toArray 27)) (some g) from grown_trans G3'.out (World.grownBy_alloc w3 _ _))
  have hgx : g ≠ w3.heap.size := by omega
  have hgr : g ≠ w.heap.size := by omega
  clear B3 G3' C3
  have FIN : Hid (∀ (W : World) (a b : Int), OrOk K T a b → CurB W g → w.grownBy W (some g) → Box W w.heap.size (orL 0 0 0 0) → ∀ us : List Value, us = orL K T a b → Box (W.setCells w.heap.size 0 us) w.heap.size us ∧ CurB (W.setCells w.heap.size 0 us) g ∧ w.grownBy (W.setCells w.heap.size 0 us) (some g)) := Lib.hid (fun W a b _ hC hG hB us hus => by
    subst hus
    exact ⟨hB.all rfl, hC.more (below_cellsG (n := w.heap.size) _ 0 W (Nat.le_refl _) (Below.refl _ _)) hlt, grown_cellsG _ 0 W (Nat.le_refl _) _ hG⟩)
  obtain rfl | rfl | rfl | rfl | rfl := hkind
  · have hA := fun (a : Int) (h0 : 0 ≤ a) (h1 : a < 8) => (show 0 ≤ a ∧ a ≤ hiA 0 from ⟨h0, by show a ≤ 7; omega⟩)
    obtain ⟨x0, x1, x2, x3⟩ := X4.out.four4
    have xi := X4.out.ice
    go_wp2_with fail
    refine (below_any _ g 8 (by decide) C4.out).mono ?_
    rintro e w5 ⟨a, ha0, ha1, _, rfl, C5, G5⟩
    have HA := Lib.hid (hA a ha0 (ha1 (by decide)))
    clear ha1
    have X5 := X4.out.grown G5 (fun e => by injection e with e; omega)
    have B5 := B4.out.grown G5 (fun e => by injection e with e; omega)
    have G5' := grown_trans G4.out G5
    have hx5 := X5.lt
    have X6 := X5.set 2 (by simp) (.int .i64 a)
    have B6 := B5.other (ga := w3.heap.size) (by omega) 2 (.int .i64 a)
    have G6 : w.grownBy (w5.setCell ⟨w3.heap.size, 2, none⟩ (.int .i64 a)) (some g) := grown_far G5' (by omega) 2 (.int .i64 a)
    have C6 : CurB (w5.setCell ⟨w3.heap.size, 2, none⟩ (.int .i64 a)) g := C5.more ((Below.refl w3.heap.size w5).setCell (p := ⟨w3.heap.size, 2, none⟩) (Nat.le_refl _) _) hlt3
    obtain ⟨y0, y1, y2, y3⟩ := X5.four4
    have yi := X5.ice
    obtain ⟨z0, z1, z2, z3⟩ := (show Box _ _ (orL 0 T a 0) from X6).four4
    have zi := X6.ice
    have HX6 := Lib.hid (show Box _ _ (orL 0 T a 0) from X6)
    have hz6 : (w5.setCell ⟨w3.heap.size, 2, none⟩ (.int .i64 a)).heap.size = w5.heap.size := by simp
    have C6b := C6.more ((Below.refl _ _).alloc (Nat.le_refl _) (.cells (valsO.map (Value.int .i64)).toArray 3)) (by omega : g < (w5.setCell ⟨w3.heap.size, 2, none⟩ (.int .i64 a)).heap.size)
    have G6b := Lib.hid (grown_trans G6 (World.grownBy_alloc _ (.cells (valsO.map (Value.int .i64)).toArray 3) (some g)))
    have X6b := Lib.hid (HX6.out.alloc (.cells (valsO.map (Value.int .i64)).toArray 3))
    have B6b := Lib.hid (B6.alloc (.cells (valsO.map (Value.int .i64)).toArray 3))
    have HP := Lib.hid (pickI_of ((w5.setCell ⟨w3.heap.size, 2, none⟩ (.int .i64 a)).alloc (.cells (valsO.map (Value.int .i64)).toArray 3)) g w5.heap.size 4 4 (fun j => valsO.getD j 0) (by decide) (by decide) (by simp) (by omega) (fun j hj => by have h := cells_lit (w5.setCell ⟨w3.heap.size, 2, none⟩ (.int .i64 a)) valsO j hj; simpa using h) C6b)
    clear X5 B5 G5 G5' C5 X6 B6 G6 C6 C6b hz6
    go_wp2_with fail
    refine HP.out.mono ?_
    rintro e w7 ⟨jv, hjv, rfl, C7, G7⟩
    have HB := Lib.hid (valsO_ok jv hjv)
    generalize valsO.getD jv 0 = b at *
    have X7 := X6b.out.grown G7 (fun e => by injection e with e; omega)
    have B7 := B6b.out.grown G7 (fun e => by injection e with e; omega)
    have G7' := grown_trans G6b.out G7
    have hx7 := X7.lt
    have X8 := X7.set 3 (by simp) (.int .i64 b)
    have B8 := B7.other (ga := w3.heap.size) (by omega) 3 (.int .i64 b)
    have G8 : w.grownBy (w7.setCell ⟨w3.heap.size, 3, none⟩ (.int .i64 b)) (some g) := grown_far G7' (by omega) 3 (.int .i64 b)
    have C8 : CurB (w7.setCell ⟨w3.heap.size, 3, none⟩ (.int .i64 b)) g := C7.more ((Below.refl w3.heap.size w7).setCell (p := ⟨w3.heap.size, 3, none⟩) (Nat.le_refl _) _) hlt3
    obtain ⟨u0, u1, u2, u3⟩ := X7.four4
    have ui := X7.ice
    obtain ⟨v0, v1, v2, v3⟩ := (show Box _ _ (orL 0 T a b) from X8).four4
    obtain ⟨r0, r1, r2, r3⟩ := B8.four4
    have ri := B8.ice
    have hok := oq_make (k := 0) hT HA.out (show 0 ≤ b ∧ b ≤ hiB 0 from HB.out)
    have HF := Lib.hid (FIN.out _ a b hok C8 G8 B8 _ rfl)
    have HOK := Lib.hid hok
    clear X7 B7 G7 G7' C7 X8 B8 G8 C8 HP hjv hok
    go_wp2
    show bodyPost Try.prog Try.f53 _ Exit.ret _ ((w7.setCell ⟨w3.heap.size, 3, none⟩ (.int .i64 b)).setCells w.heap.size 0 (orL 0 T a b))
    generalize (w7.setCell ⟨w3.heap.size, 3, none⟩ (.int .i64 b)).setCells w.heap.size 0 (orL 0 T a b) = WE at *
    obtain ⟨q0, q1, q2, q3⟩ := HF.out.1.four4
    refine bodyPost_ret_by (v := orV 0 T a b) ?_ rfl ⟨(0, T, a, b), HOK.out, rfl, HF.out.2.1, HF.out.2.2⟩
    simp [results, Try.f53, go_sem, q0, q1, q2, q3]
  · have hA := fun (a : Int) (h0 : 0 ≤ a) (h1 : a < 4) => (show 0 ≤ a ∧ a ≤ hiA 1 from ⟨h0, by show a ≤ 3; omega⟩)
    obtain ⟨x0, x1, x2, x3⟩ := X4.out.four4
    have xi := X4.out.ice
    go_wp2_with fail
    refine (below_any _ g 4 (by decide) C4.out).mono ?_
    rintro e w5 ⟨a, ha0, ha1, _, rfl, C5, G5⟩
    have HA := Lib.hid (hA a ha0 (ha1 (by decide)))
    clear ha1
    have X5 := X4.out.grown G5 (fun e => by injection e with e; omega)
    have B5 := B4.out.grown G5 (fun e => by injection e with e; omega)
    have G5' := grown_trans G4.out G5
    have hx5 := X5.lt
    have X6 := X5.set 2 (by simp) (.int .i64 a)
    have B6 := B5.other (ga := w3.heap.size) (by omega) 2 (.int .i64 a)
    have G6 : w.grownBy (w5.setCell ⟨w3.heap.size, 2, none⟩ (.int .i64 a)) (some g) := grown_far G5' (by omega) 2 (.int .i64 a)
    have C6 : CurB (w5.setCell ⟨w3.heap.size, 2, none⟩ (.int .i64 a)) g := C5.more ((Below.refl w3.heap.size w5).setCell (p := ⟨w3.heap.size, 2, none⟩) (Nat.le_refl _) _) hlt3
    obtain ⟨y0, y1, y2, y3⟩ := X5.four4
    have yi := X5.ice
    obtain ⟨z0, z1, z2, z3⟩ := (show Box _ _ (orL 1 T a 0) from X6).four4
    obtain ⟨r0, r1, r2, r3⟩ := B6.four4
    have ri := B6.ice
    have hok := oq_make (k := 1) hT HA.out (show 0 ≤ (0 : Int) ∧ (0 : Int) ≤ hiB 1 from by decide)
    have HF := Lib.hid (FIN.out _ a 0 hok C6 G6 B6 _ rfl)
    have HOK := Lib.hid hok
    clear X5 B5 G5 G5' C5 X6 B6 G6 C6 hok
    go_wp2
    show bodyPost Try.prog Try.f53 _ Exit.ret _ ((w5.setCell ⟨w3.heap.size, 2, none⟩ (.int .i64 a)).setCells w.heap.size 0 (orL 1 T a 0))
    generalize (w5.setCell ⟨w3.heap.size, 2, none⟩ (.int .i64 a)).setCells w.heap.size 0 (orL 1 T a 0) = WE at *
    obtain ⟨q0, q1, q2, q3⟩ := HF.out.1.four4
    refine bodyPost_ret_by (v := orV 1 T a 0) ?_ rfl ⟨(1, T, a, 0), HOK.out, rfl, HF.out.2.1, HF.out.2.2⟩
    simp [results, Try.f53, go_sem, q0, q1, q2, q3]
  · have hA := fun (a : Int) (h0 : 0 ≤ a) (h1 : a < 2) => (show 0 ≤ a ∧ a ≤ hiA 2 from ⟨h0, by show a ≤ 1; omega⟩)
    obtain ⟨x0, x1, x2, x3⟩ := X4.out.four4
    have xi := X4.out.ice
    have C4b := C4.out.more ((Below.refl _ (w3.alloc (.cells (orL 2 T 0 0).toArray 27))).alloc (Nat.le_refl _) (.cells (safeO.map (Value.int .i64)).toArray 3)) (by simp; omega)
    have G4b := Lib.hid (grown_trans G4.out (World.grownBy_alloc _ (.cells (safeO.map (Value.int .i64)).toArray 3) (some g)))
    have X4b := Lib.hid (X4.out.alloc (.cells (safeO.map (Value.int .i64)).toArray 3))
    have B4b := Lib.hid (B4.out.alloc (.cells (safeO.map (Value.int .i64)).toArray 3))
    have HP := Lib.hid (pickI_of ((w3.alloc (.cells (orL 2 T 0 0).toArray 27)).alloc (.cells (safeO.map (Value.int .i64)).toArray 3)) g (w3.heap.size + 1) 3 3 (fun j => safeO.getD j 0) (by decide) (by decide) (by simp) (by omega) (fun j hj => by have h := cells_lit (w3.alloc (.cells (orL 2 T 0 0).toArray 27)) safeO j hj; simpa using h) C4b)
    go_wp2_with fail
    refine HP.out.mono ?_
    rintro e w5 ⟨js, hjs, rfl, C5, G5⟩
    have hsafe := safeO_ok js hjs
    generalize safeO.getD js 0 = a at *
    have HA := Lib.hid (hA a hsafe.1 (by omega))
    clear HP hjs C4b hsafe
    have X5 := X4b.out.grown G5 (fun e => by injection e with e; omega)
    have B5 := B4b.out.grown G5 (fun e => by injection e with e; omega)
    have G5' := grown_trans G4b.out G5
    have hx5 := X5.lt
    have X6 := X5.set 2 (by simp) (.int .i64 a)
    have B6 := B5.other (ga := w3.heap.size) (by omega) 2 (.int .i64 a)
    have G6 : w.grownBy (w5.setCell ⟨w3.heap.size, 2, none⟩ (.int .i64 a)) (some g) := grown_far G5' (by omega) 2 (.int .i64 a)
    have C6 : CurB (w5.setCell ⟨w3.heap.size, 2, none⟩ (.int .i64 a)) g := C5.more ((Below.refl w3.heap.size w5).setCell (p := ⟨w3.heap.size, 2, none⟩) (Nat.le_refl _) _) hlt3
    obtain ⟨y0, y1, y2, y3⟩ := X5.four4
    have yi := X5.ice
    obtain ⟨z0, z1, z2, z3⟩ := (show Box _ _ (orL 2 T a 0) from X6).four4
    obtain ⟨r0, r1, r2, r3⟩ := B6.four4
    have ri := B6.ice
    have hok := oq_make (k := 2) hT HA.out (show 0 ≤ (0 : Int) ∧ (0 : Int) ≤ hiB 2 from by decide)
    have HF := Lib.hid (FIN.out _ a 0 hok C6 G6 B6 _ rfl)
    have HOK := Lib.hid hok
    clear X5 B5 G5 G5' C5 X6 B6 G6 C6 hok
    go_wp2
    show bodyPost Try.prog Try.f53 _ Exit.ret _ ((w5.setCell ⟨w3.heap.size, 2, none⟩ (.int .i64 a)).setCells w.heap.size 0 (orL 2 T a 0))
    generalize (w5.setCell ⟨w3.heap.size, 2, none⟩ (.int .i64 a)).setCells w.heap.size 0 (orL 2 T a 0) = WE at *
    obtain ⟨q0, q1, q2, q3⟩ := HF.out.1.four4
    refine bodyPost_ret_by (v := orV 2 T a 0) ?_ rfl ⟨(2, T, a, 0), HOK.out, rfl, HF.out.2.1, HF.out.2.2⟩
    simp [results, Try.f53, go_sem, q0, q1, q2, q3]
  · have hA := fun (a : Int) (h0 : 0 ≤ a) (h1 : a < 8) => (show 0 ≤ a ∧ a ≤ hiA 3 from ⟨h0, by show a ≤ 7; omega⟩)
    obtain ⟨x0, x1, x2, x3⟩ := X4.out.four4
    have xi := X4.out.ice
    go_wp2_with fail
    refine (below_any _ g 8 (by decide) C4.out).mono ?_
    rintro e w5 ⟨a, ha0, ha1, _, rfl, C5, G5⟩
    have HA := Lib.hid (hA a ha0 (ha1 (by decide)))
    clear ha1
    have X5 := X4.out.grown G5 (fun e => by injection e with e; omega)
    have B5 := B4.out.grown G5 (fun e => by injection e with e; omega)
    have G5' := grown_trans G4.out G5
    have hx5 := X5.lt
    have X6 := X5.set 2 (by simp) (.int .i64 a)
    have B6 := B5.other (ga := w3.heap.size) (by omega) 2 (.int .i64 a)
    have G6 : w.grownBy (w5.setCell ⟨w3.heap.size, 2, none⟩ (.int .i64 a)) (some g) := grown_far G5' (by omega) 2 (.int .i64 a)
    have C6 : CurB (w5.setCell ⟨w3.heap.size, 2, none⟩ (.int .i64 a)) g := C5.more ((Below.refl w3.heap.size w5).setCell (p := ⟨w3.heap.size, 2, none⟩) (Nat.le_refl _) _) hlt3
    obtain ⟨y0, y1, y2, y3⟩ := X5.four4
    have yi := X5.ice
    obtain ⟨z0, z1, z2, z3⟩ := (show Box _ _ (orL 3 T a 0) from X6).four4
    obtain ⟨r0, r1, r2, r3⟩ := B6.four4
    have ri := B6.ice
    have hok := oq_make (k := 3) hT HA.out (show 0 ≤ (0 : Int) ∧ (0 : Int) ≤ hiB 3 from by decide)
    have HF := Lib.hid (FIN.out _ a 0 hok C6 G6 B6 _ rfl)
    have HOK := Lib.hid hok
    clear X5 B5 G5 G5' C5 X6 B6 G6 C6 hok
    go_wp2
    show bodyPost Try.prog Try.f53 _ Exit.ret _ ((w5.setCell ⟨w3.heap.size, 2, none⟩ (.int .i64 a)).setCells w.heap.size 0 (orL 3 T a 0))
    generalize (w5.setCell ⟨w3.heap.size, 2, none⟩ (.int .i64 a)).setCells w.heap.size 0 (orL 3 T a 0) = WE at *
    obtain ⟨q0, q1, q2, q3⟩ := HF.out.1.four4
    refine bodyPost_ret_by (v := orV 3 T a 0) ?_ rfl ⟨(3, T, a, 0), HOK.out, rfl, HF.out.2.1, HF.out.2.2⟩
    simp [results, Try.f53, go_sem, q0, q1, q2, q3]
  · have hA := fun (a : Int) (h0 : 0 ≤ a) (h1 : a < 12) => (show 0 ≤ a ∧ a ≤ hiA 4 from ⟨h0, by show a ≤ 255; omega⟩)
    obtain ⟨x0, x1, x2, x3⟩ := X4.out.four4
    have xi := X4.out.ice
    go_wp2_with fail
    refine (below_any _ g 12 (by decide) C4.out).mono ?_
    rintro e w5 ⟨a, ha0, ha1, _, rfl, C5, G5⟩
    have HA := Lib.hid (hA a ha0 (ha1 (by decide)))
    clear ha1
    have X5 := X4.out.grown G5 (fun e => by injection e with e; omega)
    have B5 := B4.out.grown G5 (fun e => by injection e with e; omega)
    have G5' := grown_trans G4.out G5
    have hx5 := X5.lt
    have X6 := X5.set 2 (by simp) (.int .i64 a)
    have B6 := B5.other (ga := w3.heap.size) (by omega) 2 (.int .i64 a)
    have G6 : w.grownBy (w5.setCell ⟨w3.heap.size, 2, none⟩ (.int .i64 a)) (some g) := grown_far G5' (by omega) 2 (.int .i64 a)
    have C6 : CurB (w5.setCell ⟨w3.heap.size, 2, none⟩ (.int .i64 a)) g := C5.more ((Below.refl w3.heap.size w5).setCell (p := ⟨w3.heap.size, 2, none⟩) (Nat.le_refl _) _) hlt3
    obtain ⟨y0, y1, y2, y3⟩ := X5.four4
    have yi := X5.ice
    obtain ⟨z0, z1, z2, z3⟩ := (show Box _ _ (orL 4 T a 0) from X6).four4
    obtain ⟨r0, r1, r2, r3⟩ := B6.four4
    have ri := B6.ice
    have hok := oq_make (k := 4) hT HA.out (show 0 ≤ (0 : Int) ∧ (0 : Int) ≤ hiB 4 from by decide)
    have HF := Lib.hid (FIN.out _ a 0 hok C6 G6 B6 _ rfl)
    have HOK := Lib.hid hok
    clear X5 B5 G5 G5' C5 X6 B6 G6 C6 hok
    go_wp2
    show bodyPost Try.prog Try.f53 _ Exit.ret _ ((w5.setCell ⟨w3.heap.size, 2, none⟩ (.int .i64 a)).setCells w.heap.size 0 (orL 4 T a 0))
    generalize (w5.setCell ⟨w3.heap.size, 2, none⟩ (.int .i64 a)).setCells w.heap.size 0 (orL 4 T a 0) = WE at *
    obtain ⟨q0, q1, q2, q3⟩ := HF.out.1.four4
    refine bodyPost_ret_by (v := orV 4 T a 0) ?_ rfl ⟨(4, T, a, 0), HOK.out, rfl, HF.out.2.1, HF.out.2.2⟩
    simp [results, Try.f53, go_sem, q0, q1, q2, q3]
end Go.Proofs.Ytebfefkknaalpaa
