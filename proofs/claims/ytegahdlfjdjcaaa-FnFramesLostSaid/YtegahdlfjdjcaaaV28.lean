/- What this text proves: the parts MarkG, FrmM of the proof, each under its own words. -/
import Derived.Test.YtegahdlfjdjcaaaV15
import Derived.Test.YtegahdlfjdjcaaaV06
import Derived.Test.YtegahdlfjdjcaaaV27
/- What this text proves: marks written into a packer's Starts change nothing else; the boxes of a law over packers. -/
namespace Go.Proofs.Ytegahdlfjdjcaaa
open Go.ChangeShapes Go.WideShapes Go.ChangeAt Go.RowKit
set_option linter.unusedVariables false

theorem grown_of {w W : World} (h : Below w.heap.size w W) (row : Option Nat) : w.grownBy W row := ⟨h.os, h.tape, h.output, h.size, fun k hk _ => h.block k hk⟩
theorem grown_trans {w W W' : World} {row : Option Nat} (h1 : w.grownBy W row) (h2 : W.grownBy W' row) : w.grownBy W' row :=
  ⟨h2.os.trans h1.os, h2.tape.trans h1.tape, h2.output.trans h1.output, Nat.le_trans h1.size h2.size, fun k hk hne => (h2.block k (Nat.lt_of_lt_of_le hk h1.size) hne).trans (h1.block k hk hne)⟩
theorem grown_store {w W : World} {g j : Nat} (h : w.grownBy W (some g)) (u : Value) : w.grownBy (W.setCell ⟨g, j, none⟩ u) (some g) :=
  grown_trans h ⟨rfl, rfl, rfl, by simp, fun k hk hne => Below.heap_setCell W _ u k (fun e => hne (by rw [e]))⟩

set_option maxHeartbeats 2000000 in
theorem markI_grown (w : World) (base : Nat) (v : Value) (l : List Int) (hl : l.length ≤ 2000000) (hown : OwnI w base v l) (hbase : base ≤ w.heap.size) :
    Calls Try.prog 77 #[v, .int .i64 1] w fun e w' => e = .returned (.int .i64 ((1 + l.length : Nat) : Int)) ∧ OwnI w' base v (marksI 1 l.length) ∧ w.grownBy w' v.ownBlock := by
  rcases Nat.eq_zero_or_pos l.length with h0 | h0
  · obtain ⟨A1, c1, rfl⟩ := hown.form
    have hnil : l = [] := List.eq_nil_of_length_eq_zero h0
    have H0 := Lib.hid (show OwnI w base (.slice A1 0 c1) (marksI 1 0) by subst hnil; exact hown)
    rw [h0]
    go_enter Try.func77, Try.ntmps77
    go_wp2
    refine wp_loop_rounds 1 ?_
    rw [rounds_succ]
    go_wp2
    go_ret
    exact ⟨rfl, H0.out, grown_of (Below.refl _ _) _⟩
  · obtain ⟨g, c, rfl, hbg, hglt, _, _⟩ := hown.rows h0
    go_enter Try.func77, Try.ntmps77
    go_wp2
    go_loopw [1, 5] (fun q i wr => ∃ (k : Nat) (m : List Int), k ≤ l.length ∧ q = .int .i64 ((1 + k : Nat) : Int) ∧ i = .int .i64 (k : Int) ∧ m.take k = marksI 1 k ∧ RowI wr base g l.length c m ∧ w.grownBy wr (some g)) (fun _ i _ => l.length - (intOf i).toNat)
    case atStart => exact ⟨0, l, by omega, rfl, rfl, rfl, hown, grown_of (Below.refl _ _) _⟩
    case round =>
      obtain ⟨k, m, hk, rfl, rfl, htk, how, hbel⟩ := hrel
      have Htk := Lib.hid htk
      have HG := Lib.hid hbel
      clear htk hbel
      by_cases hlt : k < l.length
      · have hd : decide (k < l.length) = true := by simp; omega
        have hst := how.store k ((1 + k : Nat) : Int)
        rw [show ((1 + k : Nat) : Int) = 1 + (k : Int) by omega] at hst
        have hml := how.len
        have hc := how.cell k hlt
        have hf := how.frozen k
        have HS := Lib.hid hst
        have Hml := Lib.hid hml
        clear hst hml
        go_wp2
        refine ⟨⟨k + 1, m.set k (1 + (k : Int)), by omega, by go_num, by go_num, ?_, HS.out, grown_store HG.out _⟩, by simp [intOf]; omega⟩
        have hkm : k < m.length := by rw [Hml.out]; exact hlt
        rw [List.take_succ_eq_append_getElem (by simpa using hkm), List.getElem_set_self, List.take_set_of_le (Nat.le_refl _), Htk.out]
        simp only [marksI]
        rw [show ((1 + k : Nat) : Int) = 1 + (k : Int) by omega]
      · have hd : decide (k < l.length) = false := by simp; omega
        have hfin := Lib.hid (show m = marksI 1 l.length by
          have h := Htk.out
          have hml := how.len
          obtain rfl : k = l.length := by omega
          rw [List.take_of_length_le (by omega)] at h
          exact h)
        have hkl := Lib.hid (show k = l.length by omega)
        clear hlt
        go_wp2
        go_ret
        refine ⟨by rw [hkl.out]; rfl, ?_, HG.out⟩
        unfold OwnI
        rw [marksI_len, ← hfin.out]
        exact how
theorem mark_grown (c n : Int) (r : ByteArray) (l : List Int) (hl : l.length ≤ 2000000) (v : Value) (b : Nat) (w : World) (h : OwnI w b v l) (hb : b ≤ w.heap.size) :
    Calls Try.prog 51 #[paV c n r v, .int .i64 1] w fun e w' => e = .returned (.int .i64 ((1 + l.length : Nat) : Int)) ∧ OwnI w' b v (marksI 1 l.length) ∧ w.grownBy w' v.ownBlock := by
  obtain ⟨A1, c1, rfl⟩ := h.form
  have HE := Lib.hid (fun W (hW : Below w.heap.size w W) => (markI_grown W b (.slice A1 l.length c1) l hl (h.more hW) (Nat.le_trans hb hW.size)).mono fun e w' hh => (show e = .returned (.int .i64 ((1 + l.length : Nat) : Int)) ∧ OwnI w' b (.slice A1 l.length c1) (marksI 1 l.length) ∧ w.grownBy w' (Value.slice A1 l.length c1).ownBlock from ⟨hh.1, hh.2.1, grown_trans (grown_of hW _) hh.2.2⟩))
  clear h
  go_enter Try.func51, Try.ntmps51
  go_wp2_with fail
  refine (HE.out _ ((Below.refl _ w).alloc (Nat.le_refl _) _)).mono ?_
  rintro e w' ⟨rfl, hown, hg⟩
  have HO := Lib.hid hown
  have HG := Lib.hid hg
  clear hown hg
  go_wp2
  go_ret
  exact ⟨rfl, HO.out, HG.out⟩

/-- The boxes of a law over packers: what it was handed, the model's answer at gw, the argument at gx, the program's answer at gg. -/
structure LP (w W : World) (gw gx gg : Nat) (p zw zx zg : List Value) (vw vx vg : Value) (lw lx lg : List Int) : Prop where
  below : Below w.heap.size w W
  bp : Box W w.heap.size p
  bw : Box W gw zw
  bx : Box W gx zx
  bg : Box W gg zg
  ow : OwnI W (w.heap.size + 1) vw lw
  uw : ∀ k, vw.ownBlock = some k → k < gw
  ox : OwnI W (gw + 1) vx lx
  ux : ∀ k, vx.ownBlock = some k → k < gx
  og : OwnI W (gx + 1) vg lg
  ug : ∀ k, vg.ownBlock = some k → k < gg
  s1 : w.heap.size < gw
  s2 : gw < gx
  s3 : gx < gg
theorem OwnI.grown {W W' : World} {b : Nat} {v : Value} {l : List Int} {row : Option Nat} (h : OwnI W b v l) (hg : W.grownBy W' row) (hne : ∀ k, v.ownBlock = some k → row ≠ some k) : OwnI W' b v l := by
  refine World.ownsRow.kept (row := row) h hg ?_
  cases hv : v.ownBlock with
  | none => exact .inl rfl
  | some k => exact .inr (fun e => hne k hv e.symm)
theorem LP.more {w W W' : World} {gw gx gg : Nat} {p zw zx zg : List Value} {vw vx vg : Value} {lw lx lg : List Int} (h : LP w W gw gx gg p zw zx zg vw vx vg lw lx lg) (hb : Below W.heap.size W W') : LP w W' gw gx gg p zw zx zg vw vx vg lw lx lg :=
  ⟨h.below.trans (hb.mono h.below.size), h.bp.more hb, h.bw.more hb, h.bx.more hb, h.bg.more hb, h.ow.more hb, h.uw, h.ox.more hb, h.ux, h.og.more hb, h.ug, h.s1, h.s2, h.s3⟩
theorem LP.markX {w W W' : World} {gw gx gg : Nat} {p zw zx zg : List Value} {vw vx vg : Value} {lw lx lx' lg : List Int} (h : LP w W gw gx gg p zw zx zg vw vx vg lw lx lg) (ho : OwnI W' (gw + 1) vx lx') (hg : W.grownBy W' vx.ownBlock) : LP w W' gw gx gg p zw zx zg vw vx vg lw lx' lg := by
  have hlt := World.ownsRow.lt h.ox
  have s1 := h.s1
  have s2 := h.s2
  have s3 := h.s3
  have hne : ∀ k, k ≤ gw ∨ gx ≤ k → vx.ownBlock ≠ some k := fun k hk e => by
    have h1 := (hlt k e).1
    have h2 := h.ux k e
    omega
  exact ⟨h.below.grown hg h.below.size (fun k hk => by have := (hlt k hk).1; omega), h.bp.grown hg (hne _ (by omega)), h.bw.grown hg (hne _ (by omega)), h.bx.grown hg (hne _ (by omega)), h.bg.grown hg (hne _ (by omega)),
    h.ow.grown hg (fun k hk => hne _ (by have := h.uw k hk; omega)), h.uw, ho, h.ux, h.og.grown hg (fun k hk => hne _ (by have := (World.ownsRow.lt h.og k hk).1; omega)), h.ug, s1, s2, s3⟩
theorem LP.markG {w W W' : World} {gw gx gg : Nat} {p zw zx zg : List Value} {vw vx vg : Value} {lw lx lg lg' : List Int} (h : LP w W gw gx gg p zw zx zg vw vx vg lw lx lg) (ho : OwnI W' (gx + 1) vg lg') (hg : W.grownBy W' vg.ownBlock) : LP w W' gw gx gg p zw zx zg vw vx vg lw lx lg' := by
  have hlt := World.ownsRow.lt h.og
  have s1 := h.s1
  have s2 := h.s2
  have s3 := h.s3
  have hne : ∀ k, k ≤ gx ∨ gg ≤ k → vg.ownBlock ≠ some k := fun k hk e => by
    have h1 := (hlt k e).1
    have h2 := h.ug k e
    omega
  exact ⟨h.below.grown hg h.below.size (fun k hk => by have := (hlt k hk).1; omega), h.bp.grown hg (hne _ (by omega)), h.bw.grown hg (hne _ (by omega)), h.bx.grown hg (hne _ (by omega)), h.bg.grown hg (hne _ (by omega)),
    h.ow.grown hg (fun k hk => hne _ (by have := h.uw k hk; omega)), h.uw, h.ox.grown hg (fun k hk => hne _ (by have := h.ux k hk; omega)), h.ux, ho, h.ug, s1, s2, s3⟩
theorem LP.gz {w W : World} {gw gx gg : Nat} {p zw zx zg : List Value} {vw vx vg : Value} {lw lx lg : List Int} (h : LP w W gw gx gg p zw zx zg vw vx vg lw lx lg) : gw + 1 ≤ W.heap.size ∧ gx + 1 ≤ W.heap.size := ⟨h.bw.lt, h.bx.lt⟩
theorem upto {W : World} {b : Nat} {v : Value} {l : List Int} (h : OwnI W b v l) : ∀ k, v.ownBlock = some k → k < W.heap.size := fun k hk => (World.ownsRow.lt h k hk).2
end Go.Proofs.Ytegahdlfjdjcaaa
/- What this text proves: the contracts of the laws' marks over lists of frames: marks that were written are found again. -/
namespace Go.Proofs.Ytegahdlfjdjcaaa
open Go.ChangeShapes Go.WideShapes Go.ChangeAt Go.RowKit
set_option linter.unusedVariables false

/-- The first k frames of block g bear their marks. -/
def MkF (W : World) (g M k : Nat) : Prop := ∀ i, i < k → W.cell? ⟨g, i * 4, none⟩ = some (.int .i64 ((M : Int) + 4 * (i : Int))) ∧ W.cell? ⟨g, i * 4 + 1, none⟩ = some (.int .i64 ((M : Int) + 4 * (i : Int) + 1)) ∧ W.cell? ⟨g, i * 4 + 2, none⟩ = some (.int .i64 ((M : Int) + 4 * (i : Int) + 1 + 1)) ∧ W.cell? ⟨g, i * 4 + 3, none⟩ = some (.string (markV (M + 4 * i + 3)))
theorem MkF.more {W W' : World} {g M k n : Nat} (h : MkF W g M k) (hb : Below n W W') (hg : g < n) : MkF W' g M k := fun i hi =>
  ⟨(hb.cell (p := ⟨g, i * 4, none⟩) hg).trans (h i hi).1, (hb.cell (p := ⟨g, i * 4 + 1, none⟩) hg).trans (h i hi).2.1, (hb.cell (p := ⟨g, i * 4 + 2, none⟩) hg).trans (h i hi).2.2.1, (hb.cell (p := ⟨g, i * 4 + 3, none⟩) hg).trans (h i hi).2.2.2⟩
theorem MkF.past {W : World} {g M k : Nat} (h : MkF W g M k) (j : Nat) (hj : k * 4 ≤ j) (u : Value) : MkF (W.setCell ⟨g, j, none⟩ u) g M k := fun i hi => by
  refine ⟨?_, ?_, ?_, ?_⟩
  · rw [World.cell?_setCell_other _ _ _ _ (fun he => by have := congrArg Addr.off he; simp at this; omega)]; exact (h i hi).1
  · rw [World.cell?_setCell_other _ _ _ _ (fun he => by have := congrArg Addr.off he; simp at this; omega)]; exact (h i hi).2.1
  · rw [World.cell?_setCell_other _ _ _ _ (fun he => by have := congrArg Addr.off he; simp at this; omega)]; exact (h i hi).2.2.1
  · rw [World.cell?_setCell_other _ _ _ _ (fun he => by have := congrArg Addr.off he; simp at this; omega)]; exact (h i hi).2.2.2
theorem MkF.succ {W : World} {g M k : Nat} (h : MkF W g M k) (h0 : W.cell? ⟨g, k * 4, none⟩ = some (.int .i64 ((M : Int) + 4 * (k : Int)))) (h1 : W.cell? ⟨g, k * 4 + 1, none⟩ = some (.int .i64 ((M : Int) + 4 * (k : Int) + 1))) (h2 : W.cell? ⟨g, k * 4 + 2, none⟩ = some (.int .i64 ((M : Int) + 4 * (k : Int) + 1 + 1))) (h3 : W.cell? ⟨g, k * 4 + 3, none⟩ = some (.string (markV (M + 4 * k + 3)))) : MkF W g M (k + 1) := fun i hi => by
  rcases Nat.lt_or_ge i k with h4 | h4
  · exact h i h4
  · obtain rfl : i = k := by omega
    exact ⟨h0, h1, h2, h3⟩
/-- A world where frame k of block g bears its first three marks, behind k marked ones. -/
structure MkB (w W : World) (g N M k : Nat) : Prop where
  pad : Pad W g N
  mkd : MkF W g M k
  c0 : W.cell? ⟨g, k * 4, none⟩ = some (.int .i64 ((M : Int) + 4 * (k : Int)))
  c1 : W.cell? ⟨g, k * 4 + 1, none⟩ = some (.int .i64 ((M : Int) + 4 * (k : Int) + 1))
  c2 : W.cell? ⟨g, k * 4 + 2, none⟩ = some (.int .i64 ((M : Int) + 4 * (k : Int) + 1 + 1))
  gr : w.grownBy W (some g)
theorem cell_past {W : World} {g i j : Nat} {x u : Value} (h : W.cell? ⟨g, i, none⟩ = some x) (hij : j ≠ i) : (W.setCell ⟨g, j, none⟩ u).cell? ⟨g, i, none⟩ = some x := by
  rw [World.cell?_setCell_other _ _ _ _ (fun he => hij (congrArg Addr.off he))]
  exact h
theorem MkB.made {w W : World} {g N M k : Nat} (hp : Pad W g N) (hm : MkF W g M k) (hN : k * 4 + 3 < N) (hb : w.grownBy W (some g)) :
    MkB w (((W.setCell ⟨g, k * 4, none⟩ (.int .i64 ((M : Int) + 4 * (k : Int)))).setCell ⟨g, k * 4 + 1, none⟩ (.int .i64 ((M : Int) + 4 * (k : Int) + 1))).setCell ⟨g, k * 4 + 2, none⟩ (.int .i64 ((M : Int) + 4 * (k : Int) + 1 + 1))) g N M k := by
  obtain ⟨v0, d0⟩ := hp.has (k * 4) (by omega)
  obtain ⟨v1, d1⟩ := (hp.set (k * 4) (.int .i64 ((M : Int) + 4 * (k : Int)))).has (k * 4 + 1) (by omega)
  obtain ⟨v2, d2⟩ := ((hp.set (k * 4) (.int .i64 ((M : Int) + 4 * (k : Int)))).set (k * 4 + 1) (.int .i64 ((M : Int) + 4 * (k : Int) + 1))).has (k * 4 + 2) (by omega)
  exact ⟨((hp.set _ _).set _ _).set _ _, ((hm.past (k * 4) (Nat.le_refl _) _).past (k * 4 + 1) (by omega) _).past (k * 4 + 2) (by omega) _,
    cell_past (cell_past (World.cell?_setCell_same _ _ _ d0) (by omega)) (by omega), cell_past (World.cell?_setCell_same _ _ _ d1) (by omega), World.cell?_setCell_same _ _ _ d2,
    grown_store (grown_store (grown_store hb _) _) _⟩
theorem MkB.more {w W W' : World} {g N M k : Nat} (h : MkB w W g N M k) (hb : Below W.heap.size W W') : MkB w W' g N M k :=
  ⟨h.pad.more hb, h.mkd.more hb h.pad.lt, (hb.cell (p := ⟨g, k * 4, none⟩) h.pad.lt).trans h.c0, (hb.cell (p := ⟨g, k * 4 + 1, none⟩) h.pad.lt).trans h.c1, (hb.cell (p := ⟨g, k * 4 + 2, none⟩) h.pad.lt).trans h.c2, grown_trans h.gr (grown_of hb _)⟩
theorem MkB.last {w W : World} {g N M k : Nat} (h : MkB w W g N M k) (hN : k * 4 + 3 < N) (T : ByteArray) (hT : markV (M + 4 * k + 3) = T) :
    Pad (W.setCell ⟨g, k * 4 + 3, none⟩ (.string T)) g N ∧ MkF (W.setCell ⟨g, k * 4 + 3, none⟩ (.string T)) g M (k + 1) ∧ w.grownBy (W.setCell ⟨g, k * 4 + 3, none⟩ (.string T)) (some g) := by
  obtain ⟨v3, d3⟩ := h.pad.has (k * 4 + 3) hN
  subst hT
  exact ⟨h.pad.set _ _, (h.mkd.past (k * 4 + 3) (by omega) _).succ (cell_past h.c0 (by omega)) (cell_past h.c1 (by omega)) (cell_past h.c2 (by omega)) (World.cell?_setCell_same _ _ _ d3), grown_store h.gr _⟩

end Go.Proofs.Ytegahdlfjdjcaaa
