/- What this text proves: the contract of the laws' toBoard: a board of the call's own. -/
import Derived.Test.YtebfefkknaalpabBrM
import Derived.Test.YtebfefkknaalpabRo
import Derived.Test.YtebfefkknaalpabLmT
import Derived.Test.YtebfefkknaalpabDnT
import Derived.Test.YtebfefkknaalpabWtT
import Derived.Test.YtebfefkknaalpabInT
namespace Go.Proofs.Ytebfefkknaalpab
open Go.ChangeShapes Go.WideShapes Go.ChangeAt Go.RowKit
set_option linter.unusedVariables false


def SzP (n L : Nat) (x : Int) : Prop := (n ≤ L ∧ x = ((L - n : Nat) : Int)) ∨ (L < n ∧ x = -1)
theorem szP_of {n L : Nat} {x : Int} (h : x = if n ≤ L then (L : Int) - (n : Int) else -1) : SzP n L x := by
  by_cases g : n ≤ L
  · rw [if_pos g] at h; exact .inl ⟨g, by omega⟩
  · rw [if_neg g] at h; exact .inr ⟨by omega, h⟩
theorem szP_of' {n L : Nat} {x : Int} (h : x = if n ≤ L then ((L - n : Nat) : Int) else -1) : SzP n L x := by
  by_cases g : n ≤ L
  · rw [if_pos g] at h; exact .inl ⟨g, h⟩
  · rw [if_neg g] at h; exact .inr ⟨by omega, h⟩
/-- How much of its data a board has. -/
def bdSum (b : Bd) : Nat := b.ps.length + b.ls.length + b.os.length + b.ds.length + (b.rs.length + totRc b.rs b.rs.length + b.xs.length) + b.qs.length
structure BdMax (b : Bd) : Prop where
  ps : b.ps.length ≤ maxLen
  ls : b.ls.length ≤ maxLen
  os : b.os.length ≤ maxLen
  ds : b.ds.length ≤ maxLen
  rs : b.rs.length ≤ maxLen
  ss : ∀ j (hj : j < b.rs.length), b.rs[j].2.2.2.size ≤ maxLen
  xs : b.xs.length ≤ maxLen
  qs : b.qs.length ≤ maxLen

set_option maxRecDepth 20000 in
set_option maxHeartbeats 2000000 in
theorem sz_bd (b : Bd) (a : BdA) (hz : BdMax b) (L : Nat) (hL : L ≤ 1048576) (w : World) (h : BdAt w w.heap.size b a) :
    Calls Try.prog 25 #[bdV b a, .int .i64 (L : Int)] w fun e w' => ∃ x, e = .returned (.int .i64 x) ∧ SzP (bdSum b) L x ∧ Fit w w' w.heap.size (bdL b a) := by
  have F0 := Lib.hid (Fit.made w (bdL b a) 51)
  have H1 := Lib.hid (fun (L : Nat) (hL : L ≤ 1048576) (W : World) => (szI_same a.aP b.ps.length a.cP L hz.ps hL W).mono fun e w' h => (show ∃ x, e = .returned (.int .i64 x) ∧ SzP b.ps.length L x ∧ Below W.heap.size W w' from ⟨_, h.1, szP_of rfl, h.2⟩))
  have H2 := Lib.hid (fun (L : Nat) (hL : L ≤ 1048576) (W : World) => (sz_lms a.aL b.ls.length a.cL L hz.ls hL W).mono fun e w' h => (show ∃ x, e = .returned (.int .i64 x) ∧ SzP b.ls.length L x ∧ Below W.heap.size W w' from ⟨_, h.1, szP_of rfl, by rw [← h.2]; exact Below.refl _ _⟩))
  have H3 := Lib.hid (fun (L : Nat) (hL : L ≤ 1048576) (W : World) => (sz_wts a.aO b.os.length a.cO L hz.os hL W).mono fun e w' h => (show ∃ x, e = .returned (.int .i64 x) ∧ SzP b.os.length L x ∧ Below W.heap.size W w' from ⟨_, h.1, szP_of rfl, by rw [← h.2]; exact Below.refl _ _⟩))
  have H4 := Lib.hid (fun (L : Nat) (hL : L ≤ 1048576) (W : World) => (sz_dns a.aD b.ds.length a.cD L hz.ds hL W).mono fun e w' h => (show ∃ x, e = .returned (.int .i64 x) ∧ SzP b.ds.length L x ∧ Below W.heap.size W w' from ⟨_, h.1, szP_of rfl, by rw [← h.2]; exact Below.refl _ _⟩))
  have H5 := Lib.hid (fun (L : Nat) (hL : L ≤ 1048576) (W : World) (hb : Below w.heap.size w W) => (sz_ro b.r a.aR a.aX b.rs b.xs a.cR a.cX L hz.rs hz.ss hz.xs hL W (h.full hb).rs).mono fun e w' h => (show ∃ x, e = .returned (.int .i64 x) ∧ SzP (b.rs.length + totRc b.rs b.rs.length + b.xs.length) L x ∧ Below W.heap.size W w' from ⟨_, h.1, szP_of' rfl, h.2⟩))
  have H6 := Lib.hid (fun (L : Nat) (hL : L ≤ 1048576) (W : World) => (szI_same a.aQ b.qs.length a.cQ L hz.qs hL W).mono fun e w' h => (show ∃ x, e = .returned (.int .i64 x) ∧ SzP b.qs.length L x ∧ Below W.heap.size W w' from ⟨_, h.1, szP_of rfl, h.2⟩))
  have HSUM := Lib.hid (show bdSum b = b.ps.length + b.ls.length + b.os.length + b.ds.length + (b.rs.length + totRc b.rs b.rs.length + b.xs.length) + b.qs.length from rfl)
  clear h hz
  obtain ⟨S, hS⟩ : ∃ S, S = bdSum b := ⟨_, rfl⟩
  obtain ⟨SR, hSR⟩ : ∃ SR, SR = b.rs.length + totRc b.rs b.rs.length + b.xs.length := ⟨_, rfl⟩
  rw [← hS, ← hSR] at HSUM
  rw [← hS]
  rw [← hSR] at H5
  clear hS hSR
  go_enter Try.func25, Try.ntmps25
  have hL0 := hL
  have k1 := F0.out.box.cell 1 (by simp)
  go_wp2_with fail
  refine (H1.out L hL0 _).mono ?_
  rintro e w1 ⟨x, rfl, hx, hb⟩
  have F1 := Lib.hid (F0.out.more hb)
  clear hb k1
  rcases hx with ⟨h1, rfl⟩ | ⟨h1, rfl⟩
  rotate_left
  · have HV := Lib.hid (show SzP S L (-1) from .inr ⟨by have := HSUM.out; omega, rfl⟩)
    clear h1
    go_wp2
    go_ret
    exact ⟨_, rfl, HV.out, F1.out⟩
  obtain ⟨L1, e1⟩ : ∃ L1, L1 = L - b.ps.length := ⟨_, rfl⟩
  rw [← e1]
  have q1 : L1 + b.ps.length = L := by omega
  have d1 : decide ((L1 : Int) < 0) = false := by simp
  have hL1 : L1 ≤ 1048576 := by omega
  clear h1 e1
  have Q1 := Lib.hid q1
  clear q1
  have k3 := F1.out.box.cell 3 (by simp)
  go_wp2_with fail
  refine (H2.out L1 hL1 _).mono ?_
  rintro e w2 ⟨x, rfl, hx, hb⟩
  have F2 := Lib.hid (F1.out.more hb)
  clear hb k3
  rcases hx with ⟨h1, rfl⟩ | ⟨h1, rfl⟩
  rotate_left
  · have HV := Lib.hid (show SzP S L (-1) from .inr ⟨by have := HSUM.out; have := Q1.out; omega, rfl⟩)
    clear h1
    go_wp2
    go_ret
    exact ⟨_, rfl, HV.out, F2.out⟩
  obtain ⟨L2, e2⟩ : ∃ L2, L2 = L1 - b.ls.length := ⟨_, rfl⟩
  rw [← e2]
  have q2 : L2 + b.ls.length = L1 := by omega
  have d2 : decide ((L2 : Int) < 0) = false := by simp
  have hL2 : L2 ≤ 1048576 := by omega
  clear h1 e2
  have Q2 := Lib.hid q2
  clear q2
  have k4 := F2.out.box.cell 4 (by simp)
  go_wp2_with fail
  refine (H3.out L2 hL2 _).mono ?_
  rintro e w3 ⟨x, rfl, hx, hb⟩
  have F3 := Lib.hid (F2.out.more hb)
  clear hb k4
  rcases hx with ⟨h1, rfl⟩ | ⟨h1, rfl⟩
  rotate_left
  · have HV := Lib.hid (show SzP S L (-1) from .inr ⟨by have := HSUM.out; have := Q1.out; have := Q2.out; omega, rfl⟩)
    clear h1
    go_wp2
    go_ret
    exact ⟨_, rfl, HV.out, F3.out⟩
  obtain ⟨L3, e3⟩ : ∃ L3, L3 = L2 - b.os.length := ⟨_, rfl⟩
  rw [← e3]
  have q3 : L3 + b.os.length = L2 := by omega
  have d3 : decide ((L3 : Int) < 0) = false := by simp
  have hL3 : L3 ≤ 1048576 := by omega
  clear h1 e3
  have Q3 := Lib.hid q3
  clear q3
  have k5 := F3.out.box.cell 5 (by simp)
  go_wp2_with fail
  refine (H4.out L3 hL3 _).mono ?_
  rintro e w4 ⟨x, rfl, hx, hb⟩
  have F4 := Lib.hid (F3.out.more hb)
  clear hb k5
  rcases hx with ⟨h1, rfl⟩ | ⟨h1, rfl⟩
  rotate_left
  · have HV := Lib.hid (show SzP S L (-1) from .inr ⟨by have := HSUM.out; have := Q1.out; have := Q2.out; have := Q3.out; omega, rfl⟩)
    clear h1
    go_wp2
    go_ret
    exact ⟨_, rfl, HV.out, F4.out⟩
  obtain ⟨L4, e4⟩ : ∃ L4, L4 = L3 - b.ds.length := ⟨_, rfl⟩
  rw [← e4]
  have q4 : L4 + b.ds.length = L3 := by omega
  have d4 : decide ((L4 : Int) < 0) = false := by simp
  have hL4 : L4 ≤ 1048576 := by omega
  clear h1 e4
  have Q4 := Lib.hid q4
  clear q4
  have k6 := F4.out.box.cell 6 (by simp)
  have k7 := F4.out.box.cell 7 (by simp)
  have k8 := F4.out.box.cell 8 (by simp)
  go_wp2_with fail
  refine (H5.out L4 hL4 _ F4.out.below).mono ?_
  rintro e w5 ⟨x, rfl, hx, hb⟩
  have F5 := Lib.hid (F4.out.more hb)
  clear hb k6 k7 k8
  rcases hx with ⟨h1, rfl⟩ | ⟨h1, rfl⟩
  rotate_left
  · have HV := Lib.hid (show SzP S L (-1) from .inr ⟨by have := HSUM.out; have := Q1.out; have := Q2.out; have := Q3.out; have := Q4.out; omega, rfl⟩)
    clear h1
    go_wp2
    go_ret
    exact ⟨_, rfl, HV.out, F5.out⟩
  obtain ⟨L5, e5⟩ : ∃ L5, L5 = L4 - SR := ⟨_, rfl⟩
  rw [← e5]
  have q5 : L5 + SR = L4 := by omega
  have d5 : decide ((L5 : Int) < 0) = false := by simp
  have hL5 : L5 ≤ 1048576 := by omega
  clear h1 e5
  have Q5 := Lib.hid q5
  clear q5
  have k11 := F5.out.box.cell 11 (by simp)
  go_wp2_with fail
  refine (H6.out L5 hL5 _).mono ?_
  rintro e w6 ⟨x, rfl, hx, hb⟩
  have F6 := Lib.hid (F5.out.more hb)
  clear hb k11
  rcases hx with ⟨h1, rfl⟩ | ⟨h1, rfl⟩
  rotate_left
  · have HV := Lib.hid (show SzP S L (-1) from .inr ⟨by have := HSUM.out; have := Q1.out; have := Q2.out; have := Q3.out; have := Q4.out; have := Q5.out; omega, rfl⟩)
    clear h1
    go_wp2
    go_ret
    exact ⟨_, rfl, HV.out, F6.out⟩
  obtain ⟨L6, e6⟩ : ∃ L6, L6 = L5 - b.qs.length := ⟨_, rfl⟩
  rw [← e6]
  have q6 : L6 + b.qs.length = L5 := by omega
  have d6 : decide ((L6 : Int) < 0) = false := by simp
  have hL6 : L6 ≤ 1048576 := by omega
  clear h1 e6
  have Q6 := Lib.hid q6
  clear q6
  have HV := Lib.hid (show SzP S L (L6 : Int) from .inl ⟨by have := HSUM.out; have := Q1.out; have := Q2.out; have := Q3.out; have := Q4.out; have := Q5.out; have := Q6.out; omega, by have := HSUM.out; have := Q1.out; have := Q2.out; have := Q3.out; have := Q4.out; have := Q5.out; have := Q6.out; omega⟩)
  go_wp2
  go_ret
  exact ⟨_, rfl, HV.out, F6.out⟩

/-- A board of the call's own. -/
structure OwnBd (w : World) (base : Nat) (v : Value) (b : Bd) : Prop where
  form : ∃ a : BdA, v = bdV b a ∧ OwnIn w base (.slice a.aP b.ps.length a.cP) b.ps ∧ OwnLm w base (.slice a.aL b.ls.length a.cL) b.ls ∧ OwnWt w base (.slice a.aO b.os.length a.cO) b.os ∧ OwnDn w base (.slice a.aD b.ds.length a.cD) b.ds ∧ OwnRo w base (roV b.r (.slice a.aR b.rs.length a.cR) (.slice a.aX b.xs.length a.cX)) b.r b.rs b.xs ∧ OwnIn w base (.slice a.aQ b.qs.length a.cQ) b.qs
theorem OwnBd.more {w w' : World} {base : Nat} {v : Value} {b : Bd} (h : OwnBd w base v b) (hb : Below w.heap.size w w') : OwnBd w' base v b := by
  obtain ⟨a, rfl, h1, h2, h3, h4, h5, h6⟩ := h.form
  exact ⟨a, rfl, LsO.more h1 hb, LsO.more h2 hb, LsO.more h3 hb, LsO.more h4 hb, h5.more hb, LsO.more h6 hb⟩
theorem OwnBd.lower {w : World} {base base' : Nat} {v : Value} {b : Bd} (h : OwnBd w base v b) (hb : base' ≤ base) : OwnBd w base' v b := by
  obtain ⟨a, rfl, h1, h2, h3, h4, h5, h6⟩ := h.form
  exact ⟨a, rfl, LsO.lower h1 hb, LsO.lower h2 hb, LsO.lower h3 hb, LsO.lower h4 hb, h5.lower hb, LsO.lower h6 hb⟩
theorem OwnBd.at {w : World} {base : Nat} {b : Bd} {v : Value} (h : OwnBd w base v b) : ∃ a, v = bdV b a ∧ BdAt w w.heap.size b a := by
  obtain ⟨a, rfl, h1, h2, h3, h4, h5, h6⟩ := h.form
  obtain ⟨A, c, A2, c2, he, g1, g2, _⟩ := h5.form
  simp at he
  obtain ⟨⟨rfl, rfl⟩, rfl, rfl⟩ := he
  exact ⟨a, rfl, LsO.ats h1, LsO.ats h2, LsO.ats h3, LsO.ats h4, LsO.ats g1, LsO.ats g2, LsO.ats h6⟩

set_option maxRecDepth 20000 in
set_option maxHeartbeats 2000000 in
theorem eq_bd (b : Bd) (hz : BdSz b) (v1 v2 : Value) (b1 b2 : Nat) (w : World) (h1 : OwnBd w b1 v1 b) (h2 : OwnBd w b2 v2 b) :
    Calls Try.prog 29 #[v1, v2] w fun e w' => e = .returned (.bool true) ∧ Below w.heap.size w w' := by
  obtain ⟨a1, rfl, p1, p2, p3, p4, p5, p6⟩ := h1.form
  obtain ⟨a2, rfl, q1, q2, q3, q4, q5, q6⟩ := h2.form
  have FX := (Fit.made w (bdL b a1) 58).more ((Below.refl _ _).alloc (Nat.le_refl _) (.cells (bdL b a2).toArray 58))
  have FY := Fit.made (w.alloc (.cells (bdL b a1).toArray 58)) (bdL b a2) 58
  rw [show (w.alloc (.cells (bdL b a1).toArray 58)).heap.size = w.heap.size + 1 by simp] at FY
  have HY := Lib.hid FY.box
  have HX := Lib.hid FX
  have H1 := Lib.hid (fun W (hb : Below w.heap.size w W) => eqIn_any W b1 b2 _ _ b.ps hz.ps (LsO.more p1 hb) (LsO.more q1 hb))
  have H2 := Lib.hid (fun W (hb : Below w.heap.size w W) => eqLm_any W b1 b2 _ _ b.ls hz.ls (LsO.more p2 hb) (LsO.more q2 hb))
  have H3 := Lib.hid (fun W (hb : Below w.heap.size w W) => eqWt_any W b1 b2 _ _ b.os hz.os (LsO.more p3 hb) (LsO.more q3 hb))
  have H4 := Lib.hid (fun W (hb : Below w.heap.size w W) => eqDn_any W b1 b2 _ _ b.ds hz.ds (LsO.more p4 hb) (LsO.more q4 hb))
  have H5 := Lib.hid (fun W (hb : Below w.heap.size w W) => eq_ro b.r b.rs b.xs hz.rs hz.xs _ _ b1 b2 W (p5.more hb) (q5.more hb))
  have H6 := Lib.hid (fun W (hb : Below w.heap.size w W) => eqIn_any W b1 b2 _ _ b.qs hz.qs (LsO.more p6 hb) (LsO.more q6 hb))
  clear h1 h2 p1 p2 p3 p4 p5 p6 q1 q2 q3 q4 q5 q6 FX FY hz
  go_enter Try.func29, Try.ntmps29
  have x0 := HX.out.box.cell 0 (by simp)
  have y0 := HY.out.cell 0 (by simp)
  have x1 := HX.out.box.cell 1 (by simp)
  have y1 := HY.out.cell 1 (by simp)
  go_wp2_with fail
  refine (H1.out _ HX.out.below).mono ?_
  rintro e w1 ⟨rfl, hb⟩
  replace HX := Lib.hid (HX.out.more hb)
  replace HY := Lib.hid (HY.out.more hb)
  clear hb x0 y0 x1 y1
  have x2 := HX.out.box.cell 2 (by simp)
  have y2 := HY.out.cell 2 (by simp)
  have x3 := HX.out.box.cell 3 (by simp)
  have y3 := HY.out.cell 3 (by simp)
  go_wp2_with fail
  refine (H2.out _ HX.out.below).mono ?_
  rintro e w2 ⟨rfl, hb⟩
  replace HX := Lib.hid (HX.out.more hb)
  replace HY := Lib.hid (HY.out.more hb)
  clear hb x2 y2 x3 y3
  have x4 := HX.out.box.cell 4 (by simp)
  have y4 := HY.out.cell 4 (by simp)
  go_wp2_with fail
  refine (H3.out _ HX.out.below).mono ?_
  rintro e w3 ⟨rfl, hb⟩
  replace HX := Lib.hid (HX.out.more hb)
  replace HY := Lib.hid (HY.out.more hb)
  clear hb x4 y4
  have x5 := HX.out.box.cell 5 (by simp)
  have y5 := HY.out.cell 5 (by simp)
  go_wp2_with fail
  refine (H4.out _ HX.out.below).mono ?_
  rintro e w4 ⟨rfl, hb⟩
  replace HX := Lib.hid (HX.out.more hb)
  replace HY := Lib.hid (HY.out.more hb)
  clear hb x5 y5
  have x6 := HX.out.box.cell 6 (by simp)
  have y6 := HY.out.cell 6 (by simp)
  have x7 := HX.out.box.cell 7 (by simp)
  have y7 := HY.out.cell 7 (by simp)
  have x8 := HX.out.box.cell 8 (by simp)
  have y8 := HY.out.cell 8 (by simp)
  go_wp2_with fail
  refine (H5.out _ HX.out.below).mono ?_
  rintro e w5 ⟨rfl, hb⟩
  replace HX := Lib.hid (HX.out.more hb)
  replace HY := Lib.hid (HY.out.more hb)
  clear hb x6 y6 x7 y7 x8 y8
  have x9 := HX.out.box.cell 9 (by simp)
  have y9 := HY.out.cell 9 (by simp)
  have x10 := HX.out.box.cell 10 (by simp)
  have y10 := HY.out.cell 10 (by simp)
  have x11 := HX.out.box.cell 11 (by simp)
  have y11 := HY.out.cell 11 (by simp)
  go_wp2_with fail
  refine (H6.out _ HX.out.below).mono ?_
  rintro e w6 ⟨rfl, hb⟩
  replace HX := Lib.hid (HX.out.more hb)
  replace HY := Lib.hid (HY.out.more hb)
  clear hb x9 y9 x10 y10 x11 y11
  go_wp2
  go_ret
  exact ⟨rfl, HX.out.below⟩


set_option maxRecDepth 20000 in
set_option maxHeartbeats 4000000 in
theorem to_bd (b : Bd) (a : BdA) (hps : b.ps.length ≤ 1048576) (hls : b.ls.length ≤ 1048576) (hos : b.os.length ≤ 1048576) (hds : b.ds.length ≤ 1048576) (hrs : b.rs.length ≤ 1048576) (hxs : b.xs.length ≤ 1048576) (hqs : b.qs.length ≤ 1048576) (w : World) (h : BdAt w w.heap.size b a) :
    Calls Try.prog 27 #[bdV b a] w fun e w' => ∃ v, e = .returned v ∧ OwnBd w' w.heap.size v b ∧ Below w.heap.size w w' := by
  have HT1 := Lib.hid (fun W (hb : Below w.heap.size w W) => to_ins a.aP b.ps a.cP hps W (h.full hb).ps)
  have HT2 := Lib.hid (fun W (hb : Below w.heap.size w W) => to_lms a.aL b.ls a.cL hls W (h.full hb).ls)
  have HT3 := Lib.hid (fun W (hb : Below w.heap.size w W) => to_wts a.aO b.os a.cO hos W (h.full hb).os)
  have HT4 := Lib.hid (fun W (hb : Below w.heap.size w W) => to_dns a.aD b.ds a.cD hds W (h.full hb).ds)
  have HT5 := Lib.hid (fun W (hb : Below w.heap.size w W) => to_ro b.r a.aR a.aX b.rs b.xs a.cR a.cX hrs hxs W (h.full hb).rs (h.full hb).xs)
  have HT6 := Lib.hid (fun W (hb : Below w.heap.size w W) => to_ins a.aQ b.qs a.cQ hqs W (h.full hb).qs)
  have BI := Lib.hid (((Box.made w (bdL b a) 51 w.heap.size rfl).alloc (.cells #[.int .i64 0, .slice none 0 0, .bool false, .slice none 0 0, .slice none 0 0, .slice none 0 0, .int .i64 0, .slice none 0 0, .slice none 0 0, .int .i64 0, .int .i64 0, .slice none 0 0] 58)).alloc (.cells #[.int .i64 b.cl, .slice none 0 0, .bool false, .slice none 0 0, .slice none 0 0, .slice none 0 0, .int .i64 0, .slice none 0 0, .slice none 0 0, .int .i64 0, .int .i64 0, .slice none 0 0] 58))
  have BR := Lib.hid ((Box.made (w.alloc (.cells (bdL b a).toArray 51)) [.int .i64 0, .slice none 0 0, .bool false, .slice none 0 0, .slice none 0 0, .slice none 0 0, .int .i64 0, .slice none 0 0, .slice none 0 0, .int .i64 0, .int .i64 0, .slice none 0 0] 58 (w.heap.size + 1) (by simp)).alloc (.cells #[.int .i64 b.cl, .slice none 0 0, .bool false, .slice none 0 0, .slice none 0 0, .slice none 0 0, .int .i64 0, .slice none 0 0, .slice none 0 0, .int .i64 0, .int .i64 0, .slice none 0 0] 58))
  have BO := Lib.hid (Box.made ((w.alloc (.cells (bdL b a).toArray 51)).alloc (.cells #[.int .i64 0, .slice none 0 0, .bool false, .slice none 0 0, .slice none 0 0, .slice none 0 0, .int .i64 0, .slice none 0 0, .slice none 0 0, .int .i64 0, .int .i64 0, .slice none 0 0] 58)) [.int .i64 b.cl, .slice none 0 0, .bool false, .slice none 0 0, .slice none 0 0, .slice none 0 0, .int .i64 0, .slice none 0 0, .slice none 0 0, .int .i64 0, .int .i64 0, .slice none 0 0] 58 (w.heap.size + 1 + 1) (by simp))
  have HB := Lib.hid (show Below w.heap.size w (((w.alloc (.cells (bdL b a).toArray 51)).alloc (.cells #[.int .i64 0, .slice none 0 0, .bool false, .slice none 0 0, .slice none 0 0, .slice none 0 0, .int .i64 0, .slice none 0 0, .slice none 0 0, .int .i64 0, .int .i64 0, .slice none 0 0] 58)).alloc (.cells #[.int .i64 b.cl, .slice none 0 0, .bool false, .slice none 0 0, .slice none 0 0, .slice none 0 0, .int .i64 0, .slice none 0 0, .slice none 0 0, .int .i64 0, .int .i64 0, .slice none 0 0] 58)) from (((Below.refl _ w).alloc (Nat.le_refl _) _).alloc (by simp) _).alloc (by simp; omega) _)
  have HZ := Lib.hid (show w.heap.size + 3 ≤ (((w.alloc (.cells (bdL b a).toArray 51)).alloc (.cells #[.int .i64 0, .slice none 0 0, .bool false, .slice none 0 0, .slice none 0 0, .slice none 0 0, .int .i64 0, .slice none 0 0, .slice none 0 0, .int .i64 0, .int .i64 0, .slice none 0 0] 58)).alloc (.cells #[.int .i64 b.cl, .slice none 0 0, .bool false, .slice none 0 0, .slice none 0 0, .slice none 0 0, .int .i64 0, .slice none 0 0, .slice none 0 0, .int .i64 0, .int .i64 0, .slice none 0 0] 58)).heap.size by simp)
  clear h
  go_enter Try.func27, Try.ntmps27
  have z1 := BI.out.cell 0 (by simp)
  have z2 := BI.out.cell 1 (by simp)
  go_wp2_with fail
  refine (HT1.out _ HB.out).mono ?_
  rintro e w1 ⟨v, rfl, hown, hb⟩
  have hsz := hb.size
  replace BI := Lib.hid (BI.out.more hb)
  replace BR := Lib.hid (BR.out.more hb)
  replace BO := Lib.hid (BO.out.more hb)
  obtain ⟨A1, c1, rfl⟩ := OwnIn.nform hown
  have O1 := Lib.hid (LsO.lower hown (base' := w.heap.size + 3) HZ.out)
  clear hown
  replace HB := Lib.hid (HB.out.trans (hb.mono (by have := HZ.out; omega)))
  replace HZ := Lib.hid (Nat.le_trans HZ.out hsz)
  clear hb hsz z1 z2
  have z3 := BO.out.cell 1 (by simp)
  have z4 := BO.out.ice
  replace BO := Lib.hid (show Box _ _ [.int .i64 b.cl, .slice A1 b.ps.length c1, .bool false, .slice none 0 0, .slice none 0 0, .slice none 0 0, .int .i64 0, .slice none 0 0, .slice none 0 0, .int .i64 0, .int .i64 0, .slice none 0 0] from BO.out.set 1 (by simp) (.slice A1 b.ps.length c1))
  replace BI := Lib.hid (BI.out.other (ga := w.heap.size + 1 + 1) (by omega) 1 (.slice A1 b.ps.length c1))
  replace BR := Lib.hid (BR.out.other (ga := w.heap.size + 1 + 1) (by omega) 1 (.slice A1 b.ps.length c1))
  replace O1 := Lib.hid (LsO.past O1.out (g := w.heap.size + 1 + 1) (j := 1) (by omega) (.slice A1 b.ps.length c1))
  replace HB := Lib.hid (HB.out.setCell (p := ⟨w.heap.size + 1 + 1, 1, none⟩) (by simp; omega) (.slice A1 b.ps.length c1))
  replace HZ := Lib.hid (show w.heap.size + 3 ≤ (w1.setCell ⟨w.heap.size + 1 + 1, 1, none⟩ (.slice A1 b.ps.length c1)).heap.size by simpa using HZ.out)
  have z5 := BI.out.cell 2 (by simp)
  have z6 := BO.out.cell 2 (by simp)
  have z7 := BO.out.ice
  replace BO := Lib.hid (show Box _ _ [.int .i64 b.cl, .slice A1 b.ps.length c1, .bool b.sf, .slice none 0 0, .slice none 0 0, .slice none 0 0, .int .i64 0, .slice none 0 0, .slice none 0 0, .int .i64 0, .int .i64 0, .slice none 0 0] from BO.out.set 2 (by simp) (.bool b.sf))
  replace BI := Lib.hid (BI.out.other (ga := w.heap.size + 1 + 1) (by omega) 2 (.bool b.sf))
  replace BR := Lib.hid (BR.out.other (ga := w.heap.size + 1 + 1) (by omega) 2 (.bool b.sf))
  replace O1 := Lib.hid (LsO.past O1.out (g := w.heap.size + 1 + 1) (j := 2) (by omega) (.bool b.sf))
  replace HB := Lib.hid (HB.out.setCell (p := ⟨w.heap.size + 1 + 1, 2, none⟩) (by simp; omega) (.bool b.sf))
  replace HZ := Lib.hid (show w.heap.size + 3 ≤ ((w1.setCell ⟨w.heap.size + 1 + 1, 1, none⟩ (.slice A1 b.ps.length c1)).setCell ⟨w.heap.size + 1 + 1, 2, none⟩ (.bool b.sf)).heap.size by simpa using HZ.out)
  have z8 := BI.out.cell 3 (by simp)
  go_wp2_with fail
  refine (HT2.out _ HB.out).mono ?_
  rintro e w2 ⟨v, rfl, hown, hb⟩
  have hsz := hb.size
  replace BI := Lib.hid (BI.out.more hb)
  replace BR := Lib.hid (BR.out.more hb)
  replace BO := Lib.hid (BO.out.more hb)
  replace O1 := Lib.hid (LsO.more O1.out hb)
  obtain ⟨A2, c2, rfl⟩ := OwnLm.nform hown
  have O2 := Lib.hid (LsO.lower hown (base' := w.heap.size + 3) HZ.out)
  clear hown
  replace HB := Lib.hid (HB.out.trans (hb.mono (by have := HZ.out; omega)))
  replace HZ := Lib.hid (Nat.le_trans HZ.out hsz)
  clear hb hsz z3 z4 z5 z6 z7 z8
  have z9 := BO.out.cell 3 (by simp)
  have z10 := BO.out.ice
  replace BO := Lib.hid (show Box _ _ [.int .i64 b.cl, .slice A1 b.ps.length c1, .bool b.sf, .slice A2 b.ls.length c2, .slice none 0 0, .slice none 0 0, .int .i64 0, .slice none 0 0, .slice none 0 0, .int .i64 0, .int .i64 0, .slice none 0 0] from BO.out.set 3 (by simp) (.slice A2 b.ls.length c2))
  replace BI := Lib.hid (BI.out.other (ga := w.heap.size + 1 + 1) (by omega) 3 (.slice A2 b.ls.length c2))
  replace BR := Lib.hid (BR.out.other (ga := w.heap.size + 1 + 1) (by omega) 3 (.slice A2 b.ls.length c2))
  replace O1 := Lib.hid (LsO.past O1.out (g := w.heap.size + 1 + 1) (j := 3) (by omega) (.slice A2 b.ls.length c2))
  replace O2 := Lib.hid (LsO.past O2.out (g := w.heap.size + 1 + 1) (j := 3) (by omega) (.slice A2 b.ls.length c2))
  replace HB := Lib.hid (HB.out.setCell (p := ⟨w.heap.size + 1 + 1, 3, none⟩) (by simp; omega) (.slice A2 b.ls.length c2))
  replace HZ := Lib.hid (show w.heap.size + 3 ≤ (w2.setCell ⟨w.heap.size + 1 + 1, 3, none⟩ (.slice A2 b.ls.length c2)).heap.size by simpa using HZ.out)
  have z11 := BI.out.cell 4 (by simp)
  go_wp2_with fail
  refine (HT3.out _ HB.out).mono ?_
  rintro e w3 ⟨v, rfl, hown, hb⟩
  have hsz := hb.size
  replace BI := Lib.hid (BI.out.more hb)
  replace BR := Lib.hid (BR.out.more hb)
  replace BO := Lib.hid (BO.out.more hb)
  replace O1 := Lib.hid (LsO.more O1.out hb)
  replace O2 := Lib.hid (LsO.more O2.out hb)
  obtain ⟨A3, c3, rfl⟩ := OwnWt.nform hown
  have O3 := Lib.hid (LsO.lower hown (base' := w.heap.size + 3) HZ.out)
  clear hown
  replace HB := Lib.hid (HB.out.trans (hb.mono (by have := HZ.out; omega)))
  replace HZ := Lib.hid (Nat.le_trans HZ.out hsz)
  clear hb hsz z9 z10 z11
  have z12 := BO.out.cell 4 (by simp)
  have z13 := BO.out.ice
  replace BO := Lib.hid (show Box _ _ [.int .i64 b.cl, .slice A1 b.ps.length c1, .bool b.sf, .slice A2 b.ls.length c2, .slice A3 b.os.length c3, .slice none 0 0, .int .i64 0, .slice none 0 0, .slice none 0 0, .int .i64 0, .int .i64 0, .slice none 0 0] from BO.out.set 4 (by simp) (.slice A3 b.os.length c3))
  replace BI := Lib.hid (BI.out.other (ga := w.heap.size + 1 + 1) (by omega) 4 (.slice A3 b.os.length c3))
  replace BR := Lib.hid (BR.out.other (ga := w.heap.size + 1 + 1) (by omega) 4 (.slice A3 b.os.length c3))
  replace O1 := Lib.hid (LsO.past O1.out (g := w.heap.size + 1 + 1) (j := 4) (by omega) (.slice A3 b.os.length c3))
  replace O2 := Lib.hid (LsO.past O2.out (g := w.heap.size + 1 + 1) (j := 4) (by omega) (.slice A3 b.os.length c3))
  replace O3 := Lib.hid (LsO.past O3.out (g := w.heap.size + 1 + 1) (j := 4) (by omega) (.slice A3 b.os.length c3))
  replace HB := Lib.hid (HB.out.setCell (p := ⟨w.heap.size + 1 + 1, 4, none⟩) (by simp; omega) (.slice A3 b.os.length c3))
  replace HZ := Lib.hid (show w.heap.size + 3 ≤ (w3.setCell ⟨w.heap.size + 1 + 1, 4, none⟩ (.slice A3 b.os.length c3)).heap.size by simpa using HZ.out)
  have z14 := BI.out.cell 5 (by simp)
  go_wp2_with fail
  refine (HT4.out _ HB.out).mono ?_
  rintro e w4 ⟨v, rfl, hown, hb⟩
  have hsz := hb.size
  replace BI := Lib.hid (BI.out.more hb)
  replace BR := Lib.hid (BR.out.more hb)
  replace BO := Lib.hid (BO.out.more hb)
  replace O1 := Lib.hid (LsO.more O1.out hb)
  replace O2 := Lib.hid (LsO.more O2.out hb)
  replace O3 := Lib.hid (LsO.more O3.out hb)
  obtain ⟨A4, c4, rfl⟩ := OwnDn.nform hown
  have O4 := Lib.hid (LsO.lower hown (base' := w.heap.size + 3) HZ.out)
  clear hown
  replace HB := Lib.hid (HB.out.trans (hb.mono (by have := HZ.out; omega)))
  replace HZ := Lib.hid (Nat.le_trans HZ.out hsz)
  clear hb hsz z12 z13 z14
  have z15 := BO.out.cell 5 (by simp)
  have z16 := BO.out.ice
  replace BO := Lib.hid (show Box _ _ [.int .i64 b.cl, .slice A1 b.ps.length c1, .bool b.sf, .slice A2 b.ls.length c2, .slice A3 b.os.length c3, .slice A4 b.ds.length c4, .int .i64 0, .slice none 0 0, .slice none 0 0, .int .i64 0, .int .i64 0, .slice none 0 0] from BO.out.set 5 (by simp) (.slice A4 b.ds.length c4))
  replace BI := Lib.hid (BI.out.other (ga := w.heap.size + 1 + 1) (by omega) 5 (.slice A4 b.ds.length c4))
  replace BR := Lib.hid (BR.out.other (ga := w.heap.size + 1 + 1) (by omega) 5 (.slice A4 b.ds.length c4))
  replace O1 := Lib.hid (LsO.past O1.out (g := w.heap.size + 1 + 1) (j := 5) (by omega) (.slice A4 b.ds.length c4))
  replace O2 := Lib.hid (LsO.past O2.out (g := w.heap.size + 1 + 1) (j := 5) (by omega) (.slice A4 b.ds.length c4))
  replace O3 := Lib.hid (LsO.past O3.out (g := w.heap.size + 1 + 1) (j := 5) (by omega) (.slice A4 b.ds.length c4))
  replace O4 := Lib.hid (LsO.past O4.out (g := w.heap.size + 1 + 1) (j := 5) (by omega) (.slice A4 b.ds.length c4))
  replace HB := Lib.hid (HB.out.setCell (p := ⟨w.heap.size + 1 + 1, 5, none⟩) (by simp; omega) (.slice A4 b.ds.length c4))
  replace HZ := Lib.hid (show w.heap.size + 3 ≤ (w4.setCell ⟨w.heap.size + 1 + 1, 5, none⟩ (.slice A4 b.ds.length c4)).heap.size by simpa using HZ.out)
  have z17 := BI.out.cell 6 (by simp)
  have z18 := BI.out.cell 7 (by simp)
  have z19 := BI.out.cell 8 (by simp)
  go_wp2_with fail
  refine (HT5.out _ HB.out).mono ?_
  rintro e w5 ⟨v, rfl, hown, hb⟩
  have hsz := hb.size
  replace BI := Lib.hid (BI.out.more hb)
  replace BR := Lib.hid (BR.out.more hb)
  replace BO := Lib.hid (BO.out.more hb)
  replace O1 := Lib.hid (LsO.more O1.out hb)
  replace O2 := Lib.hid (LsO.more O2.out hb)
  replace O3 := Lib.hid (LsO.more O3.out hb)
  replace O4 := Lib.hid (LsO.more O4.out hb)
  obtain ⟨A5, c5, A6, c6, rfl, ho5, ho6, hap⟩ := hown.form
  have HAP := Lib.hid hap
  have O5 := Lib.hid (LsO.lower ho5 (base' := w.heap.size + 3) HZ.out)
  have O6 := Lib.hid (LsO.lower ho6 (base' := w.heap.size + 3) HZ.out)
  clear ho5 ho6 hap hown
  replace HB := Lib.hid (HB.out.trans (hb.mono (by have := HZ.out; omega)))
  replace HZ := Lib.hid (Nat.le_trans HZ.out hsz)
  clear hb hsz z15 z16 z17 z18 z19
  have z20 := BO.out.cell 6 (by simp)
  have z21 := BO.out.ice
  replace BO := Lib.hid (show Box _ _ [.int .i64 b.cl, .slice A1 b.ps.length c1, .bool b.sf, .slice A2 b.ls.length c2, .slice A3 b.os.length c3, .slice A4 b.ds.length c4, .int .i64 b.r, .slice none 0 0, .slice none 0 0, .int .i64 0, .int .i64 0, .slice none 0 0] from BO.out.set 6 (by simp) (.int .i64 b.r))
  replace BI := Lib.hid (BI.out.other (ga := w.heap.size + 1 + 1) (by omega) 6 (.int .i64 b.r))
  replace BR := Lib.hid (BR.out.other (ga := w.heap.size + 1 + 1) (by omega) 6 (.int .i64 b.r))
  replace O1 := Lib.hid (LsO.past O1.out (g := w.heap.size + 1 + 1) (j := 6) (by omega) (.int .i64 b.r))
  replace O2 := Lib.hid (LsO.past O2.out (g := w.heap.size + 1 + 1) (j := 6) (by omega) (.int .i64 b.r))
  replace O3 := Lib.hid (LsO.past O3.out (g := w.heap.size + 1 + 1) (j := 6) (by omega) (.int .i64 b.r))
  replace O4 := Lib.hid (LsO.past O4.out (g := w.heap.size + 1 + 1) (j := 6) (by omega) (.int .i64 b.r))
  replace O5 := Lib.hid (LsO.past O5.out (g := w.heap.size + 1 + 1) (j := 6) (by omega) (.int .i64 b.r))
  replace O6 := Lib.hid (LsO.past O6.out (g := w.heap.size + 1 + 1) (j := 6) (by omega) (.int .i64 b.r))
  replace HB := Lib.hid (HB.out.setCell (p := ⟨w.heap.size + 1 + 1, 6, none⟩) (by simp; omega) (.int .i64 b.r))
  replace HZ := Lib.hid (show w.heap.size + 3 ≤ (w5.setCell ⟨w.heap.size + 1 + 1, 6, none⟩ (.int .i64 b.r)).heap.size by simpa using HZ.out)
  have z22 := BO.out.cell 7 (by simp)
  have z23 := BO.out.ice
  replace BO := Lib.hid (show Box _ _ [.int .i64 b.cl, .slice A1 b.ps.length c1, .bool b.sf, .slice A2 b.ls.length c2, .slice A3 b.os.length c3, .slice A4 b.ds.length c4, .int .i64 b.r, .slice A5 b.rs.length c5, .slice none 0 0, .int .i64 0, .int .i64 0, .slice none 0 0] from BO.out.set 7 (by simp) (.slice A5 b.rs.length c5))
  replace BI := Lib.hid (BI.out.other (ga := w.heap.size + 1 + 1) (by omega) 7 (.slice A5 b.rs.length c5))
  replace BR := Lib.hid (BR.out.other (ga := w.heap.size + 1 + 1) (by omega) 7 (.slice A5 b.rs.length c5))
  replace O1 := Lib.hid (LsO.past O1.out (g := w.heap.size + 1 + 1) (j := 7) (by omega) (.slice A5 b.rs.length c5))
  replace O2 := Lib.hid (LsO.past O2.out (g := w.heap.size + 1 + 1) (j := 7) (by omega) (.slice A5 b.rs.length c5))
  replace O3 := Lib.hid (LsO.past O3.out (g := w.heap.size + 1 + 1) (j := 7) (by omega) (.slice A5 b.rs.length c5))
  replace O4 := Lib.hid (LsO.past O4.out (g := w.heap.size + 1 + 1) (j := 7) (by omega) (.slice A5 b.rs.length c5))
  replace O5 := Lib.hid (LsO.past O5.out (g := w.heap.size + 1 + 1) (j := 7) (by omega) (.slice A5 b.rs.length c5))
  replace O6 := Lib.hid (LsO.past O6.out (g := w.heap.size + 1 + 1) (j := 7) (by omega) (.slice A5 b.rs.length c5))
  replace HB := Lib.hid (HB.out.setCell (p := ⟨w.heap.size + 1 + 1, 7, none⟩) (by simp; omega) (.slice A5 b.rs.length c5))
  replace HZ := Lib.hid (show w.heap.size + 3 ≤ ((w5.setCell ⟨w.heap.size + 1 + 1, 6, none⟩ (.int .i64 b.r)).setCell ⟨w.heap.size + 1 + 1, 7, none⟩ (.slice A5 b.rs.length c5)).heap.size by simpa using HZ.out)
  have z24 := BO.out.cell 8 (by simp)
  have z25 := BO.out.ice
  replace BO := Lib.hid (show Box _ _ [.int .i64 b.cl, .slice A1 b.ps.length c1, .bool b.sf, .slice A2 b.ls.length c2, .slice A3 b.os.length c3, .slice A4 b.ds.length c4, .int .i64 b.r, .slice A5 b.rs.length c5, .slice A6 b.xs.length c6, .int .i64 0, .int .i64 0, .slice none 0 0] from BO.out.set 8 (by simp) (.slice A6 b.xs.length c6))
  replace BI := Lib.hid (BI.out.other (ga := w.heap.size + 1 + 1) (by omega) 8 (.slice A6 b.xs.length c6))
  replace BR := Lib.hid (BR.out.other (ga := w.heap.size + 1 + 1) (by omega) 8 (.slice A6 b.xs.length c6))
  replace O1 := Lib.hid (LsO.past O1.out (g := w.heap.size + 1 + 1) (j := 8) (by omega) (.slice A6 b.xs.length c6))
  replace O2 := Lib.hid (LsO.past O2.out (g := w.heap.size + 1 + 1) (j := 8) (by omega) (.slice A6 b.xs.length c6))
  replace O3 := Lib.hid (LsO.past O3.out (g := w.heap.size + 1 + 1) (j := 8) (by omega) (.slice A6 b.xs.length c6))
  replace O4 := Lib.hid (LsO.past O4.out (g := w.heap.size + 1 + 1) (j := 8) (by omega) (.slice A6 b.xs.length c6))
  replace O5 := Lib.hid (LsO.past O5.out (g := w.heap.size + 1 + 1) (j := 8) (by omega) (.slice A6 b.xs.length c6))
  replace O6 := Lib.hid (LsO.past O6.out (g := w.heap.size + 1 + 1) (j := 8) (by omega) (.slice A6 b.xs.length c6))
  replace HB := Lib.hid (HB.out.setCell (p := ⟨w.heap.size + 1 + 1, 8, none⟩) (by simp; omega) (.slice A6 b.xs.length c6))
  replace HZ := Lib.hid (show w.heap.size + 3 ≤ (((w5.setCell ⟨w.heap.size + 1 + 1, 6, none⟩ (.int .i64 b.r)).setCell ⟨w.heap.size + 1 + 1, 7, none⟩ (.slice A5 b.rs.length c5)).setCell ⟨w.heap.size + 1 + 1, 8, none⟩ (.slice A6 b.xs.length c6)).heap.size by simpa using HZ.out)
  have z26 := BI.out.cell 9 (by simp)
  have z27 := BO.out.cell 9 (by simp)
  have z28 := BO.out.ice
  replace BO := Lib.hid (show Box _ _ [.int .i64 b.cl, .slice A1 b.ps.length c1, .bool b.sf, .slice A2 b.ls.length c2, .slice A3 b.os.length c3, .slice A4 b.ds.length c4, .int .i64 b.r, .slice A5 b.rs.length c5, .slice A6 b.xs.length c6, .int .i64 b.md, .int .i64 0, .slice none 0 0] from BO.out.set 9 (by simp) (.int .i64 b.md))
  replace BI := Lib.hid (BI.out.other (ga := w.heap.size + 1 + 1) (by omega) 9 (.int .i64 b.md))
  replace BR := Lib.hid (BR.out.other (ga := w.heap.size + 1 + 1) (by omega) 9 (.int .i64 b.md))
  replace O1 := Lib.hid (LsO.past O1.out (g := w.heap.size + 1 + 1) (j := 9) (by omega) (.int .i64 b.md))
  replace O2 := Lib.hid (LsO.past O2.out (g := w.heap.size + 1 + 1) (j := 9) (by omega) (.int .i64 b.md))
  replace O3 := Lib.hid (LsO.past O3.out (g := w.heap.size + 1 + 1) (j := 9) (by omega) (.int .i64 b.md))
  replace O4 := Lib.hid (LsO.past O4.out (g := w.heap.size + 1 + 1) (j := 9) (by omega) (.int .i64 b.md))
  replace O5 := Lib.hid (LsO.past O5.out (g := w.heap.size + 1 + 1) (j := 9) (by omega) (.int .i64 b.md))
  replace O6 := Lib.hid (LsO.past O6.out (g := w.heap.size + 1 + 1) (j := 9) (by omega) (.int .i64 b.md))
  replace HB := Lib.hid (HB.out.setCell (p := ⟨w.heap.size + 1 + 1, 9, none⟩) (by simp; omega) (.int .i64 b.md))
  replace HZ := Lib.hid (show w.heap.size + 3 ≤ ((((w5.setCell ⟨w.heap.size + 1 + 1, 6, none⟩ (.int .i64 b.r)).setCell ⟨w.heap.size + 1 + 1, 7, none⟩ (.slice A5 b.rs.length c5)).setCell ⟨w.heap.size + 1 + 1, 8, none⟩ (.slice A6 b.xs.length c6)).setCell ⟨w.heap.size + 1 + 1, 9, none⟩ (.int .i64 b.md)).heap.size by simpa using HZ.out)
  have z29 := BI.out.cell 10 (by simp)
  have z30 := BO.out.cell 10 (by simp)
  have z31 := BO.out.ice
  replace BO := Lib.hid (show Box _ _ [.int .i64 b.cl, .slice A1 b.ps.length c1, .bool b.sf, .slice A2 b.ls.length c2, .slice A3 b.os.length c3, .slice A4 b.ds.length c4, .int .i64 b.r, .slice A5 b.rs.length c5, .slice A6 b.xs.length c6, .int .i64 b.md, .int .i64 b.tk, .slice none 0 0] from BO.out.set 10 (by simp) (.int .i64 b.tk))
  replace BI := Lib.hid (BI.out.other (ga := w.heap.size + 1 + 1) (by omega) 10 (.int .i64 b.tk))
  replace BR := Lib.hid (BR.out.other (ga := w.heap.size + 1 + 1) (by omega) 10 (.int .i64 b.tk))
  replace O1 := Lib.hid (LsO.past O1.out (g := w.heap.size + 1 + 1) (j := 10) (by omega) (.int .i64 b.tk))
  replace O2 := Lib.hid (LsO.past O2.out (g := w.heap.size + 1 + 1) (j := 10) (by omega) (.int .i64 b.tk))
  replace O3 := Lib.hid (LsO.past O3.out (g := w.heap.size + 1 + 1) (j := 10) (by omega) (.int .i64 b.tk))
  replace O4 := Lib.hid (LsO.past O4.out (g := w.heap.size + 1 + 1) (j := 10) (by omega) (.int .i64 b.tk))
  replace O5 := Lib.hid (LsO.past O5.out (g := w.heap.size + 1 + 1) (j := 10) (by omega) (.int .i64 b.tk))
  replace O6 := Lib.hid (LsO.past O6.out (g := w.heap.size + 1 + 1) (j := 10) (by omega) (.int .i64 b.tk))
  replace HB := Lib.hid (HB.out.setCell (p := ⟨w.heap.size + 1 + 1, 10, none⟩) (by simp; omega) (.int .i64 b.tk))
  replace HZ := Lib.hid (show w.heap.size + 3 ≤ (((((w5.setCell ⟨w.heap.size + 1 + 1, 6, none⟩ (.int .i64 b.r)).setCell ⟨w.heap.size + 1 + 1, 7, none⟩ (.slice A5 b.rs.length c5)).setCell ⟨w.heap.size + 1 + 1, 8, none⟩ (.slice A6 b.xs.length c6)).setCell ⟨w.heap.size + 1 + 1, 9, none⟩ (.int .i64 b.md)).setCell ⟨w.heap.size + 1 + 1, 10, none⟩ (.int .i64 b.tk)).heap.size by simpa using HZ.out)
  have z32 := BI.out.cell 11 (by simp)
  go_wp2_with fail
  refine (HT6.out _ HB.out).mono ?_
  rintro e w6 ⟨v, rfl, hown, hb⟩
  have hsz := hb.size
  replace BI := Lib.hid (BI.out.more hb)
  replace BR := Lib.hid (BR.out.more hb)
  replace BO := Lib.hid (BO.out.more hb)
  replace O1 := Lib.hid (LsO.more O1.out hb)
  replace O2 := Lib.hid (LsO.more O2.out hb)
  replace O3 := Lib.hid (LsO.more O3.out hb)
  replace O4 := Lib.hid (LsO.more O4.out hb)
  replace O5 := Lib.hid (LsO.more O5.out hb)
  replace O6 := Lib.hid (LsO.more O6.out hb)
  obtain ⟨A7, c7, rfl⟩ := OwnIn.nform hown
  have O7 := Lib.hid (LsO.lower hown (base' := w.heap.size + 3) HZ.out)
  clear hown
  replace HB := Lib.hid (HB.out.trans (hb.mono (by have := HZ.out; omega)))
  replace HZ := Lib.hid (Nat.le_trans HZ.out hsz)
  clear hb hsz z20 z21 z22 z23 z24 z25 z26 z27 z28 z29 z30 z31 z32
  have z33 := BO.out.cell 11 (by simp)
  have z34 := BO.out.ice
  replace BO := Lib.hid (show Box _ _ [.int .i64 b.cl, .slice A1 b.ps.length c1, .bool b.sf, .slice A2 b.ls.length c2, .slice A3 b.os.length c3, .slice A4 b.ds.length c4, .int .i64 b.r, .slice A5 b.rs.length c5, .slice A6 b.xs.length c6, .int .i64 b.md, .int .i64 b.tk, .slice A7 b.qs.length c7] from BO.out.set 11 (by simp) (.slice A7 b.qs.length c7))
  replace BI := Lib.hid (BI.out.other (ga := w.heap.size + 1 + 1) (by omega) 11 (.slice A7 b.qs.length c7))
  replace BR := Lib.hid (BR.out.other (ga := w.heap.size + 1 + 1) (by omega) 11 (.slice A7 b.qs.length c7))
  replace O1 := Lib.hid (LsO.past O1.out (g := w.heap.size + 1 + 1) (j := 11) (by omega) (.slice A7 b.qs.length c7))
  replace O2 := Lib.hid (LsO.past O2.out (g := w.heap.size + 1 + 1) (j := 11) (by omega) (.slice A7 b.qs.length c7))
  replace O3 := Lib.hid (LsO.past O3.out (g := w.heap.size + 1 + 1) (j := 11) (by omega) (.slice A7 b.qs.length c7))
  replace O4 := Lib.hid (LsO.past O4.out (g := w.heap.size + 1 + 1) (j := 11) (by omega) (.slice A7 b.qs.length c7))
  replace O5 := Lib.hid (LsO.past O5.out (g := w.heap.size + 1 + 1) (j := 11) (by omega) (.slice A7 b.qs.length c7))
  replace O6 := Lib.hid (LsO.past O6.out (g := w.heap.size + 1 + 1) (j := 11) (by omega) (.slice A7 b.qs.length c7))
  replace O7 := Lib.hid (LsO.past O7.out (g := w.heap.size + 1 + 1) (j := 11) (by omega) (.slice A7 b.qs.length c7))
  replace HB := Lib.hid (HB.out.setCell (p := ⟨w.heap.size + 1 + 1, 11, none⟩) (by simp; omega) (.slice A7 b.qs.length c7))
  replace HZ := Lib.hid (show w.heap.size + 3 ≤ (w6.setCell ⟨w.heap.size + 1 + 1, 11, none⟩ (.slice A7 b.qs.length c7)).heap.size by simpa using HZ.out)
  have z35 := BO.out.cell 0 (by simp)
  have z36 := BO.out.cell 1 (by simp)
  have z37 := BO.out.cell 2 (by simp)
  have z38 := BO.out.cell 3 (by simp)
  have z39 := BO.out.cell 4 (by simp)
  have z40 := BO.out.cell 5 (by simp)
  have z41 := BO.out.cell 6 (by simp)
  have z42 := BO.out.cell 7 (by simp)
  have z43 := BO.out.cell 8 (by simp)
  have z44 := BO.out.cell 9 (by simp)
  have z45 := BO.out.cell 10 (by simp)
  have z46 := BO.out.cell 11 (by simp)
  have z47 := BR.out.cell 0 (by simp)
  have z48 := BR.out.cell 1 (by simp)
  have z49 := BR.out.cell 2 (by simp)
  have z50 := BR.out.cell 3 (by simp)
  have z51 := BR.out.cell 4 (by simp)
  have z52 := BR.out.cell 5 (by simp)
  have z53 := BR.out.cell 6 (by simp)
  have z54 := BR.out.cell 7 (by simp)
  have z55 := BR.out.cell 8 (by simp)
  have z56 := BR.out.cell 9 (by simp)
  have z57 := BR.out.cell 10 (by simp)
  have z58 := BR.out.cell 11 (by simp)
  have z59 := BR.out.ice
  have BF := Lib.hid (BR.out.all (us := [.int .i64 b.cl, .slice A1 b.ps.length c1, .bool b.sf, .slice A2 b.ls.length c2, .slice A3 b.os.length c3, .slice A4 b.ds.length c4, .int .i64 b.r, .slice A5 b.rs.length c5, .slice A6 b.xs.length c6, .int .i64 b.md, .int .i64 b.tk, .slice A7 b.qs.length c7]) rfl)
  have HBF := Lib.hid (below_setCells (B := w.heap.size) (ga := w.heap.size + 1) (by omega) [.int .i64 b.cl, .slice A1 b.ps.length c1, .bool b.sf, .slice A2 b.ls.length c2, .slice A3 b.os.length c3, .slice A4 b.ds.length c4, .int .i64 b.r, .slice A5 b.rs.length c5, .slice A6 b.xs.length c6, .int .i64 b.md, .int .i64 b.tk, .slice A7 b.qs.length c7] 0 _ HB.out)
  replace O1 := Lib.hid (LsO.cellsPast (g := w.heap.size + 1) (by omega) [.int .i64 b.cl, .slice A1 b.ps.length c1, .bool b.sf, .slice A2 b.ls.length c2, .slice A3 b.os.length c3, .slice A4 b.ds.length c4, .int .i64 b.r, .slice A5 b.rs.length c5, .slice A6 b.xs.length c6, .int .i64 b.md, .int .i64 b.tk, .slice A7 b.qs.length c7] 0 _ O1.out)
  replace O2 := Lib.hid (LsO.cellsPast (g := w.heap.size + 1) (by omega) [.int .i64 b.cl, .slice A1 b.ps.length c1, .bool b.sf, .slice A2 b.ls.length c2, .slice A3 b.os.length c3, .slice A4 b.ds.length c4, .int .i64 b.r, .slice A5 b.rs.length c5, .slice A6 b.xs.length c6, .int .i64 b.md, .int .i64 b.tk, .slice A7 b.qs.length c7] 0 _ O2.out)
  replace O3 := Lib.hid (LsO.cellsPast (g := w.heap.size + 1) (by omega) [.int .i64 b.cl, .slice A1 b.ps.length c1, .bool b.sf, .slice A2 b.ls.length c2, .slice A3 b.os.length c3, .slice A4 b.ds.length c4, .int .i64 b.r, .slice A5 b.rs.length c5, .slice A6 b.xs.length c6, .int .i64 b.md, .int .i64 b.tk, .slice A7 b.qs.length c7] 0 _ O3.out)
  replace O4 := Lib.hid (LsO.cellsPast (g := w.heap.size + 1) (by omega) [.int .i64 b.cl, .slice A1 b.ps.length c1, .bool b.sf, .slice A2 b.ls.length c2, .slice A3 b.os.length c3, .slice A4 b.ds.length c4, .int .i64 b.r, .slice A5 b.rs.length c5, .slice A6 b.xs.length c6, .int .i64 b.md, .int .i64 b.tk, .slice A7 b.qs.length c7] 0 _ O4.out)
  replace O5 := Lib.hid (LsO.cellsPast (g := w.heap.size + 1) (by omega) [.int .i64 b.cl, .slice A1 b.ps.length c1, .bool b.sf, .slice A2 b.ls.length c2, .slice A3 b.os.length c3, .slice A4 b.ds.length c4, .int .i64 b.r, .slice A5 b.rs.length c5, .slice A6 b.xs.length c6, .int .i64 b.md, .int .i64 b.tk, .slice A7 b.qs.length c7] 0 _ O5.out)
  replace O6 := Lib.hid (LsO.cellsPast (g := w.heap.size + 1) (by omega) [.int .i64 b.cl, .slice A1 b.ps.length c1, .bool b.sf, .slice A2 b.ls.length c2, .slice A3 b.os.length c3, .slice A4 b.ds.length c4, .int .i64 b.r, .slice A5 b.rs.length c5, .slice A6 b.xs.length c6, .int .i64 b.md, .int .i64 b.tk, .slice A7 b.qs.length c7] 0 _ O6.out)
  replace O7 := Lib.hid (LsO.cellsPast (g := w.heap.size + 1) (by omega) [.int .i64 b.cl, .slice A1 b.ps.length c1, .bool b.sf, .slice A2 b.ls.length c2, .slice A3 b.os.length c3, .slice A4 b.ds.length c4, .int .i64 b.r, .slice A5 b.rs.length c5, .slice A6 b.xs.length c6, .int .i64 b.md, .int .i64 b.tk, .slice A7 b.qs.length c7] 0 _ O7.out)
  clear HB BI BO BR HZ
  go_wp2
  show bodyPost Try.prog Try.f27 _ Exit.ret _ ((w6.setCell ⟨w.heap.size + 1 + 1, 11, none⟩ (.slice A7 b.qs.length c7)).setCells (w.heap.size + 1) 0 [.int .i64 b.cl, .slice A1 b.ps.length c1, .bool b.sf, .slice A2 b.ls.length c2, .slice A3 b.os.length c3, .slice A4 b.ds.length c4, .int .i64 b.r, .slice A5 b.rs.length c5, .slice A6 b.xs.length c6, .int .i64 b.md, .int .i64 b.tk, .slice A7 b.qs.length c7])
  generalize (w6.setCell ⟨w.heap.size + 1 + 1, 11, none⟩ (.slice A7 b.qs.length c7)).setCells (w.heap.size + 1) 0 [.int .i64 b.cl, .slice A1 b.ps.length c1, .bool b.sf, .slice A2 b.ls.length c2, .slice A3 b.os.length c3, .slice A4 b.ds.length c4, .int .i64 b.r, .slice A5 b.rs.length c5, .slice A6 b.xs.length c6, .int .i64 b.md, .int .i64 b.tk, .slice A7 b.qs.length c7] = WE at *
  have y0 := BF.out.cell 0 (by simp)
  have y1 := BF.out.cell 1 (by simp)
  have y2 := BF.out.cell 2 (by simp)
  have y3 := BF.out.cell 3 (by simp)
  have y4 := BF.out.cell 4 (by simp)
  have y5 := BF.out.cell 5 (by simp)
  have y6 := BF.out.cell 6 (by simp)
  have y7 := BF.out.cell 7 (by simp)
  have y8 := BF.out.cell 8 (by simp)
  have y9 := BF.out.cell 9 (by simp)
  have y10 := BF.out.cell 10 (by simp)
  have y11 := BF.out.cell 11 (by simp)
  refine bodyPost_ret_by (v := .agg #[.int .i64 b.cl, .slice A1 b.ps.length c1, .bool b.sf, .slice A2 b.ls.length c2, .slice A3 b.os.length c3, .slice A4 b.ds.length c4, .int .i64 b.r, .slice A5 b.rs.length c5, .slice A6 b.xs.length c6, .int .i64 b.md, .int .i64 b.tk, .slice A7 b.qs.length c7]) ?_ rfl ⟨_, rfl, ⟨⟨A1, c1, A2, c2, A3, c3, A4, c4, A5, c5, A6, c6, A7, c7⟩, rfl, LsO.lower O1.out (by omega), LsO.lower O2.out (by omega), LsO.lower O3.out (by omega), LsO.lower O4.out (by omega), ⟨_, _, _, _, rfl, LsO.lower O5.out (by omega), LsO.lower O6.out (by omega), HAP.out⟩, LsO.lower O7.out (by omega)⟩, HBF.out⟩
  simp [results, Try.f27, go_sem, y0, y1, y2, y3, y4, y5, y6, y7, y8, y9, y10, y11]
end Go.Proofs.Ytebfefkknaalpab
