/- What this text proves: the parts BrK of the proof, each under its own words. -/
import Derived.Test.YtckofkdeedbbgaaNN12
import Derived.Test.YtckofkdeedbbgaaNN14
import Derived.Test.YtckofkdeedbbgaaNN15
import Derived.Test.YtckofkdeedbbgaaNN13
/- What this text proves: boards that bear marks; the contract of the laws' heldBoard. -/
namespace Go.Proofs.Ytckofkdeedbbgaa
open Go.ChangeShapes Go.WideShapes Go.ChangeAt Go.RowKit
set_option linter.unusedVariables false


/-- A board that bears the marks from M on. -/
structure MkBd (w : World) (base : Nat) (v : Value) (M : Nat) (b : Bd) : Prop where
  form : ∃ a : BdA, v = bdV b a ∧ LsO 1 w base (.slice a.aP b.ps.length a.cP) ((List.range b.ps.length).map (mkIn (M))) ∧ LsO 3 w base (.slice a.aL b.ls.length a.cL) ((List.range b.ls.length).map (mkLm (M + b.ps.length))) ∧ LsO 5 w base (.slice a.aO b.os.length a.cO) ((List.range b.os.length).map (mkWt (M + b.ps.length + 3 * b.ls.length))) ∧ LsO 3 w base (.slice a.aD b.ds.length a.cD) ((List.range b.ds.length).map (mkDn (M + b.ps.length + 3 * b.ls.length + 5 * b.os.length))) ∧ MkRo w base (roV b.r (.slice a.aR b.rs.length a.cR) (.slice a.aX b.xs.length a.cX)) (M + b.ps.length + 3 * b.ls.length + 5 * b.os.length + 3 * b.ds.length) b.rs.length b.xs.length ∧ LsO 1 w base (.slice a.aQ b.qs.length a.cQ) ((List.range b.qs.length).map (mkIn (M + b.ps.length + 3 * b.ls.length + 5 * b.os.length + 3 * b.ds.length + 4 * b.rs.length + b.xs.length)))
theorem MkBd.more {w w' : World} {base : Nat} {v : Value} {M : Nat} {b : Bd} (h : MkBd w base v M b) (hb : Below w.heap.size w w') : MkBd w' base v M b := by
  obtain ⟨a, rfl, h1, h2, h3, h4, h5, h6⟩ := h.form
  exact ⟨a, rfl, LsO.more h1 hb, LsO.more h2 hb, LsO.more h3 hb, LsO.more h4 hb, h5.more hb, LsO.more h6 hb⟩

set_option maxRecDepth 20000 in
set_option maxHeartbeats 2000000 in
theorem held_bd (b : Bd) (hS : bdSum b ≤ 1048576) (v : Value) (base M : Nat) (hM1 : 1 ≤ M) (hM : M ≤ 1000) (w : World) (h : MkBd w base v M b) :
    Calls Try.prog 50 #[v, .int .i64 (M : Int)] w fun e w' => e = .returned (.int .i64 ((M + b.ps.length + 3 * b.ls.length + 5 * b.os.length + 3 * b.ds.length + 4 * b.rs.length + b.xs.length + b.qs.length : Nat) : Int)) ∧ Below w.heap.size w w' := by
  obtain ⟨a, rfl, h1, h2, h3, h4, h5, h6⟩ := h.form
  unfold bdSum at hS
  have F0 := Lib.hid (Fit.made w (bdL b a) 32)
  have H1 := fun W (hb : Below w.heap.size w W) => (heldIn_any W base (M) _ _ (by omega) (LsO.more h1 hb) (by omega) (by omega)).mono fun e w' hh => (show e = .returned (.int .i64 ((M + b.ps.length : Nat) : Int)) ∧ Below W.heap.size W w' from ⟨by first | exact hh.1 | (rw [hh.1]; congr 2), hh.2⟩)
  have H2 := fun W (hb : Below w.heap.size w W) => (heldLm_any W base (M + b.ps.length) _ _ (by omega) (LsO.more h2 hb) (by omega) (by omega)).mono fun e w' hh => (show e = .returned (.int .i64 ((M + b.ps.length + 3 * b.ls.length : Nat) : Int)) ∧ Below W.heap.size W w' from ⟨by first | exact hh.1 | (rw [hh.1]; congr 2), hh.2⟩)
  have H3 := fun W (hb : Below w.heap.size w W) => (heldWt_any W base (M + b.ps.length + 3 * b.ls.length) _ _ (by omega) (LsO.more h3 hb) (by omega) (by omega)).mono fun e w' hh => (show e = .returned (.int .i64 ((M + b.ps.length + 3 * b.ls.length + 5 * b.os.length : Nat) : Int)) ∧ Below W.heap.size W w' from ⟨by first | exact hh.1 | (rw [hh.1]; congr 2), hh.2⟩)
  have H4 := fun W (hb : Below w.heap.size w W) => (heldDn_any W base (M + b.ps.length + 3 * b.ls.length + 5 * b.os.length) _ _ (by omega) (LsO.more h4 hb) (by omega) (by omega)).mono fun e w' hh => (show e = .returned (.int .i64 ((M + b.ps.length + 3 * b.ls.length + 5 * b.os.length + 3 * b.ds.length : Nat) : Int)) ∧ Below W.heap.size W w' from ⟨by first | exact hh.1 | (rw [hh.1]; congr 2), hh.2⟩)
  have H5 := fun W (hb : Below w.heap.size w W) => (held_ro b.rs.length b.xs.length (by omega) (by omega) _ base (M + b.ps.length + 3 * b.ls.length + 5 * b.os.length + 3 * b.ds.length) (by omega) (by omega) W (h5.more hb)).mono fun e w' hh => (show e = .returned (.int .i64 ((M + b.ps.length + 3 * b.ls.length + 5 * b.os.length + 3 * b.ds.length + 4 * b.rs.length + b.xs.length : Nat) : Int)) ∧ Below W.heap.size W w' from ⟨by first | exact hh.1 | (rw [hh.1]; congr 2), hh.2⟩)
  have H6 := fun W (hb : Below w.heap.size w W) => (heldIn_any W base (M + b.ps.length + 3 * b.ls.length + 5 * b.os.length + 3 * b.ds.length + 4 * b.rs.length + b.xs.length) _ _ (by omega) (LsO.more h6 hb) (by omega) (by omega)).mono fun e w' hh => (show e = .returned (.int .i64 ((M + b.ps.length + 3 * b.ls.length + 5 * b.os.length + 3 * b.ds.length + 4 * b.rs.length + b.xs.length + b.qs.length : Nat) : Int)) ∧ Below W.heap.size W w' from ⟨by first | exact hh.1 | (rw [hh.1]; congr 2), hh.2⟩)
  obtain ⟨V1, hV1⟩ : ∃ V : Nat, V = M + b.ps.length := ⟨_, rfl⟩
  obtain ⟨V2, hV2⟩ : ∃ V : Nat, V = M + b.ps.length + 3 * b.ls.length := ⟨_, rfl⟩
  obtain ⟨V3, hV3⟩ : ∃ V : Nat, V = M + b.ps.length + 3 * b.ls.length + 5 * b.os.length := ⟨_, rfl⟩
  obtain ⟨V4, hV4⟩ : ∃ V : Nat, V = M + b.ps.length + 3 * b.ls.length + 5 * b.os.length + 3 * b.ds.length := ⟨_, rfl⟩
  obtain ⟨V5, hV5⟩ : ∃ V : Nat, V = M + b.ps.length + 3 * b.ls.length + 5 * b.os.length + 3 * b.ds.length + 4 * b.rs.length + b.xs.length := ⟨_, rfl⟩
  obtain ⟨V6, hV6⟩ : ∃ V : Nat, V = M + b.ps.length + 3 * b.ls.length + 5 * b.os.length + 3 * b.ds.length + 4 * b.rs.length + b.xs.length + b.qs.length := ⟨_, rfl⟩
  try rw [← hV6] at H1
  try rw [← hV6] at H2
  try rw [← hV6] at H3
  try rw [← hV6] at H4
  try rw [← hV6] at H5
  try rw [← hV6] at H6
  try rw [← hV6]
  try rw [← hV5] at H1
  try rw [← hV5] at H2
  try rw [← hV5] at H3
  try rw [← hV5] at H4
  try rw [← hV5] at H5
  try rw [← hV5] at H6
  try rw [← hV5]
  try rw [← hV4] at H1
  try rw [← hV4] at H2
  try rw [← hV4] at H3
  try rw [← hV4] at H4
  try rw [← hV4] at H5
  try rw [← hV4] at H6
  try rw [← hV4]
  try rw [← hV3] at H1
  try rw [← hV3] at H2
  try rw [← hV3] at H3
  try rw [← hV3] at H4
  try rw [← hV3] at H5
  try rw [← hV3] at H6
  try rw [← hV3]
  try rw [← hV2] at H1
  try rw [← hV2] at H2
  try rw [← hV2] at H3
  try rw [← hV2] at H4
  try rw [← hV2] at H5
  try rw [← hV2] at H6
  try rw [← hV2]
  try rw [← hV1] at H1
  try rw [← hV1] at H2
  try rw [← hV1] at H3
  try rw [← hV1] at H4
  try rw [← hV1] at H5
  try rw [← hV1] at H6
  try rw [← hV1]
  have d1 : decide ((V1 : Int) < 0) = false := by simp
  have d2 : decide ((V2 : Int) < 0) = false := by simp
  have d3 : decide ((V3 : Int) < 0) = false := by simp
  have d4 : decide ((V4 : Int) < 0) = false := by simp
  have d5 : decide ((V5 : Int) < 0) = false := by simp
  have d6 : decide ((V6 : Int) < 0) = false := by simp
  have H1 := Lib.hid H1
  have H2 := Lib.hid H2
  have H3 := Lib.hid H3
  have H4 := Lib.hid H4
  have H5 := Lib.hid H5
  have H6 := Lib.hid H6
  clear h h1 h2 h3 h4 h5 h6 hV1 hV2 hV3 hV4 hV5 hV6 hS
  go_enter Try.func50, Try.ntmps50
  have k1 := F0.out.box.cell 1 (by simp)
  go_wp2_with fail
  refine (H1.out _ F0.out.below).mono ?_
  rintro e w1 ⟨rfl, hb⟩
  have F1 := Lib.hid (F0.out.more hb)
  clear hb k1
  have k3 := F1.out.box.cell 3 (by simp)
  go_wp2_with fail
  refine (H2.out _ F1.out.below).mono ?_
  rintro e w2 ⟨rfl, hb⟩
  have F2 := Lib.hid (F1.out.more hb)
  clear hb k3
  have k4 := F2.out.box.cell 4 (by simp)
  go_wp2_with fail
  refine (H3.out _ F2.out.below).mono ?_
  rintro e w3 ⟨rfl, hb⟩
  have F3 := Lib.hid (F2.out.more hb)
  clear hb k4
  have k5 := F3.out.box.cell 5 (by simp)
  go_wp2_with fail
  refine (H4.out _ F3.out.below).mono ?_
  rintro e w4 ⟨rfl, hb⟩
  have F4 := Lib.hid (F3.out.more hb)
  clear hb k5
  have k6 := F4.out.box.cell 6 (by simp)
  have k7 := F4.out.box.cell 7 (by simp)
  have k8 := F4.out.box.cell 8 (by simp)
  go_wp2_with fail
  refine (H5.out _ F4.out.below).mono ?_
  rintro e w5 ⟨rfl, hb⟩
  have F5 := Lib.hid (F4.out.more hb)
  clear hb k6 k7 k8
  have k11 := F5.out.box.cell 11 (by simp)
  go_wp2_with fail
  refine (H6.out _ F5.out.below).mono ?_
  rintro e w6 ⟨rfl, hb⟩
  have F6 := Lib.hid (F5.out.more hb)
  clear hb k11
  go_wp2
  go_ret
  exact ⟨rfl, F6.out.below⟩
end Go.Proofs.Ytckofkdeedbbgaa
