/- What this text proves: the parts BrN, RcC, InC of the proof, each under its own words. -/
import Derived.Test.YtckofkdeedbbgaaNN16
import Derived.Test.YtckofkdeedbbgaaNN06
import Derived.Lib.SliceRun
import Derived.Test.YtckofkdeedbbgaaNN07
/- What this text proves: the contract of the laws' markBoard, for a board whose lists lie apart. -/
namespace Go.Proofs.Ytckofkdeedbbgaa
open Go.ChangeShapes Go.WideShapes Go.ChangeAt Go.RowKit
set_option linter.unusedVariables false


/-- The blocks of a board's lists. -/
def blkBd (b : Bd) (a : BdA) (k : Nat) : Prop := (Value.ownBlock (.slice a.aP b.ps.length a.cP) = some k) ∨ (Value.ownBlock (.slice a.aL b.ls.length a.cL) = some k) ∨ (Value.ownBlock (.slice a.aO b.os.length a.cO) = some k) ∨ (Value.ownBlock (.slice a.aD b.ds.length a.cD) = some k) ∨ (blkRo (roV b.r (.slice a.aR b.rs.length a.cR) (.slice a.aX b.xs.length a.cX)) k) ∨ (Value.ownBlock (.slice a.aQ b.qs.length a.cQ) = some k)
/-- The lists of a board lie in different blocks. -/
structure BdApart (b : Bd) (a : BdA) : Prop where
  p12 : ∀ k, Value.ownBlock (.slice a.aP b.ps.length a.cP) = some k → ¬ (Value.ownBlock (.slice a.aL b.ls.length a.cL) = some k)
  p13 : ∀ k, Value.ownBlock (.slice a.aP b.ps.length a.cP) = some k → ¬ (Value.ownBlock (.slice a.aO b.os.length a.cO) = some k)
  p14 : ∀ k, Value.ownBlock (.slice a.aP b.ps.length a.cP) = some k → ¬ (Value.ownBlock (.slice a.aD b.ds.length a.cD) = some k)
  p15 : ∀ k, Value.ownBlock (.slice a.aP b.ps.length a.cP) = some k → ¬ (blkRo (roV b.r (.slice a.aR b.rs.length a.cR) (.slice a.aX b.xs.length a.cX)) k)
  p16 : ∀ k, Value.ownBlock (.slice a.aP b.ps.length a.cP) = some k → ¬ (Value.ownBlock (.slice a.aQ b.qs.length a.cQ) = some k)
  p23 : ∀ k, Value.ownBlock (.slice a.aL b.ls.length a.cL) = some k → ¬ (Value.ownBlock (.slice a.aO b.os.length a.cO) = some k)
  p24 : ∀ k, Value.ownBlock (.slice a.aL b.ls.length a.cL) = some k → ¬ (Value.ownBlock (.slice a.aD b.ds.length a.cD) = some k)
  p25 : ∀ k, Value.ownBlock (.slice a.aL b.ls.length a.cL) = some k → ¬ (blkRo (roV b.r (.slice a.aR b.rs.length a.cR) (.slice a.aX b.xs.length a.cX)) k)
  p26 : ∀ k, Value.ownBlock (.slice a.aL b.ls.length a.cL) = some k → ¬ (Value.ownBlock (.slice a.aQ b.qs.length a.cQ) = some k)
  p34 : ∀ k, Value.ownBlock (.slice a.aO b.os.length a.cO) = some k → ¬ (Value.ownBlock (.slice a.aD b.ds.length a.cD) = some k)
  p35 : ∀ k, Value.ownBlock (.slice a.aO b.os.length a.cO) = some k → ¬ (blkRo (roV b.r (.slice a.aR b.rs.length a.cR) (.slice a.aX b.xs.length a.cX)) k)
  p36 : ∀ k, Value.ownBlock (.slice a.aO b.os.length a.cO) = some k → ¬ (Value.ownBlock (.slice a.aQ b.qs.length a.cQ) = some k)
  p45 : ∀ k, Value.ownBlock (.slice a.aD b.ds.length a.cD) = some k → ¬ (blkRo (roV b.r (.slice a.aR b.rs.length a.cR) (.slice a.aX b.xs.length a.cX)) k)
  p46 : ∀ k, Value.ownBlock (.slice a.aD b.ds.length a.cD) = some k → ¬ (Value.ownBlock (.slice a.aQ b.qs.length a.cQ) = some k)
  p56 : ∀ k, blkRo (roV b.r (.slice a.aR b.rs.length a.cR) (.slice a.aX b.xs.length a.cX)) k → ¬ (Value.ownBlock (.slice a.aQ b.qs.length a.cQ) = some k)

set_option maxRecDepth 20000 in
set_option maxHeartbeats 2000000 in
theorem mark_bd (b : Bd) (a : BdA) (hS : bdSum b ≤ 1048576) (base M : Nat) (hM1 : 1 ≤ M) (hM : M ≤ 1000) (w : World) (hap : BdApart b a)
    (o1 : OwnIn w base (.slice a.aP b.ps.length a.cP) b.ps) (o2 : OwnLm w base (.slice a.aL b.ls.length a.cL) b.ls) (o3 : OwnWt w base (.slice a.aO b.os.length a.cO) b.os) (o4 : OwnDn w base (.slice a.aD b.ds.length a.cD) b.ds) (o5 : OwnRo w base (roV b.r (.slice a.aR b.rs.length a.cR) (.slice a.aX b.xs.length a.cX)) b.r b.rs b.xs) (o6 : OwnIn w base (.slice a.aQ b.qs.length a.cQ) b.qs) :
    Calls Try.prog 49 #[bdV b a, .int .i64 (M : Int)] w fun e w' => e = .returned (.int .i64 ((M + b.ps.length + 3 * b.ls.length + 5 * b.os.length + 3 * b.ds.length + 4 * b.rs.length + b.xs.length + b.qs.length : Nat) : Int)) ∧ Touch w w' (blkBd b a) ∧ MkBd w' base (bdV b a) M b := by
  unfold bdSum at hS
  have HAP := Lib.hid hap
  have F0 := Fit.made w (bdL b a) 32
  have N1 := Lib.hid (show ¬ (Value.ownBlock (.slice a.aP b.ps.length a.cP) = some w.heap.size) from fun e => by have := (LsO.up o1 _ e).2; omega)
  have N2 := Lib.hid (show ¬ (Value.ownBlock (.slice a.aL b.ls.length a.cL) = some w.heap.size) from fun e => by have := (LsO.up o2 _ e).2; omega)
  have N3 := Lib.hid (show ¬ (Value.ownBlock (.slice a.aO b.os.length a.cO) = some w.heap.size) from fun e => by have := (LsO.up o3 _ e).2; omega)
  have N4 := Lib.hid (show ¬ (Value.ownBlock (.slice a.aD b.ds.length a.cD) = some w.heap.size) from fun e => by have := (LsO.up o4 _ e).2; omega)
  have N5 := Lib.hid (show ¬ blkRo (roV b.r (.slice a.aR b.rs.length a.cR) (.slice a.aX b.xs.length a.cX)) w.heap.size from fun e => by have := (OwnRo.blk o5 e).2; omega)
  have N6 := Lib.hid (show ¬ (Value.ownBlock (.slice a.aQ b.qs.length a.cQ) = some w.heap.size) from fun e => by have := (LsO.up o6 _ e).2; omega)
  have H1 := fun W (hW : LsO 1 W base (.slice a.aP b.ps.length a.cP) (b.ps.map inC)) => (markIn_any W base (.slice a.aP b.ps.length a.cP) (b.ps.map inC) (by rw [List.length_map]; omega) (M) (by omega) (by omega) hW).mono fun e w' hh => (show e = .returned (.int .i64 ((M + b.ps.length : Nat) : Int)) ∧ Touch W w' (fun k => Value.ownBlock (.slice a.aP b.ps.length a.cP) = some k) ∧ LsO 1 w' base (.slice a.aP b.ps.length a.cP) ((List.range b.ps.length).map (mkIn (M))) from by
    rw [List.length_map] at hh
    exact ⟨by rw [hh.1]; congr 2, Touch.of_grown hh.2.1, hh.2.2⟩)
  have H2 := fun W (hW : LsO 3 W base (.slice a.aL b.ls.length a.cL) (b.ls.map lmC)) => (markLm_any W base (.slice a.aL b.ls.length a.cL) (b.ls.map lmC) (by rw [List.length_map]; omega) (M + b.ps.length) (by omega) (by omega) hW).mono fun e w' hh => (show e = .returned (.int .i64 ((M + b.ps.length + 3 * b.ls.length : Nat) : Int)) ∧ Touch W w' (fun k => Value.ownBlock (.slice a.aL b.ls.length a.cL) = some k) ∧ LsO 3 w' base (.slice a.aL b.ls.length a.cL) ((List.range b.ls.length).map (mkLm (M + b.ps.length))) from by
    rw [List.length_map] at hh
    exact ⟨by rw [hh.1]; congr 2, Touch.of_grown hh.2.1, hh.2.2⟩)
  have H3 := fun W (hW : LsO 5 W base (.slice a.aO b.os.length a.cO) (b.os.map wtC)) => (markWt_any W base (.slice a.aO b.os.length a.cO) (b.os.map wtC) (by rw [List.length_map]; omega) (M + b.ps.length + 3 * b.ls.length) (by omega) (by omega) hW).mono fun e w' hh => (show e = .returned (.int .i64 ((M + b.ps.length + 3 * b.ls.length + 5 * b.os.length : Nat) : Int)) ∧ Touch W w' (fun k => Value.ownBlock (.slice a.aO b.os.length a.cO) = some k) ∧ LsO 5 w' base (.slice a.aO b.os.length a.cO) ((List.range b.os.length).map (mkWt (M + b.ps.length + 3 * b.ls.length))) from by
    rw [List.length_map] at hh
    exact ⟨by rw [hh.1]; congr 2, Touch.of_grown hh.2.1, hh.2.2⟩)
  have H4 := fun W (hW : LsO 3 W base (.slice a.aD b.ds.length a.cD) (b.ds.map dnC)) => (markDn_any W base (.slice a.aD b.ds.length a.cD) (b.ds.map dnC) (by rw [List.length_map]; omega) (M + b.ps.length + 3 * b.ls.length + 5 * b.os.length) (by omega) (by omega) hW).mono fun e w' hh => (show e = .returned (.int .i64 ((M + b.ps.length + 3 * b.ls.length + 5 * b.os.length + 3 * b.ds.length : Nat) : Int)) ∧ Touch W w' (fun k => Value.ownBlock (.slice a.aD b.ds.length a.cD) = some k) ∧ LsO 3 w' base (.slice a.aD b.ds.length a.cD) ((List.range b.ds.length).map (mkDn (M + b.ps.length + 3 * b.ls.length + 5 * b.os.length))) from by
    rw [List.length_map] at hh
    exact ⟨by rw [hh.1]; congr 2, Touch.of_grown hh.2.1, hh.2.2⟩)
  have H5 := fun W (hW : OwnRo W base (roV b.r (.slice a.aR b.rs.length a.cR) (.slice a.aX b.xs.length a.cX)) b.r b.rs b.xs) => (mark_ro b.r b.rs b.xs (by omega) (by omega) (roV b.r (.slice a.aR b.rs.length a.cR) (.slice a.aX b.xs.length a.cX)) base (M + b.ps.length + 3 * b.ls.length + 5 * b.os.length + 3 * b.ds.length) (by omega) (by omega) W hW).mono fun e w' hh => (show e = .returned (.int .i64 ((M + b.ps.length + 3 * b.ls.length + 5 * b.os.length + 3 * b.ds.length + 4 * b.rs.length + b.xs.length : Nat) : Int)) ∧ Touch W w' (fun k => blkRo (roV b.r (.slice a.aR b.rs.length a.cR) (.slice a.aX b.xs.length a.cX)) k) ∧ MkRo w' base (roV b.r (.slice a.aR b.rs.length a.cR) (.slice a.aX b.xs.length a.cX)) (M + b.ps.length + 3 * b.ls.length + 5 * b.os.length + 3 * b.ds.length) b.rs.length b.xs.length from ⟨hh.1, hh.2.1, hh.2.2⟩)
  have H6 := fun W (hW : LsO 1 W base (.slice a.aQ b.qs.length a.cQ) (b.qs.map inC)) => (markIn_any W base (.slice a.aQ b.qs.length a.cQ) (b.qs.map inC) (by rw [List.length_map]; omega) (M + b.ps.length + 3 * b.ls.length + 5 * b.os.length + 3 * b.ds.length + 4 * b.rs.length + b.xs.length) (by omega) (by omega) hW).mono fun e w' hh => (show e = .returned (.int .i64 ((M + b.ps.length + 3 * b.ls.length + 5 * b.os.length + 3 * b.ds.length + 4 * b.rs.length + b.xs.length + b.qs.length : Nat) : Int)) ∧ Touch W w' (fun k => Value.ownBlock (.slice a.aQ b.qs.length a.cQ) = some k) ∧ LsO 1 w' base (.slice a.aQ b.qs.length a.cQ) ((List.range b.qs.length).map (mkIn (M + b.ps.length + 3 * b.ls.length + 5 * b.os.length + 3 * b.ds.length + 4 * b.rs.length + b.xs.length))) from by
    rw [List.length_map] at hh
    exact ⟨by rw [hh.1]; congr 2, Touch.of_grown hh.2.1, hh.2.2⟩)
  have HGO := Lib.hid (fun W (h1 : LsO 1 W base (.slice a.aP b.ps.length a.cP) ((List.range b.ps.length).map (mkIn (M)))) (h2 : LsO 3 W base (.slice a.aL b.ls.length a.cL) ((List.range b.ls.length).map (mkLm (M + b.ps.length)))) (h3 : LsO 5 W base (.slice a.aO b.os.length a.cO) ((List.range b.os.length).map (mkWt (M + b.ps.length + 3 * b.ls.length)))) (h4 : LsO 3 W base (.slice a.aD b.ds.length a.cD) ((List.range b.ds.length).map (mkDn (M + b.ps.length + 3 * b.ls.length + 5 * b.os.length)))) (h5 : MkRo W base (roV b.r (.slice a.aR b.rs.length a.cR) (.slice a.aX b.xs.length a.cX)) (M + b.ps.length + 3 * b.ls.length + 5 * b.os.length + 3 * b.ds.length) b.rs.length b.xs.length) (h6 : LsO 1 W base (.slice a.aQ b.qs.length a.cQ) ((List.range b.qs.length).map (mkIn (M + b.ps.length + 3 * b.ls.length + 5 * b.os.length + 3 * b.ds.length + 4 * b.rs.length + b.xs.length)))) => (show MkBd W base (bdV b a) M b from ⟨a, rfl, h1, h2, h3, h4, h5, h6⟩))
  obtain ⟨V1, hV1⟩ : ∃ V : Nat, V = M + b.ps.length := ⟨_, rfl⟩
  obtain ⟨V2, hV2⟩ : ∃ V : Nat, V = M + b.ps.length + 3 * b.ls.length := ⟨_, rfl⟩
  obtain ⟨V3, hV3⟩ : ∃ V : Nat, V = M + b.ps.length + 3 * b.ls.length + 5 * b.os.length := ⟨_, rfl⟩
  obtain ⟨V4, hV4⟩ : ∃ V : Nat, V = M + b.ps.length + 3 * b.ls.length + 5 * b.os.length + 3 * b.ds.length := ⟨_, rfl⟩
  obtain ⟨V5, hV5⟩ : ∃ V : Nat, V = M + b.ps.length + 3 * b.ls.length + 5 * b.os.length + 3 * b.ds.length + 4 * b.rs.length + b.xs.length := ⟨_, rfl⟩
  obtain ⟨V6, hV6⟩ : ∃ V : Nat, V = M + b.ps.length + 3 * b.ls.length + 5 * b.os.length + 3 * b.ds.length + 4 * b.rs.length + b.xs.length + b.qs.length := ⟨_, rfl⟩
  try rw [← hV6] at H1
  try rw [← hV6] at H2
  try rw [← hV6] at H3
  try rw [← hV6] at H4
  try rw [← hV6] at H5
  try rw [← hV6] at H6
  try rw [← hV6] at HGO
  try rw [← hV6]
  try rw [← hV5] at H1
  try rw [← hV5] at H2
  try rw [← hV5] at H3
  try rw [← hV5] at H4
  try rw [← hV5] at H5
  try rw [← hV5] at H6
  try rw [← hV5] at HGO
  try rw [← hV5]
  try rw [← hV4] at H1
  try rw [← hV4] at H2
  try rw [← hV4] at H3
  try rw [← hV4] at H4
  try rw [← hV4] at H5
  try rw [← hV4] at H6
  try rw [← hV4] at HGO
  try rw [← hV4]
  try rw [← hV3] at H1
  try rw [← hV3] at H2
  try rw [← hV3] at H3
  try rw [← hV3] at H4
  try rw [← hV3] at H5
  try rw [← hV3] at H6
  try rw [← hV3] at HGO
  try rw [← hV3]
  try rw [← hV2] at H1
  try rw [← hV2] at H2
  try rw [← hV2] at H3
  try rw [← hV2] at H4
  try rw [← hV2] at H5
  try rw [← hV2] at H6
  try rw [← hV2] at HGO
  try rw [← hV2]
  try rw [← hV1] at H1
  try rw [← hV1] at H2
  try rw [← hV1] at H3
  try rw [← hV1] at H4
  try rw [← hV1] at H5
  try rw [← hV1] at H6
  try rw [← hV1] at HGO
  try rw [← hV1]
  have H1 := Lib.hid H1
  have H2 := Lib.hid H2
  have H3 := Lib.hid H3
  have H4 := Lib.hid H4
  have H5 := Lib.hid H5
  have H6 := Lib.hid H6
  replace o1 := Lib.hid (LsO.more o1 F0.below)
  replace o2 := Lib.hid (LsO.more o2 F0.below)
  replace o3 := Lib.hid (LsO.more o3 F0.below)
  replace o4 := Lib.hid (LsO.more o4 F0.below)
  replace o5 := Lib.hid (OwnRo.more o5 F0.below)
  replace o6 := Lib.hid (LsO.more o6 F0.below)
  have HT := Lib.hid (Touch.of_below F0.below (blkBd b a))
  have BX := Lib.hid F0.box
  clear F0 hap hS hV1 hV2 hV3 hV4 hV5 hV6
  go_enter Try.func49, Try.ntmps49
  have k1 := BX.out.cell 1 (by simp)
  go_wp2_with fail
  refine (H1.out _ o1.out).mono ?_
  rintro e w1 ⟨rfl, ht, hm⟩
  replace BX := Lib.hid (BX.out.touch ht N1.out)
  replace o2 := Lib.hid (LsO.touch o2.out ht (fun k hk e => HAP.out.p12 k e hk))
  replace o3 := Lib.hid (LsO.touch o3.out ht (fun k hk e => HAP.out.p13 k e hk))
  replace o4 := Lib.hid (LsO.touch o4.out ht (fun k hk e => HAP.out.p14 k e hk))
  replace o5 := Lib.hid (OwnRo.touch o5.out ht (fun k hk e => HAP.out.p15 k e hk))
  replace o6 := Lib.hid (LsO.touch o6.out ht (fun k hk e => HAP.out.p16 k e hk))
  have m1 := Lib.hid hm
  replace HT := Lib.hid (HT.out.trans (ht.mono (fun k hk => (show blkBd b a k from .inl hk))))
  clear ht hm o1 k1
  have k3 := BX.out.cell 3 (by simp)
  go_wp2_with fail
  refine (H2.out _ o2.out).mono ?_
  rintro e w2 ⟨rfl, ht, hm⟩
  replace BX := Lib.hid (BX.out.touch ht N2.out)
  replace m1 := Lib.hid (LsO.touch m1.out ht (fun k hk e => HAP.out.p12 k hk e))
  replace o3 := Lib.hid (LsO.touch o3.out ht (fun k hk e => HAP.out.p23 k e hk))
  replace o4 := Lib.hid (LsO.touch o4.out ht (fun k hk e => HAP.out.p24 k e hk))
  replace o5 := Lib.hid (OwnRo.touch o5.out ht (fun k hk e => HAP.out.p25 k e hk))
  replace o6 := Lib.hid (LsO.touch o6.out ht (fun k hk e => HAP.out.p26 k e hk))
  have m2 := Lib.hid hm
  replace HT := Lib.hid (HT.out.trans (ht.mono (fun k hk => (show blkBd b a k from .inr (.inl hk)))))
  clear ht hm o2 k3
  have k4 := BX.out.cell 4 (by simp)
  go_wp2_with fail
  refine (H3.out _ o3.out).mono ?_
  rintro e w3 ⟨rfl, ht, hm⟩
  replace BX := Lib.hid (BX.out.touch ht N3.out)
  replace m1 := Lib.hid (LsO.touch m1.out ht (fun k hk e => HAP.out.p13 k hk e))
  replace m2 := Lib.hid (LsO.touch m2.out ht (fun k hk e => HAP.out.p23 k hk e))
  replace o4 := Lib.hid (LsO.touch o4.out ht (fun k hk e => HAP.out.p34 k e hk))
  replace o5 := Lib.hid (OwnRo.touch o5.out ht (fun k hk e => HAP.out.p35 k e hk))
  replace o6 := Lib.hid (LsO.touch o6.out ht (fun k hk e => HAP.out.p36 k e hk))
  have m3 := Lib.hid hm
  replace HT := Lib.hid (HT.out.trans (ht.mono (fun k hk => (show blkBd b a k from .inr (.inr (.inl hk))))))
  clear ht hm o3 k4
  have k5 := BX.out.cell 5 (by simp)
  go_wp2_with fail
  refine (H4.out _ o4.out).mono ?_
  rintro e w4 ⟨rfl, ht, hm⟩
  replace BX := Lib.hid (BX.out.touch ht N4.out)
  replace m1 := Lib.hid (LsO.touch m1.out ht (fun k hk e => HAP.out.p14 k hk e))
  replace m2 := Lib.hid (LsO.touch m2.out ht (fun k hk e => HAP.out.p24 k hk e))
  replace m3 := Lib.hid (LsO.touch m3.out ht (fun k hk e => HAP.out.p34 k hk e))
  replace o5 := Lib.hid (OwnRo.touch o5.out ht (fun k hk e => HAP.out.p45 k e hk))
  replace o6 := Lib.hid (LsO.touch o6.out ht (fun k hk e => HAP.out.p46 k e hk))
  have m4 := Lib.hid hm
  replace HT := Lib.hid (HT.out.trans (ht.mono (fun k hk => (show blkBd b a k from .inr (.inr (.inr (.inl hk)))))))
  clear ht hm o4 k5
  have k6 := BX.out.cell 6 (by simp)
  have k7 := BX.out.cell 7 (by simp)
  have k8 := BX.out.cell 8 (by simp)
  go_wp2_with fail
  refine (H5.out _ o5.out).mono ?_
  rintro e w5 ⟨rfl, ht, hm⟩
  replace BX := Lib.hid (BX.out.touch ht N5.out)
  replace m1 := Lib.hid (LsO.touch m1.out ht (fun k hk e => HAP.out.p15 k hk e))
  replace m2 := Lib.hid (LsO.touch m2.out ht (fun k hk e => HAP.out.p25 k hk e))
  replace m3 := Lib.hid (LsO.touch m3.out ht (fun k hk e => HAP.out.p35 k hk e))
  replace m4 := Lib.hid (LsO.touch m4.out ht (fun k hk e => HAP.out.p45 k hk e))
  replace o6 := Lib.hid (LsO.touch o6.out ht (fun k hk e => HAP.out.p56 k e hk))
  have m5 := Lib.hid hm
  replace HT := Lib.hid (HT.out.trans (ht.mono (fun k hk => (show blkBd b a k from .inr (.inr (.inr (.inr (.inl hk))))))))
  clear ht hm o5 k6 k7 k8
  have k11 := BX.out.cell 11 (by simp)
  go_wp2_with fail
  refine (H6.out _ o6.out).mono ?_
  rintro e w6 ⟨rfl, ht, hm⟩
  replace BX := Lib.hid (BX.out.touch ht N6.out)
  replace m1 := Lib.hid (LsO.touch m1.out ht (fun k hk e => HAP.out.p16 k hk e))
  replace m2 := Lib.hid (LsO.touch m2.out ht (fun k hk e => HAP.out.p26 k hk e))
  replace m3 := Lib.hid (LsO.touch m3.out ht (fun k hk e => HAP.out.p36 k hk e))
  replace m4 := Lib.hid (LsO.touch m4.out ht (fun k hk e => HAP.out.p46 k hk e))
  replace m5 := Lib.hid (MkRo.touch m5.out ht (fun k hk e => HAP.out.p56 k hk e))
  have m6 := Lib.hid hm
  replace HT := Lib.hid (HT.out.trans (ht.mono (fun k hk => (show blkBd b a k from .inr (.inr (.inr (.inr (.inr (hk)))))))))
  clear ht hm o6 k11
  go_wp2
  go_ret
  exact ⟨rfl, HT.out, HGO.out _ m1.out m2.out m3.out m4.out m5.out m6.out⟩
end Go.Proofs.Ytckofkdeedbbgaa
/- What this text proves: the contract of slices.Clone over lists of records. -/
namespace Go.Proofs.Ytckofkdeedbbgaa
open Go.ChangeShapes Go.WideShapes Go.ChangeAt Go.RowKit
set_option linter.unusedVariables false


set_option maxHeartbeats 1000000 in
theorem clone_rcs (A : Option Addr) (l : List Rc) (k : Nat) (hl : l.length ≤ 1099511) (w : World) (h : LsI 4 w w.heap.size A (l.map rcC)) :
    Calls Try.prog 71 #[.slice A l.length k] w fun e w' => ∃ A1 c1, e = .returned (.slice A1 l.length c1) ∧ OwnR 50 4 w' w.heap.size (.slice A1 l.length c1) (l.map rcC) ∧ Below w.heap.size w w' := by
  have hq : ∀ (w : World) (a : Option Addr) (n c n' c' : Nat), (binOp .eql 28 (.slice a n c) (.slice none n' c')).run Try.prog w = .ok (.bool a.isNone) w := fun w a n c n' c' => Lib.run_eql_slice_nil w _ _ a n c n' c' Try.underlying28
  have HB := Lib.hid ((Below.refl _ w).alloc (Nat.le_refl _) (.cells #[] 50))
  have HE := Lib.hid (OwnR.empty (E := 50) (sz := 4) w w.heap.size (Nat.le_refl _))
  cases A with
  | none =>
    have h0 : l = [] := by
      rcases h with h0 | ⟨b, off, hA, _⟩
      · rw [List.length_map] at h0; exact List.eq_nil_of_length_eq_zero h0
      · cases hA
    subst h0
    clear h
    go_enter Try.func71, Try.ntmps71
    go_wp2
    go_ret
    exact ⟨none, 0, rfl, OwnR.nil _ _ _ _, Below.refl _ _⟩
  | some a =>
    have HI := Lib.hid ((h.more HB.out).rows (rc_len l))
    obtain ⟨i, hi, hz0, hz1, hz2⟩ := info_parts info_rc
    have Hi := Lib.hid hi
    have Hz0 := Lib.hid hz0
    have Hz1 := Lib.hid hz1
    have Hz2 := Lib.hid hz2
    clear h hi hz0 hz1 hz2
    go_enter Try.func71, Try.ntmps71
    go_wp2_with (at_builtin; go_loud (refine app_rows 50 28 4 40 (.agg #[.int .i64 0, .int .i64 0, .int .i64 0, .string ⟨#[]⟩]) i _ rfl _ _ rfl Try.underlying28 Hi.out Hz0.out Hz1.out Hz2.out rfl (by decide) (by decide) w.heap.size (.slice (some ⟨w.heap.size, 0, none⟩) 0 0) [] rfl HE.out (some a) (l.map rcC) k (by rw [List.length_map]; rfl) (rc_len l) (rc_one l) HI.out (by simpa using hl) (by simp) ?_))
    intro v w2 hown hg _
    replace hown : OwnR 50 4 w2 w.heap.size v (l.map rcC) := hown
    obtain ⟨A2, c2, rfl⟩ := hown.form
    rw [List.length_map] at hown ⊢
    have HO := Lib.hid hown
    have HB2 := Lib.hid (HB.out.grown hg (by simp) fun k hk => (World.ownsRow.lt HE.out.1 k hk).1)
    clear hown hg
    go_wp2
    go_ret
    exact ⟨_, _, rfl, HO.out, HB2.out⟩
end Go.Proofs.Ytckofkdeedbbgaa
/- What this text proves: the contract of slices.Clone over lists of numbers. -/
namespace Go.Proofs.Ytckofkdeedbbgaa
open Go.ChangeShapes Go.WideShapes Go.ChangeAt Go.RowKit
set_option linter.unusedVariables false


set_option maxHeartbeats 1000000 in
theorem clone_ins (A : Option Addr) (l : List Int) (k : Nat) (hl : l.length ≤ 1099511) (w : World) (h : LsI 1 w w.heap.size A (l.map inC)) :
    Calls Try.prog 121 #[.slice A l.length k] w fun e w' => ∃ A1 c1, e = .returned (.slice A1 l.length c1) ∧ OwnR 3 1 w' w.heap.size (.slice A1 l.length c1) (l.map inC) ∧ Below w.heap.size w w' := by
  have hq : ∀ (w : World) (a : Option Addr) (n c n' c' : Nat), (binOp .eql 24 (.slice a n c) (.slice none n' c')).run Try.prog w = .ok (.bool a.isNone) w := fun w a n c n' c' => Lib.run_eql_slice_nil w _ _ a n c n' c' Try.underlying24
  have HB := Lib.hid ((Below.refl _ w).alloc (Nat.le_refl _) (.cells #[] 3))
  have HE := Lib.hid (OwnR.empty (E := 3) (sz := 1) w w.heap.size (Nat.le_refl _))
  cases A with
  | none =>
    have h0 : l = [] := by
      rcases h with h0 | ⟨b, off, hA, _⟩
      · rw [List.length_map] at h0; exact List.eq_nil_of_length_eq_zero h0
      · cases hA
    subst h0
    clear h
    go_enter Try.func121, Try.ntmps121
    go_wp2
    go_ret
    exact ⟨none, 0, rfl, OwnR.nil _ _ _ _, Below.refl _ _⟩
  | some a =>
    have HI := Lib.hid ((h.more HB.out).rows (in_len l))
    obtain ⟨i, hi, hz0, hz1, hz2⟩ := info_parts info_int
    have Hi := Lib.hid hi
    have Hz0 := Lib.hid hz0
    have Hz1 := Lib.hid hz1
    have Hz2 := Lib.hid hz2
    clear h hi hz0 hz1 hz2
    go_enter Try.func121, Try.ntmps121
    go_wp2_with (at_builtin; go_loud (refine app_rows 3 24 1 8 (.int .i64 0) i _ rfl _ _ rfl Try.underlying24 Hi.out Hz0.out Hz1.out Hz2.out rfl (by decide) (by decide) w.heap.size (.slice (some ⟨w.heap.size, 0, none⟩) 0 0) [] rfl HE.out (some a) (l.map inC) k (by rw [List.length_map]; rfl) (in_len l) (in_one l) HI.out (by simpa using hl) (by simp) ?_))
    intro v w2 hown hg _
    replace hown : OwnR 3 1 w2 w.heap.size v (l.map inC) := hown
    obtain ⟨A2, c2, rfl⟩ := hown.form
    rw [List.length_map] at hown ⊢
    have HO := Lib.hid hown
    have HB2 := Lib.hid (HB.out.grown hg (by simp) fun k hk => (World.ownsRow.lt HE.out.1 k hk).1)
    clear hown hg
    go_wp2
    go_ret
    exact ⟨_, _, rfl, HO.out, HB2.out⟩
end Go.Proofs.Ytckofkdeedbbgaa
