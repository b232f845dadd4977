/- What this text proves: the parts SBb of the proof, each under its own words. -/
import Derived.Test.YtckofkdeedbbgaaNN10
import Derived.Test.YtckofkdeedbbgaaNN28
import Derived.Test.YtckofkdeedbbgaaNN27
import Derived.BigQuiet
/- What this text proves: the contract of the model's BoardOk. -/
namespace Go.Proofs.Ytckofkdeedbbgaa
open Go.ChangeShapes Go.WideShapes Go.ChangeAt Go.RowKit
set_option linter.unusedVariables false


set_option maxRecDepth 20000 in
set_option maxHeartbeats 8000000 in
theorem board_spec (b : Bd) (a : BdA) (hz : BdSz b) (w : World) (h : BdAt w w.heap.size b a) :
    Calls Try.prog 109 #[bdV b a] w fun e w' => e = .returned (.bool (brdB b)) ∧ Below w.heap.size w w' := by
  have F0 := Lib.hid (Fit.made w (bdL b a) 32)
  have HAT := Lib.hid (fun W (hb : Below w.heap.size w W) => h.full hb)
  have HZ := Lib.hid hz
  have HIN := Lib.hid (fun x lo hi W => (in_anyP x lo hi W).mono fun e w' h => (show ∃ t, e = .returned (.bool t) ∧ (t = true ↔ (lo ≤ x ∧ x ≤ hi)) ∧ W = w' from ⟨_, h.1, decide_eq_true_iff, h.2⟩))
  have H8 := Lib.hid (fun W (hb : Below w.heap.size w W) => (rcr_spec b.r a.aR a.aX b.rs b.xs a.cR a.cX HZ.out.rs HZ.out.tot HZ.out.xs W (HAT.out W hb).rs (HAT.out W hb).xs).mono fun e w' h => (show ∃ t, e = .returned (.bool t) ∧ (t = true ↔ RcrOk b.r b.rs b.xs) ∧ Below W.heap.size W w' from ⟨_, h.1, rcrB_iff, h.2⟩))
  have H9 := Lib.hid (fun (hT : 0 ≤ b.tk ∧ b.tk ≤ 65535) W (hb : Below w.heap.size w W) => (ord_spec b a hT HZ.out.os W (HAT.out W hb).os).mono fun e w' h => (show ∃ t, e = .returned (.bool t) ∧ (t = true ↔ (b.os.length ≤ 40 ∧ OrdTo b.tk b.os b.os.length)) ∧ Below W.heap.size W w' from ⟨_, h.1, ordB_iff, h.2⟩))
  clear h hz
  go_enter Try.func109, Try.ntmps109
  have k0 := F0.out.box.cell 0 (by simp)
  have H1 := Lib.hid ((in_anyP b.cl 0 1000000 (w.alloc (.cells (bdL b a).toArray 32))).mono fun e w' h => (show ∃ t, e = .returned (.bool t) ∧ (t = true ↔ (0 ≤ b.cl ∧ b.cl ≤ 1000000)) ∧ Fit w w' w.heap.size (bdL b a) from by obtain ⟨h1, rfl⟩ := h; exact ⟨_, h1, decide_eq_true_iff, F0.out⟩))
  go_wp2_with fail
  refine H1.out.mono ?_
  rintro e w0 ⟨t1, rfl, ht1, hf⟩
  clear F0 k0 H1
  have F0 := Lib.hid hf
  clear hf
  have k0 := F0.out.box.cell 0 (by simp)
  have k1 := F0.out.box.cell 1 (by simp)
  have k2 := F0.out.box.cell 2 (by simp)
  have k3 := F0.out.box.cell 3 (by simp)
  have k4 := F0.out.box.cell 4 (by simp)
  have k5 := F0.out.box.cell 5 (by simp)
  have k6 := F0.out.box.cell 6 (by simp)
  have k7 := F0.out.box.cell 7 (by simp)
  have k8 := F0.out.box.cell 8 (by simp)
  have k9 := F0.out.box.cell 9 (by simp)
  have k10 := F0.out.box.cell 10 (by simp)
  have k11 := F0.out.box.cell 11 (by simp)
  cases t1
  · have HV := Lib.hid (brdB_arm (b := b) BrdOk.cl ht1 rfl)
    clear ht1
    go_wp2
    go_ret
    exact ⟨by rw [HV.out]; rfl, F0.out.below⟩
  · have g1 := Lib.hid (ht1.1 rfl)
    clear ht1
    by_cases g2x : b.ps.length = 8
    rotate_left
    · have d3 : ((b.ps.length : Int) == 8) = false := by simp; omega
      have d3' : (b.ps.length == 8) = false := by simpa using g2x
      have HV := Lib.hid (brdB_no (b := b) (fun h => g2x h.p8))
      go_wp2
      go_ret
      exact ⟨by rw [HV.out]; rfl, F0.out.below⟩
    have d3 : (b.ps.length : Int) = 8 := by omega
    have g2 := Lib.hid g2x
    clear g2x
    by_cases g3 : b.ls.length ≤ 8
    rotate_left
    · have d1 : decide (8 < b.ls.length) = true := by simp; omega
      have d2 : decide ((8 : Int) < (b.ls.length : Int)) = true := by simp; omega
      have HV := Lib.hid (brdB_no (b := b) (fun h => g3 (h.ls.2)))
      go_wp2
      go_ret
      exact ⟨by rw [HV.out]; rfl, F0.out.below⟩
    have dg31 : decide (8 < b.ls.length) = false := by simp; omega
    have dg32 : decide ((8 : Int) < (b.ls.length : Int)) = false := by simp; omega
    have g3 := Lib.hid g3
    go_wp2_with fail
    refine (HIN.out _ _ _ _).mono ?_
    rintro e w' ⟨t1, rfl, ht1, rfl⟩
    clear d3 dg31 dg32
    cases t1
    · have HV := Lib.hid (brdB_arm (b := b) BrdOk.md ht1 rfl)
      clear ht1
      go_wp2
      go_ret
      exact ⟨by rw [HV.out]; rfl, F0.out.below⟩
    · have g4 := Lib.hid (ht1.1 rfl)
      clear ht1
      go_wp2_with fail
      refine (HIN.out _ _ _ _).mono ?_
      rintro e w' ⟨t1, rfl, ht1, rfl⟩
      cases t1
      · have HV := Lib.hid (brdB_arm (b := b) BrdOk.tk ht1 rfl)
        clear ht1
        go_wp2
        go_ret
        exact ⟨by rw [HV.out]; rfl, F0.out.below⟩
      · have g5 := Lib.hid (ht1.1 rfl)
        clear ht1
        by_cases g6 : b.ds.length ≤ 5000
        rotate_left
        · have d1 : decide (5000 < b.ds.length) = true := by simp; omega
          have d2 : decide ((5000 : Int) < (b.ds.length : Int)) = true := by simp; omega
          have HV := Lib.hid (brdB_no (b := b) (fun h => g6 (h.ds.2)))
          go_wp2
          go_ret
          exact ⟨by rw [HV.out]; rfl, F0.out.below⟩
        have dg61 : decide (5000 < b.ds.length) = false := by simp; omega
        have dg62 : decide ((5000 : Int) < (b.ds.length : Int)) = false := by simp; omega
        have g6 := Lib.hid g6
        by_cases g7 : b.qs.length ≤ 5000
        rotate_left
        · have d1 : decide (5000 < b.qs.length) = true := by simp; omega
          have d2 : decide ((5000 : Int) < (b.qs.length : Int)) = true := by simp; omega
          have HV := Lib.hid (brdB_no (b := b) (fun h => g7 (h.q5)))
          go_wp2
          go_ret
          exact ⟨by rw [HV.out]; rfl, F0.out.below⟩
        have dg71 : decide (5000 < b.qs.length) = false := by simp; omega
        have dg72 : decide ((5000 : Int) < (b.qs.length : Int)) = false := by simp; omega
        have g7 := Lib.hid g7
        go_wp2_with fail
        refine (H8.out _ F0.out.below).mono ?_
        rintro e w1 ⟨t1, rfl, ht1, hb⟩
        have F1 := Lib.hid (F0.out.more hb)
        clear hb F0 dg61 dg62 dg71 dg72 k0 k1 k2 k3 k4 k5 k6 k7 k8 k9 k10 k11
        cases t1
        · have HV := Lib.hid (brdB_arm (b := b) BrdOk.rok ht1 rfl)
          clear ht1
          go_wp2
          go_ret
          exact ⟨by rw [HV.out]; rfl, F1.out.below⟩
        · have g8 := Lib.hid (ht1.1 rfl)
          clear ht1
          have k0 := F1.out.box.cell 0 (by simp)
          have k1 := F1.out.box.cell 1 (by simp)
          have k2 := F1.out.box.cell 2 (by simp)
          have k3 := F1.out.box.cell 3 (by simp)
          have k4 := F1.out.box.cell 4 (by simp)
          have k5 := F1.out.box.cell 5 (by simp)
          have k6 := F1.out.box.cell 6 (by simp)
          have k7 := F1.out.box.cell 7 (by simp)
          have k8 := F1.out.box.cell 8 (by simp)
          have k9 := F1.out.box.cell 9 (by simp)
          have k10 := F1.out.box.cell 10 (by simp)
          have k11 := F1.out.box.cell 11 (by simp)
          go_wp2_with fail
          refine (H9.out g5.out _ F1.out.below).mono ?_
          rintro e w2 ⟨t1, rfl, ht1, hb⟩
          have F2 := Lib.hid (F1.out.more hb)
          clear hb F1 k0 k1 k2 k3 k4 k5 k6 k7 k8 k9 k10 k11
          cases t1
          · have HV := Lib.hid (brdB_arm (b := b) BrdOk.os ht1 rfl)
            clear ht1
            go_wp2
            go_ret
            exact ⟨by rw [HV.out]; rfl, F2.out.below⟩
          · have g9 := Lib.hid (ht1.1 rfl)
            clear ht1
            have k1 := F2.out.box.cell 1 (by simp)
            have hwt : IntKind.i64.wrap (b.tk - 1) = b.tk - 1 := IntWalk.i64_in _ (by have := g5.out; omega)
            have hwt' : wrap64 (b.tk - 1) = b.tk - 1 := by have := g5.out; unfold wrap64; omega
            go_wp2
            clear k1
            go_loopg [3] b.ps.length (fun gh v wx => ∃ k : Nat, k ≤ b.ps.length ∧ gh = b.ps.length - k ∧ v = .int .i64 (k : Int) ∧ (∀ j (hj : j < b.ps.length), j < k → 0 ≤ b.ps[j] ∧ b.ps[j] ≤ 65535) ∧ Fit w wx w.heap.size (bdL b a))
            case atStart => exact ⟨0, by omega, rfl, rfl, fun j _ h => absurd h (Nat.not_lt_zero _), F2.out⟩
            case round =>
              obtain ⟨k, hk, rfl, rfl, hall, hfit⟩ := hrel
              have HA := Lib.hid hall
              have HF := Lib.hid hfit
              have kc := hfit.box.cell 1 (by simp)
              clear hall
              by_cases hlt : k < b.ps.length
              · have hd : decide (k < b.ps.length) = true := by simp; omega
                have hd' : decide ((k : Int) < (b.ps.length : Int)) = true := by simp; omega
                obtain ⟨bb, off, har, hb, hcl⟩ := inCellsI (HAT.out _ hfit.below).ps (by omega)
                replace kc : wr.cell? ⟨w.heap.size, 1, none⟩ = some (.slice (some ⟨bb, off, none⟩) b.ps.length a.cP) := (show wr.cell? ⟨w.heap.size, 1, none⟩ = some (.slice a.aP b.ps.length a.cP) from kc).trans (by rw [har])
                have HAR := Lib.hid har
                have hlz := HZ.out.ps
                have HNX := Lib.hid (show 0 ≤ b.ps[k] ∧ b.ps[k] ≤ 65535 → ∀ j (hj : j < b.ps.length), j < k + 1 → 0 ≤ b.ps[j] ∧ b.ps[j] ≤ 65535 from fun h j hj hjk => by
                  rcases Nat.lt_or_ge j k with h3 | h3
                  · exact HA.out j hj h3
                  · obtain rfl : j = k := by omega
                    exact h)
                have c0 := hcl k hlt
                have HNO := Lib.hid (show ¬ (0 ≤ b.ps[k] ∧ b.ps[k] ≤ 65535) → brdB b = false from fun g => brdB_no (fun h => g (within_at h.ps k hlt)))
                clear hcl hfit har hb
                generalize b.ps[k] = x at *
                go_wp2_with fail
                refine (HIN.out _ _ _ _).mono ?_
                rintro e w' ⟨t1, rfl, ht1, rfl⟩
                cases t1
                · have HV := Lib.hid (HNO.out (fun g => Bool.noConfusion (ht1.2 g)))
                  clear ht1
                  go_wp2
                  go_ret
                  exact ⟨by rw [HV.out]; rfl, HF.out.below⟩
                · have HOK := Lib.hid (ht1.1 rfl)
                  clear ht1
                  go_wp2
                  go_roundg (b.ps.length - (k + 1))
                  case measure => omega
                  case rel => exact ⟨k + 1, by omega, rfl, by go_num, HNX.out (by exact HOK.out), HF.out⟩
              · have hd : decide (k < b.ps.length) = false := by simp; omega
                have hd' : decide ((k : Int) < (b.ps.length : Int)) = false := by simp; omega
                have G1 := Lib.hid (show ∀ j (hj : j < b.ps.length), 0 ≤ b.ps[j] ∧ b.ps[j] ≤ 65535 from fun j hj => HA.out j hj (by omega))
                have G1F := HF
                have n3 := hfit.box.cell 3 (by simp)
                clear hlt hfit HA HF
                go_wp2
                clear kc hd hd' n3
                go_loopg [4] b.ls.length (fun gh v wx => ∃ k : Nat, k ≤ b.ls.length ∧ gh = b.ls.length - k ∧ v = .int .i64 (k : Int) ∧ (∀ j (hj : j < b.ls.length), j < k → LimOk b.ls[j]) ∧ Fit w wx w.heap.size (bdL b a))
                case atStart => exact ⟨0, by omega, rfl, rfl, fun j _ h => absurd h (Nat.not_lt_zero _), G1F.out⟩
                case round =>
                  obtain ⟨k, hk, rfl, rfl, hall, hfit⟩ := hrel
                  have HA := Lib.hid hall
                  have HF := Lib.hid hfit
                  have kc := hfit.box.cell 3 (by simp)
                  clear hall
                  by_cases hlt : k < b.ls.length
                  · have hd : decide (k < b.ls.length) = true := by simp; omega
                    have hd' : decide ((k : Int) < (b.ls.length : Int)) = true := by simp; omega
                    obtain ⟨bb, off, har, hb, hcl⟩ := lmCellsI (b := 0) (off := 0) (HAT.out _ hfit.below).ls (by omega)
                    replace kc : wr.cell? ⟨w.heap.size, 3, none⟩ = some (.slice (some ⟨bb, off, none⟩) b.ls.length a.cL) := (show wr.cell? ⟨w.heap.size, 3, none⟩ = some (.slice a.aL b.ls.length a.cL) from kc).trans (by rw [har])
                    have HAR := Lib.hid har
                    have hlz := HZ.out.ls
                    have HNX := Lib.hid (show LimOk b.ls[k] → ∀ j (hj : j < b.ls.length), j < k + 1 → LimOk b.ls[j] from fun h j hj hjk => by
                      rcases Nat.lt_or_ge j k with h3 | h3
                      · exact HA.out j hj h3
                      · obtain rfl : j = k := by omega
                        exact h)
                    obtain ⟨c0, c1, c2⟩ := hcl k hlt
                    have HNO := Lib.hid (show ¬ ((0 ≤ b.ls[k].1 ∧ b.ls[k].1 ≤ 7) ∧ (0 ≤ b.ls[k].2.1 ∧ b.ls[k].2.1 ≤ 65535) ∧ (0 ≤ b.ls[k].2.2 ∧ b.ls[k].2.2 ≤ 65535)) → brdB b = false from fun g => brdB_no (fun h => g (h.ls.1 k hlt)))
                    have HOKX := Lib.hid (show ((0 ≤ b.ls[k].1 ∧ b.ls[k].1 ≤ 7) ∧ (0 ≤ b.ls[k].2.1 ∧ b.ls[k].2.1 ≤ 65535) ∧ (0 ≤ b.ls[k].2.2 ∧ b.ls[k].2.2 ≤ 65535)) → LimOk b.ls[k] from fun g => g)
                    obtain ⟨q, hq⟩ : ∃ q, q = (LimOk b.ls[k]) := ⟨_, rfl⟩
                    rw [← hq] at HNX HOKX
                    clear hcl har hb hq
                    generalize b.ls[k].1 = x0 at *
                    generalize b.ls[k].2.1 = x1 at *
                    generalize b.ls[k].2.2 = x2 at *
                    have B0 := Box.made wr [.int .i64 x0, .int .i64 x1, .int .i64 x2] 57 wr.heap.size rfl
                    have n0 := B0.cell 0 (by simp)
                    have n1 := B0.cell 1 (by simp)
                    have n2 := B0.cell 2 (by simp)
                    have HF1 := Lib.hid (HF.out.more ((Below.refl _ wr).alloc (Nat.le_refl _) (.cells #[.int .i64 x0, .int .i64 x1, .int .i64 x2] 57)))
                    clear B0 hfit
                    go_wp2_with fail
                    refine (HIN.out _ _ _ _).mono ?_
                    rintro e w' ⟨t1, rfl, ht1, rfl⟩
                    cases t1
                    · have HV := Lib.hid (HNO.out (fun g => Bool.noConfusion (ht1.2 g.1)))
                      clear ht1
                      go_wp2
                      go_ret
                      exact ⟨by rw [HV.out]; rfl, HF1.out.below⟩
                    · have p0 := Lib.hid (ht1.1 rfl)
                      clear ht1
                      go_wp2_with fail
                      refine (HIN.out _ _ _ _).mono ?_
                      rintro e w' ⟨t1, rfl, ht1, rfl⟩
                      cases t1
                      · have HV := Lib.hid (HNO.out (fun g => Bool.noConfusion (ht1.2 g.2.1)))
                        clear ht1
                        go_wp2
                        go_ret
                        exact ⟨by rw [HV.out]; rfl, HF1.out.below⟩
                      · have p1 := Lib.hid (ht1.1 rfl)
                        clear ht1
                        go_wp2_with fail
                        refine (HIN.out _ _ _ _).mono ?_
                        rintro e w' ⟨t1, rfl, ht1, rfl⟩
                        cases t1
                        · have HV := Lib.hid (HNO.out (fun g => Bool.noConfusion (ht1.2 g.2.2)))
                          clear ht1
                          go_wp2
                          go_ret
                          exact ⟨by rw [HV.out]; rfl, HF1.out.below⟩
                        · have p2 := Lib.hid (ht1.1 rfl)
                          clear ht1
                          have HOK := Lib.hid (HOKX.out ⟨p0.out, p1.out, p2.out⟩)
                          go_wp2
                          go_roundg (b.ls.length - (k + 1))
                          case measure => omega
                          case rel => exact ⟨k + 1, by omega, rfl, by go_num, HNX.out (by exact HOK.out), HF1.out⟩
                  · have hd : decide (k < b.ls.length) = false := by simp; omega
                    have hd' : decide ((k : Int) < (b.ls.length : Int)) = false := by simp; omega
                    have G2 := Lib.hid (show ∀ j (hj : j < b.ls.length), LimOk b.ls[j] from fun j hj => HA.out j hj (by omega))
                    have G2F := HF
                    have n5 := hfit.box.cell 5 (by simp)
                    clear hlt hfit HA HF
                    go_wp2
                    clear kc hd hd' n5
                    go_loopg [6] b.ds.length (fun gh v wx => ∃ k : Nat, k ≤ b.ds.length ∧ gh = b.ds.length - k ∧ v = .int .i64 (k : Int) ∧ (∀ j (hj : j < b.ds.length), j < k → DnOk b.tk b.ds[j]) ∧ Fit w wx w.heap.size (bdL b a))
                    case atStart => exact ⟨0, by omega, rfl, rfl, fun j _ h => absurd h (Nat.not_lt_zero _), G2F.out⟩
                    case round =>
                      obtain ⟨k, hk, rfl, rfl, hall, hfit⟩ := hrel
                      have HA := Lib.hid hall
                      have HF := Lib.hid hfit
                      have kc := hfit.box.cell 5 (by simp)
                      clear hall
                      by_cases hlt : k < b.ds.length
                      · have hd : decide (k < b.ds.length) = true := by simp; omega
                        have hd' : decide ((k : Int) < (b.ds.length : Int)) = true := by simp; omega
                        obtain ⟨bb, off, har, hb, hcl⟩ := dnCellsI (b := 0) (off := 0) (HAT.out _ hfit.below).ds (by omega)
                        replace kc : wr.cell? ⟨w.heap.size, 5, none⟩ = some (.slice (some ⟨bb, off, none⟩) b.ds.length a.cD) := (show wr.cell? ⟨w.heap.size, 5, none⟩ = some (.slice a.aD b.ds.length a.cD) from kc).trans (by rw [har])
                        have HAR := Lib.hid har
                        have hlz := HZ.out.ds
                        have HNX := Lib.hid (show DnOk b.tk b.ds[k] → ∀ j (hj : j < b.ds.length), j < k + 1 → DnOk b.tk b.ds[j] from fun h j hj hjk => by
                          rcases Nat.lt_or_ge j k with h3 | h3
                          · exact HA.out j hj h3
                          · obtain rfl : j = k := by omega
                            exact h)
                        obtain ⟨c0, c1, c2⟩ := hcl k hlt
                        have HNO := Lib.hid (show ¬ ((0 ≤ b.ds[k].1 ∧ b.ds[k].1 ≤ b.tk - 1) ∧ (0 ≤ b.ds[k].2.1 ∧ b.ds[k].2.1 ≤ 1000000) ∧ (0 ≤ b.ds[k].2.2 ∧ b.ds[k].2.2 ≤ 1)) → brdB b = false from fun g => brdB_no (fun h => g (h.ds.1 k hlt)))
                        have HOKX := Lib.hid (show ((0 ≤ b.ds[k].1 ∧ b.ds[k].1 ≤ b.tk - 1) ∧ (0 ≤ b.ds[k].2.1 ∧ b.ds[k].2.1 ≤ 1000000) ∧ (0 ≤ b.ds[k].2.2 ∧ b.ds[k].2.2 ≤ 1)) → DnOk b.tk b.ds[k] from fun g => g)
                        obtain ⟨q, hq⟩ : ∃ q, q = (DnOk b.tk b.ds[k]) := ⟨_, rfl⟩
                        rw [← hq] at HNX HOKX
                        clear hcl har hb hq
                        generalize b.ds[k].1 = x0 at *
                        generalize b.ds[k].2.1 = x1 at *
                        generalize b.ds[k].2.2 = x2 at *
                        have B0 := Box.made wr [.int .i64 x0, .int .i64 x1, .int .i64 x2] 45 wr.heap.size rfl
                        have n0 := B0.cell 0 (by simp)
                        have n1 := B0.cell 1 (by simp)
                        have n2 := B0.cell 2 (by simp)
                        have HF1 := Lib.hid (HF.out.more ((Below.refl _ wr).alloc (Nat.le_refl _) (.cells #[.int .i64 x0, .int .i64 x1, .int .i64 x2] 45)))
                        have k10 := HF1.out.box.cell 10 (by simp)
                        clear B0 hfit
                        go_wp2_with fail
                        refine (HIN.out _ _ _ _).mono ?_
                        rintro e w' ⟨t1, rfl, ht1, rfl⟩
                        cases t1
                        · have HV := Lib.hid (HNO.out (fun g => Bool.noConfusion (ht1.2 g.1)))
                          clear ht1
                          go_wp2
                          go_ret
                          exact ⟨by rw [HV.out]; rfl, HF1.out.below⟩
                        · have p0 := Lib.hid (ht1.1 rfl)
                          clear ht1
                          go_wp2_with fail
                          refine (HIN.out _ _ _ _).mono ?_
                          rintro e w' ⟨t1, rfl, ht1, rfl⟩
                          cases t1
                          · have HV := Lib.hid (HNO.out (fun g => Bool.noConfusion (ht1.2 g.2.1)))
                            clear ht1
                            go_wp2
                            go_ret
                            exact ⟨by rw [HV.out]; rfl, HF1.out.below⟩
                          · have p1 := Lib.hid (ht1.1 rfl)
                            clear ht1
                            go_wp2_with fail
                            refine (HIN.out _ _ _ _).mono ?_
                            rintro e w' ⟨t1, rfl, ht1, rfl⟩
                            cases t1
                            · have HV := Lib.hid (HNO.out (fun g => Bool.noConfusion (ht1.2 g.2.2)))
                              clear ht1
                              go_wp2
                              go_ret
                              exact ⟨by rw [HV.out]; rfl, HF1.out.below⟩
                            · have p2 := Lib.hid (ht1.1 rfl)
                              clear ht1
                              have HOK := Lib.hid (HOKX.out ⟨p0.out, p1.out, p2.out⟩)
                              go_wp2
                              go_roundg (b.ds.length - (k + 1))
                              case measure => omega
                              case rel => exact ⟨k + 1, by omega, rfl, by go_num, HNX.out (by exact HOK.out), HF1.out⟩
                      · have hd : decide (k < b.ds.length) = false := by simp; omega
                        have hd' : decide ((k : Int) < (b.ds.length : Int)) = false := by simp; omega
                        have G3 := Lib.hid (show ∀ j (hj : j < b.ds.length), DnOk b.tk b.ds[j] from fun j hj => HA.out j hj (by omega))
                        have G3F := HF
                        have n7 := hfit.box.cell 7 (by simp)
                        clear hlt hfit HA HF
                        go_wp2
                        clear kc hd hd' n7
                        go_loopg [8] b.rs.length (fun gh v wx => ∃ k : Nat, k ≤ b.rs.length ∧ gh = b.rs.length - k ∧ v = .int .i64 (k : Int) ∧ (∀ j (hj : j < b.rs.length), j < k → b.rs[j].1 < b.md) ∧ Fit w wx w.heap.size (bdL b a))
                        case atStart => exact ⟨0, by omega, rfl, rfl, fun j _ h => absurd h (Nat.not_lt_zero _), G3F.out⟩
                        case round =>
                          obtain ⟨k, hk, rfl, rfl, hall, hfit⟩ := hrel
                          have HA := Lib.hid hall
                          have HF := Lib.hid hfit
                          have kc := hfit.box.cell 7 (by simp)
                          clear hall
                          by_cases hlt : k < b.rs.length
                          · have hd : decide (k < b.rs.length) = true := by simp; omega
                            have hd' : decide ((k : Int) < (b.rs.length : Int)) = true := by simp; omega
                            obtain ⟨bb, off, har, hb, hcl⟩ := rcCellsI (b := 0) (off := 0) (HAT.out _ hfit.below).rs (by omega)
                            replace kc : wr.cell? ⟨w.heap.size, 7, none⟩ = some (.slice (some ⟨bb, off, none⟩) b.rs.length a.cR) := (show wr.cell? ⟨w.heap.size, 7, none⟩ = some (.slice a.aR b.rs.length a.cR) from kc).trans (by rw [har])
                            have HAR := Lib.hid har
                            have hlz := HZ.out.rs
                            have HNX := Lib.hid (show b.rs[k].1 < b.md → ∀ j (hj : j < b.rs.length), j < k + 1 → b.rs[j].1 < b.md from fun h j hj hjk => by
                              rcases Nat.lt_or_ge j k with h3 | h3
                              · exact HA.out j hj h3
                              · obtain rfl : j = k := by omega
                                exact h)
                            have hbb : bb < wr.heap.size := hb
                            have c0' := (hcl k hlt).1
                            have hall : ∀ q : Prop, (InW (fun W => Below wr.heap.size wr W) → q) ↔ q := fun q => ⟨fun h => h ⟨_, Below.refl _ _⟩, fun h _ => h⟩
                            have k7 : ∀ p : InW (fun W => Below wr.heap.size wr W), p.W.cell? ⟨w.heap.size, 7, none⟩ = some (.slice (some ⟨bb, off, none⟩) b.rs.length a.cR) := fun p => ((show p.W.cell? ⟨w.heap.size, 7, none⟩ = some (.slice a.aR b.rs.length a.cR) from (HF.out.more p.ok).box.cell 7 (by simp))).trans (by rw [HAR.out])
                            have k9 : ∀ p : InW (fun W => Below wr.heap.size wr W), p.W.cell? ⟨w.heap.size, 9, none⟩ = some (.int .i64 b.md) := fun p => (HF.out.more p.ok).box.cell 9 (by simp)
                            have c0 : ∀ p : InW (fun W => Below wr.heap.size wr W), p.W.cell? ⟨bb, off + k * 4, none⟩ = some (.int .i64 (b.rs[k]'hlt).1) := fun p => (p.ok.cell (p := ⟨bb, off + k * 4, none⟩) hbb).trans c0'
                            clear hcl har hb hfit c0'
                            by_cases g : (b.rs[k]'hlt).1 < b.md
                            · have dg : decide (b.md ≤ (b.rs[k]'hlt).1) = false := by simp; omega
                              have HOK := Lib.hid g
                              clear g
                              generalize (b.rs[k]'hlt).1 = y at *
                              go_wp2
                              refine wp_region_inW (fun W => Below wr.heap.size wr W) (by kernel_rfl) (by kernel_rfl) (Below.refl _ _).drew ?_
                              repeat (go_big_quiet_step (fail))
                              refine wpQuiet_nil ?_
                              rintro _ ⟨⟨W4, hW4⟩, rfl⟩
                              have HF4 := Lib.hid (HF.out.more hW4)
                              clear hW4
                              go_wp2
                              go_roundg (b.rs.length - (k + 1))
                              case measure => omega
                              case rel => exact ⟨k + 1, by omega, rfl, by go_num, HNX.out (by exact HOK.out), HF4.out⟩
                            · have dg : decide (b.md ≤ (b.rs[k]'hlt).1) = true := by simp; omega
                              have HV := Lib.hid (brdB_no (b := b) (fun h => g (h.ids k hlt)))
                              clear g HNX
                              generalize (b.rs[k]'hlt).1 = y at *
                              go_wp2
                              refine wp_region_inW (fun W => Below wr.heap.size wr W) (by kernel_rfl) (by kernel_rfl) (Below.refl _ _).drew ?_
                              repeat (go_big_quiet_step (fail))
                              refine wpQuiet_nil ?_
                              rintro _ ⟨⟨W4, hW4⟩, rfl⟩
                              have HF4 := Lib.hid (HF.out.more hW4)
                              clear hW4
                              go_wp2
                              go_ret
                              exact ⟨by rw [HV.out]; rfl, HF4.out.below⟩
                          · have hd : decide (k < b.rs.length) = false := by simp; omega
                            have hd' : decide ((k : Int) < (b.rs.length : Int)) = false := by simp; omega
                            have G4 := Lib.hid (show ∀ j (hj : j < b.rs.length), b.rs[j].1 < b.md from fun j hj => HA.out j hj (by omega))
                            have G4F := HF
                            have n11 := hfit.box.cell 11 (by simp)
                            clear hlt hfit HA HF
                            go_wp2
                            clear kc hd hd' n11
                            go_loopg [9] b.qs.length (fun gh v wx => ∃ k : Nat, k ≤ b.qs.length ∧ gh = b.qs.length - k ∧ v = .int .i64 (k : Int) ∧ (∀ j (hj : j < b.qs.length), j < k → 0 ≤ b.qs[j] ∧ b.qs[j] ≤ 7) ∧ Fit w wx w.heap.size (bdL b a))
                            case atStart => exact ⟨0, by omega, rfl, rfl, fun j _ h => absurd h (Nat.not_lt_zero _), G4F.out⟩
                            case round =>
                              obtain ⟨k, hk, rfl, rfl, hall, hfit⟩ := hrel
                              have HA := Lib.hid hall
                              have HF := Lib.hid hfit
                              have kc := hfit.box.cell 11 (by simp)
                              clear hall
                              by_cases hlt : k < b.qs.length
                              · have hd : decide (k < b.qs.length) = true := by simp; omega
                                have hd' : decide ((k : Int) < (b.qs.length : Int)) = true := by simp; omega
                                obtain ⟨bb, off, har, hb, hcl⟩ := inCellsI (HAT.out _ hfit.below).qs (by omega)
                                replace kc : wr.cell? ⟨w.heap.size, 11, none⟩ = some (.slice (some ⟨bb, off, none⟩) b.qs.length a.cQ) := (show wr.cell? ⟨w.heap.size, 11, none⟩ = some (.slice a.aQ b.qs.length a.cQ) from kc).trans (by rw [har])
                                have HAR := Lib.hid har
                                have hlz := HZ.out.qs
                                have HNX := Lib.hid (show 0 ≤ b.qs[k] ∧ b.qs[k] ≤ 7 → ∀ j (hj : j < b.qs.length), j < k + 1 → 0 ≤ b.qs[j] ∧ b.qs[j] ≤ 7 from fun h j hj hjk => by
                                  rcases Nat.lt_or_ge j k with h3 | h3
                                  · exact HA.out j hj h3
                                  · obtain rfl : j = k := by omega
                                    exact h)
                                have c0 := hcl k hlt
                                have HNO := Lib.hid (show ¬ (0 ≤ b.qs[k] ∧ b.qs[k] ≤ 7) → brdB b = false from fun g => brdB_no (fun h => g (within_at h.qs k hlt)))
                                clear hcl hfit har hb
                                generalize b.qs[k] = x at *
                                go_wp2_with fail
                                refine (HIN.out _ _ _ _).mono ?_
                                rintro e w' ⟨t1, rfl, ht1, rfl⟩
                                cases t1
                                · have HV := Lib.hid (HNO.out (fun g => Bool.noConfusion (ht1.2 g)))
                                  clear ht1
                                  go_wp2
                                  go_ret
                                  exact ⟨by rw [HV.out]; rfl, HF.out.below⟩
                                · have HOK := Lib.hid (ht1.1 rfl)
                                  clear ht1
                                  go_wp2
                                  go_roundg (b.qs.length - (k + 1))
                                  case measure => omega
                                  case rel => exact ⟨k + 1, by omega, rfl, by go_num, HNX.out (by exact HOK.out), HF.out⟩
                              · have hd : decide (k < b.qs.length) = false := by simp; omega
                                have hd' : decide ((k : Int) < (b.qs.length : Int)) = false := by simp; omega
                                have G5 := Lib.hid (show ∀ j (hj : j < b.qs.length), 0 ≤ b.qs[j] ∧ b.qs[j] ≤ 7 from fun j hj => HA.out j hj (by omega))
                                have G5F := HF
                                clear hlt hfit HA HF
                                have HV := Lib.hid (brdB_yes (b := b) ⟨g1.out, g4.out, g5.out, g2.out, within_all G1.out, g7.out, within_all G5.out, g8.out, G4.out, ⟨G2.out, g3.out⟩, g9.out, ⟨G3.out, g6.out⟩⟩)
                                go_wp2
                                go_ret
                                exact ⟨by rw [HV.out]; rfl, G5F.out.below⟩
end Go.Proofs.Ytckofkdeedbbgaa
