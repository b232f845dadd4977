/- What this text proves: the parts IBb of the proof, each under its own words. -/
import Derived.Test.YtckofkdeedbbgaaNN10
import Derived.Test.YtckofkdeedbbgaaNN23
import Derived.Test.YtckofkdeedbbgaaNN24
import Derived.BigQuiet
/- What this text proves: the contract of the program's BoardOk. -/
namespace Go.Proofs.Ytckofkdeedbbgaa
open Go.ChangeShapes Go.WideShapes Go.ChangeAt Go.RowKit
set_option linter.unusedVariables false


set_option maxRecDepth 20000 in
set_option maxHeartbeats 4000000 in
theorem board_impl (b : Bd) (a : BdA) (hz : BdSz b) (w : World) (h : BdAt w w.heap.size b a) :
    Calls Try.prog 17 #[bdV b a] w fun e w' => e = .returned (.bool (brdB b)) ∧ Below w.heap.size w w' := by
  have F0 := Lib.hid (Fit.made w (bdL b a) 32)
  have HAT := Lib.hid (fun W (hb : Below w.heap.size w W) => h.full hb)
  have HZ := Lib.hid hz
  have H1 := Lib.hid (fun W => (iw_any b.cl 0 1000000 W).mono fun e w' h => (show ∃ t, e = .returned (.bool t) ∧ (t = true ↔ (0 ≤ b.cl ∧ b.cl ≤ 1000000)) ∧ W = w' from ⟨_, h.1, decide_eq_true_iff, h.2⟩))
  have H2 := Lib.hid (fun W => (aw_two b.md b.tk 0 65535 W).mono fun e w' h => (show ∃ t, e = .returned (.bool t) ∧ (t = true ↔ ((0 ≤ b.md ∧ b.md ≤ 65535) ∧ (0 ≤ b.tk ∧ b.tk ≤ 65535))) ∧ _ = w' from ⟨_, h.1, decide_eq_true_iff, h.2⟩))
  have H3 := Lib.hid (fun W (hb : Below w.heap.size w W) => (aw_impl a.aP b.ps a.cP 0 65535 HZ.out.ps W (HAT.out W hb).ps).mono fun e w' h => (show ∃ t, e = .returned (.bool t) ∧ (t = true ↔ Within b.ps 0 65535) ∧ W = w' from ⟨_, h.1, winB_iff, h.2⟩))
  have H4 := Lib.hid (fun W (hb : Below w.heap.size w W) => (aw_impl a.aQ b.qs a.cQ 0 7 HZ.out.qs W (HAT.out W hb).qs).mono fun e w' h => (show ∃ t, e = .returned (.bool t) ∧ (t = true ↔ Within b.qs 0 7) ∧ W = w' from ⟨_, h.1, winB_iff, h.2⟩))
  have H5 := Lib.hid (fun W (hb : Below w.heap.size w W) => (rcr_impl b.r a.aR a.aX b.rs b.xs a.cR a.cX HZ.out.rs HZ.out.tot HZ.out.xs W (HAT.out W hb).rs (HAT.out W hb).xs).mono fun e w' h => (show ∃ t, e = .returned (.bool t) ∧ (t = true ↔ RcrOk b.r b.rs b.xs) ∧ Below W.heap.size W w' from ⟨_, h.1, rcrB_iff, h.2⟩))
  have H6 := Lib.hid (fun W (hb : Below w.heap.size w W) => (lim_impl a.aL b.ls a.cL HZ.out.ls W (HAT.out W hb).ls).mono fun e w' h => (show ∃ t, e = .returned (.bool t) ∧ (t = true ↔ (LimsOk b.ls ∧ b.ls.length ≤ 8)) ∧ Below W.heap.size W w' from ⟨_, h.1, limB_iff, h.2⟩))
  have H7 := Lib.hid (fun (hT : 0 ≤ b.tk ∧ b.tk ≤ 65535) W (hb : Below w.heap.size w W) => (ord_impl a.aO b.os a.cO b.tk hT HZ.out.os W (HAT.out W hb).os).mono fun e w' h => (show ∃ t, e = .returned (.bool t) ∧ (t = true ↔ (b.os.length ≤ 40 ∧ OrdTo b.tk b.os b.os.length)) ∧ Below W.heap.size W w' from ⟨_, h.1, ordB_iff, h.2⟩))
  have H8 := Lib.hid (fun (hT : 0 ≤ b.tk ∧ b.tk ≤ 65535) W (hb : Below w.heap.size w W) => (dn_impl a.aD b.ds a.cD b.tk hT HZ.out.ds W (HAT.out W hb).ds).mono fun e w' h => (show ∃ t, e = .returned (.bool t) ∧ (t = true ↔ (DnsOk b.tk b.ds ∧ b.ds.length ≤ 5000)) ∧ Below W.heap.size W w' from ⟨_, h.1, dnB_iff, h.2⟩))
  clear h hz
  go_enter Try.func17, Try.ntmps17
  have k0 := F0.out.box.cell 0 (by simp)
  have k9 := F0.out.box.cell 9 (by simp)
  have k10 := F0.out.box.cell 10 (by simp)
  go_wp2_with fail
  refine (H1.out _).mono ?_
  rintro e w' ⟨t1, rfl, ht1, rfl⟩
  cases t1
  · have HV := Lib.hid (brdB_arm (b := b) BrdOk.cl ht1 rfl)
    clear ht1
    go_wp2
    go_ret
    exact ⟨by rw [HV.out]; rfl, F0.out.below⟩
  · have g1 := Lib.hid (ht1.1 rfl)
    clear ht1
    have HS0 : (w.alloc (.cells (bdL b a).toArray 32)).heap.size = w.heap.size + 1 := by simp
    have F2 := F0.out.more ((Below.refl _ (w.alloc (.cells (bdL b a).toArray 32))).alloc (Nat.le_refl _) (.cells #[.int .i64 b.md, .int .i64 b.tk] 3))
    have H2 := (H2.out (w.alloc (.cells (bdL b a).toArray 32))).mono fun e w' h => (show ∃ t, e = .returned (.bool t) ∧ (t = true ↔ ((0 ≤ b.md ∧ b.md ≤ 65535) ∧ (0 ≤ b.tk ∧ b.tk ≤ 65535))) ∧ Fit w w' w.heap.size (bdL b a) from by obtain ⟨t, h1, h2, rfl⟩ := h; exact ⟨t, h1, h2, F2⟩)
    rw [HS0] at H2
    have H2 := Lib.hid H2
    clear HS0 F2
    go_wp2_with fail
    refine H2.out.mono ?_
    rintro e w2 ⟨t2, rfl, ht2, hf2⟩
    have F2 := Lib.hid hf2
    clear hf2 H2
    cases t2
    · have HV := Lib.hid (brdB_arm (b := b) (fun h => (⟨h.md, h.tk⟩ : (0 ≤ b.md ∧ b.md ≤ 65535) ∧ (0 ≤ b.tk ∧ b.tk ≤ 65535))) ht2 rfl)
      clear ht2
      go_wp2
      go_ret
      exact ⟨by rw [HV.out]; rfl, F2.out.below⟩
    · have g2 := Lib.hid (ht2.1 rfl)
      clear ht2 k0 k9 k10 F0
      have k1 := F2.out.box.cell 1 (by simp)
      have k11 := F2.out.box.cell 11 (by simp)
      have k6 := F2.out.box.cell 6 (by simp)
      have k7 := F2.out.box.cell 7 (by simp)
      have k8 := F2.out.box.cell 8 (by simp)
      by_cases g3 : b.ps.length = 8
      rotate_left
      · have d3 : ((b.ps.length : Int) == 8) = false := by simp; omega
        have d3' : (b.ps.length == 8) = false := by simpa using g3
        have HV := Lib.hid (brdB_no (b := b) (fun h => g3 h.p8))
        go_wp2
        go_ret
        exact ⟨by rw [HV.out]; rfl, F2.out.below⟩
      have d3 : ((b.ps.length : Int) == 8) = true := by simp; omega
      have d3' : (b.ps.length == 8) = true := by simpa using g3
      have H3 := H3.out
      rw [g3] at H3
      have H3 := Lib.hid H3
      have g3 := Lib.hid g3
      go_wp2_with fail
      refine (H3.out _ F2.out.below).mono ?_
      rintro e w' ⟨t3, rfl, ht3, rfl⟩
      cases t3
      · have HV := Lib.hid (brdB_arm (b := b) BrdOk.ps ht3 rfl)
        clear ht3
        go_wp2
        go_ret
        exact ⟨by rw [HV.out]; rfl, F2.out.below⟩
      · have g4 := Lib.hid (ht3.1 rfl)
        clear ht3
        by_cases g5 : b.qs.length ≤ 5000
        rotate_left
        · have d5 : decide (5000 < b.qs.length) = true := by simp; omega
          have d5' : decide ((5000 : Int) < (b.qs.length : Int)) = true := by simp; omega
          have HV := Lib.hid (brdB_no (b := b) (fun h => g5 h.q5))
          go_wp2
          go_ret
          exact ⟨by rw [HV.out]; rfl, F2.out.below⟩
        have d5 : decide (5000 < b.qs.length) = false := by simp; omega
        have d5' : decide ((5000 : Int) < (b.qs.length : Int)) = false := by simp; omega
        have g5 := Lib.hid g5
        go_wp2_with fail
        refine (H4.out _ F2.out.below).mono ?_
        rintro e w' ⟨t4, rfl, ht4, rfl⟩
        cases t4
        · have HV := Lib.hid (brdB_arm (b := b) BrdOk.qs ht4 rfl)
          clear ht4
          go_wp2
          go_ret
          exact ⟨by rw [HV.out]; rfl, F2.out.below⟩
        · have g6 := Lib.hid (ht4.1 rfl)
          clear ht4
          go_wp2_with fail
          refine (H5.out _ F2.out.below).mono ?_
          rintro e w3 ⟨t5, rfl, ht5, hb3⟩
          have F3 := Lib.hid (F2.out.more hb3)
          clear hb3 k1 k11 k6 k7 k8
          cases t5
          · have HV := Lib.hid (brdB_arm (b := b) BrdOk.rok ht5 rfl)
            clear ht5
            go_wp2
            go_ret
            exact ⟨by rw [HV.out]; rfl, F3.out.below⟩
          · have g7 := Lib.hid (ht5.1 rfl)
            clear ht5 d3 d3' d5 d5'
            have hall : ∀ q : Prop, (InW (fun W => Below w3.heap.size w3 W) → q) ↔ q := fun q => ⟨fun h => h ⟨_, Below.refl _ _⟩, fun h _ => h⟩
            have HRS := Lib.hid (HAT.out w3 F3.out.below).rs
            have kr := F3.out.box.cell 7 (by simp)
            have k7 : ∀ p : InW (fun W => Below w3.heap.size w3 W), p.W.cell? ⟨w.heap.size, 7, none⟩ = some (.slice a.aR b.rs.length a.cR) := fun p => (F3.out.more p.ok).box.cell 7 (by simp)
            have k9 : ∀ p : InW (fun W => Below w3.heap.size w3 W), p.W.cell? ⟨w.heap.size, 9, none⟩ = some (.int .i64 b.md) := fun p => (F3.out.more p.ok).box.cell 9 (by simp)
            rcases hrl : b.rs.length with _ | m
            · have HID := Lib.hid (show ∀ j (hj : j < b.rs.length), b.rs[j].1 < b.md from fun j hj => absurd hj (by omega))
              have hw1 : wrap64 ((b.rs.length : Int) - 1) = -1 := by rw [hrl]; unfold wrap64; omega
              have hw2 : IntKind.i64.wrap ((b.rs.length : Int) - 1) = -1 := by rw [hrl]; exact (IntWalk.i64_in _ (by omega)).trans (by omega)
              have HRL := Lib.hid hrl
              clear hrl HRS
              go_wp2
              refine wp_region_inW (fun W => Below w3.heap.size w3 W) (by kernel_rfl) (by kernel_rfl) (Below.refl _ _).drew ?_
              repeat (go_big_quiet_step (fail))
              refine wpQuiet_nil ?_
              rintro _ ⟨⟨W4, hW4⟩, rfl⟩
              clear hall k7 k9 kr
              have F4 := Lib.hid (F3.out.more hW4)
              clear hW4
              have k3 := F4.out.box.cell 3 (by simp)
              go_wp2_with fail
              refine (H6.out _ F4.out.below).mono ?_
              rintro e w5 ⟨t6, rfl, ht6, hb5⟩
              have F5 := Lib.hid (F4.out.more hb5)
              clear hb5 k3
              cases t6
              · have HV := Lib.hid (brdB_arm (b := b) BrdOk.ls ht6 rfl)
                clear ht6
                go_wp2
                go_ret
                exact ⟨by rw [HV.out]; rfl, F5.out.below⟩
              · have g8 := Lib.hid (ht6.1 rfl)
                clear ht6
                have k4 := F5.out.box.cell 4 (by simp)
                have k10 := F5.out.box.cell 10 (by simp)
                go_wp2_with fail
                refine (H7.out g2.out.2 _ F5.out.below).mono ?_
                rintro e w6 ⟨t7, rfl, ht7, hb6⟩
                have F6 := Lib.hid (F5.out.more hb6)
                clear hb6 k4 k10
                cases t7
                · have HV := Lib.hid (brdB_arm (b := b) BrdOk.os ht7 rfl)
                  clear ht7
                  go_wp2
                  go_ret
                  exact ⟨by rw [HV.out]; rfl, F6.out.below⟩
                · have g9 := Lib.hid (ht7.1 rfl)
                  clear ht7
                  have k5 := F6.out.box.cell 5 (by simp)
                  have k10 := F6.out.box.cell 10 (by simp)
                  go_wp2_with fail
                  refine (H8.out g2.out.2 _ F6.out.below).mono ?_
                  rintro e w7 ⟨t8, rfl, ht8, hb7⟩
                  have F7 := Lib.hid (F6.out.more hb7)
                  clear hb7 k5 k10
                  cases t8
                  · have HV := Lib.hid (brdB_arm (b := b) BrdOk.ds ht8 rfl)
                    clear ht8
                    go_wp2
                    go_ret
                    exact ⟨by rw [HV.out]; rfl, F7.out.below⟩
                  · have HV := Lib.hid (brdB_yes (b := b) ⟨g1.out, g2.out.1, g2.out.2, g3.out, g4.out, g5.out, g6.out, g7.out, HID.out, g8.out, g9.out, ht8.1 rfl⟩)
                    go_wp2
                    go_ret
                    exact ⟨by rw [HV.out]; rfl, F7.out.below⟩
            · have hm : m < b.rs.length := by omega
              have HRB := Lib.hid (show (-1 : Int) = -1 from rfl)
              have HX := Lib.hid (show (b.rs[m]'hm).1 < b.md ↔ ∀ j (hj : j < b.rs.length), b.rs[j].1 < b.md from ids_iff g7.out.2.1 hrl)
              have hml : m < 2000000 := by have := HZ.out.rs; omega
              obtain ⟨bb, off, har, hbb, hcl⟩ := rcCellsI (b := 0) (off := 0) HRS.out (by omega)
              have hc0 := (hcl m hm).1
              clear hcl HRS
              rw [har] at k7 kr
              have e0 : ∀ p : InW (fun W => Below w3.heap.size w3 W), p.W.cell? ⟨bb, off + m * 4, none⟩ = some (.int .i64 b.rs[m].1) := fun p => (p.ok.cell (p := ⟨bb, off + m * 4, none⟩) hbb).trans hc0
              have hw1 : wrap64 ((b.rs.length : Int) - 1) = (m : Int) := by rw [hrl]; unfold wrap64; omega
              have hw2 : IntKind.i64.wrap ((b.rs.length : Int) - 1) = (m : Int) := by rw [hrl]; exact (IntWalk.i64_in _ (by omega)).trans (by omega)
              have HAR := Lib.hid har
              have HRL := Lib.hid hrl
              clear hc0 har hrl
              by_cases g : b.rs[m].1 < b.md
              · have dg : decide (b.md ≤ b.rs[m].1) = false := by simp; omega
                have HID := Lib.hid (HX.out.1 g)
                clear g HX
                generalize b.rs[m].1 = y at *
                go_wp2
                refine wp_region_inW (fun W => Below w3.heap.size w3 W) (by kernel_rfl) (by kernel_rfl) (Below.refl _ _).drew ?_
                repeat (go_big_quiet_step (fail))
                refine wpQuiet_nil ?_
                rintro _ ⟨⟨W4, hW4⟩, rfl⟩
                clear e0
                clear hall k7 k9 kr
                have F4 := Lib.hid (F3.out.more hW4)
                clear hW4
                have k3 := F4.out.box.cell 3 (by simp)
                go_wp2_with fail
                refine (H6.out _ F4.out.below).mono ?_
                rintro e w5 ⟨t6, rfl, ht6, hb5⟩
                have F5 := Lib.hid (F4.out.more hb5)
                clear hb5 k3
                cases t6
                · have HV := Lib.hid (brdB_arm (b := b) BrdOk.ls ht6 rfl)
                  clear ht6
                  go_wp2
                  go_ret
                  exact ⟨by rw [HV.out]; rfl, F5.out.below⟩
                · have g8 := Lib.hid (ht6.1 rfl)
                  clear ht6
                  have k4 := F5.out.box.cell 4 (by simp)
                  have k10 := F5.out.box.cell 10 (by simp)
                  go_wp2_with fail
                  refine (H7.out g2.out.2 _ F5.out.below).mono ?_
                  rintro e w6 ⟨t7, rfl, ht7, hb6⟩
                  have F6 := Lib.hid (F5.out.more hb6)
                  clear hb6 k4 k10
                  cases t7
                  · have HV := Lib.hid (brdB_arm (b := b) BrdOk.os ht7 rfl)
                    clear ht7
                    go_wp2
                    go_ret
                    exact ⟨by rw [HV.out]; rfl, F6.out.below⟩
                  · have g9 := Lib.hid (ht7.1 rfl)
                    clear ht7
                    have k5 := F6.out.box.cell 5 (by simp)
                    have k10 := F6.out.box.cell 10 (by simp)
                    go_wp2_with fail
                    refine (H8.out g2.out.2 _ F6.out.below).mono ?_
                    rintro e w7 ⟨t8, rfl, ht8, hb7⟩
                    have F7 := Lib.hid (F6.out.more hb7)
                    clear hb7 k5 k10
                    cases t8
                    · have HV := Lib.hid (brdB_arm (b := b) BrdOk.ds ht8 rfl)
                      clear ht8
                      go_wp2
                      go_ret
                      exact ⟨by rw [HV.out]; rfl, F7.out.below⟩
                    · have HV := Lib.hid (brdB_yes (b := b) ⟨g1.out, g2.out.1, g2.out.2, g3.out, g4.out, g5.out, g6.out, g7.out, HID.out, g8.out, g9.out, ht8.1 rfl⟩)
                      go_wp2
                      go_ret
                      exact ⟨by rw [HV.out]; rfl, F7.out.below⟩
              · have dg : decide (b.md ≤ b.rs[m].1) = true := by simp; omega
                have HV := Lib.hid (brdB_no (b := b) (fun h => g (HX.out.2 h.ids)))
                clear g HX
                generalize b.rs[m].1 = y at *
                go_wp2
                refine wp_region_inW (fun W => Below w3.heap.size w3 W) (by kernel_rfl) (by kernel_rfl) (Below.refl _ _).drew ?_
                repeat (go_big_quiet_step (fail))
                refine wpQuiet_nil ?_
                rintro _ ⟨⟨W4, hW4⟩, rfl⟩
                have F4 := Lib.hid (F3.out.more hW4)
                clear hW4 e0 k7 k9 hall
                go_wp2
                go_ret
                exact ⟨by rw [HV.out]; rfl, F4.out.below⟩
end Go.Proofs.Ytckofkdeedbbgaa
