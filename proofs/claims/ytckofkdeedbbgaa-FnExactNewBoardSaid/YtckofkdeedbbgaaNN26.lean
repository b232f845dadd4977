/- What this text proves: the parts NbI of the proof, each under its own words. -/
import Derived.Test.YtckofkdeedbbgaaNN20
import Derived.Test.YtckofkdeedbbgaaNN25
import Derived.Deep.Cut
import Derived.Deep.CutRange
import Derived.Deep.RegionLaw
/- What this text proves: the contract of the program's NewBoard. -/
namespace Go.Proofs.Ytckofkdeedbbgaa
open Go.ChangeShapes Go.WideShapes Go.ChangeAt Go.RowKit
set_option linter.unusedVariables false

set_option maxRecDepth 20000 in
set_option maxHeartbeats 8000000 in
theorem nb_impl (r : Int) (A : Option Addr) (ll : List Lm) (c : Nat) (hl : ll.length ≤ 1048576) (w : World) (h : LsI 3 w w.heap.size A (ll.map lmC)) :
    Calls Try.prog 10 #[.int .i64 r, .slice A ll.length c] w (BbEnd w (nbR r ll)) := by
  have hmk := make8
  have HNB := Lib.hid (fun (hb : BrdOk (newB r ll)) => nbR_yes hb)
  have HNN := Lib.hid (fun (hb : ¬ BrdOk (newB r ll)) => nbR_no hb)
  have HSZ := Lib.hid (show BdSz (newB r ll) from ⟨by simp [newB], by show ll.length ≤ _; omega, by simp [newB], by simp [newB], by simp [newB], by simp [newB, totRc], by simp [newB], by simp [newB]⟩)
  have HM8 := Lib.hid (fun W (L : List Thing) (h : St w W L) => h.make8)
  have S1 := Lib.hid (show St w (w.alloc (.cells #[.int .i64 0, .slice none 0 0, .bool false, .slice none 0 0, .slice none 0 0, .slice none 0 0, .int .i64 0, .slice none 0 0, .slice none 0 0, .int .i64 0, .int .i64 0, .slice none 0 0] 32)) [boxT w.heap.size [.int .i64 0, .slice none 0 0, .bool false, .slice none 0 0, .slice none 0 0, .slice none 0 0, .int .i64 0, .slice none 0 0, .slice none 0 0, .int .i64 0, .int .i64 0, .slice none 0 0]] from (St.start w).made [.int .i64 0, .slice none 0 0, .bool false, .slice none 0 0, .slice none 0 0, .slice none 0 0, .int .i64 0, .slice none 0 0, .slice none 0 0, .int .i64 0, .int .i64 0, .slice none 0 0] 32)
  have HCL := Lib.hid (fun W (L : List Thing) (hs : St w W L) => (clone_lms A ll c (by omega) W (h.full hs.below)).mono fun e w' hh => (show ∃ AL cL, e = .returned (.slice AL ll.length cL) ∧ St w w' (lsT 3 (.slice AL ll.length cL) (ll.map lmC) :: L) from by obtain ⟨AL, cL, g1, g2, g3⟩ := hh; exact ⟨AL, cL, g1, hs.add _ g3 (LsO.lower (OwnR.toO g2) (Nat.zero_le _)) (fun k hk => (OwnR.upto g2 k hk).1)⟩))
  have hz9 := Lib.hid (fun (W : World) (o : Obj) => (show (W.alloc o).heap.size = W.heap.size + 1 by simp))
  clear h
  generalize madeCells (Value.int .i64 0).cells 8 = MC at *
  go_enter Try.func10, Try.ntmps10
  go_upto_region 1 with fail
  generalize hw1 : (w.alloc (.cells #[.int .i64 0, .slice none 0 0, .bool false, .slice none 0 0, .slice none 0 0, .slice none 0 0, .int .i64 0, .slice none 0 0, .slice none 0 0, .int .i64 0, .int .i64 0, .slice none 0 0] 32)) = w1 at *
  clear hw1
  go_cut [6] from 7 to 12 (fun s6 wx => ∃ (g gp : Nat) (AL : Option Addr) (cL : Nat), s6 = .pointer (some ⟨g, 0, none⟩) ∧ St w wx [boxT g [.int .i64 0, .slice (some ⟨gp, 0, none⟩) 8 8, .bool false, .slice AL ll.length cL, .slice none 0 0, .slice none 0 0, .int .i64 r, .slice none 0 0, .slice none 0 0, .int .i64 0, .int .i64 0, .slice none 0 0], lsT 1 (.slice (some ⟨gp, 0, none⟩) 8 8) ((List.replicate 8 (0 : Int)).map inC), lsT 3 (.slice AL ll.length cL) (ll.map lmC), boxT w.heap.size [.int .i64 0, .slice none 0 0, .bool false, .slice none 0 0, .slice none 0 0, .slice none 0 0, .int .i64 0, .slice none 0 0, .slice none 0 0, .int .i64 0, .int .i64 0, .slice none 0 0]])
  case first =>
    have Y0 : St w w1.drew [boxT w.heap.size [.int .i64 0, .slice none 0 0, .bool false, .slice none 0 0, .slice none 0 0, .slice none 0 0, .int .i64 0, .slice none 0 0, .slice none 0 0, .int .i64 0, .int .i64 0, .slice none 0 0]] := S1.out.drew
    have Y1 : St w (w1.alloc (.cells MC 3)).drew [lsT 1 (.slice (some ⟨w1.heap.size, 0, none⟩) 8 8) ((List.replicate 8 (0 : Int)).map inC), boxT w.heap.size [.int .i64 0, .slice none 0 0, .bool false, .slice none 0 0, .slice none 0 0, .slice none 0 0, .int .i64 0, .slice none 0 0, .slice none 0 0, .int .i64 0, .int .i64 0, .slice none 0 0]] := (HM8.out _ _ S1.out).drew
    have Y2 : St w (w1.alloc (.cells #[.int .i64 0, .slice none 0 0, .bool false, .slice none 0 0, .slice none 0 0, .slice none 0 0, .int .i64 0, .slice none 0 0, .slice none 0 0, .int .i64 0, .int .i64 0, .slice none 0 0] 32)).drew [boxT w1.heap.size [.int .i64 0, .slice none 0 0, .bool false, .slice none 0 0, .slice none 0 0, .slice none 0 0, .int .i64 0, .slice none 0 0, .slice none 0 0, .int .i64 0, .int .i64 0, .slice none 0 0], boxT w.heap.size [.int .i64 0, .slice none 0 0, .bool false, .slice none 0 0, .slice none 0 0, .slice none 0 0, .int .i64 0, .slice none 0 0, .slice none 0 0, .int .i64 0, .int .i64 0, .slice none 0 0]] := (S1.out.made [.int .i64 0, .slice none 0 0, .bool false, .slice none 0 0, .slice none 0 0, .slice none 0 0, .int .i64 0, .slice none 0 0, .slice none 0 0, .int .i64 0, .int .i64 0, .slice none 0 0] 32).drew
    have Y3 : St w ((w1.alloc (.cells MC 3)).alloc (.cells #[.int .i64 0, .slice none 0 0, .bool false, .slice none 0 0, .slice none 0 0, .slice none 0 0, .int .i64 0, .slice none 0 0, .slice none 0 0, .int .i64 0, .int .i64 0, .slice none 0 0] 32)).drew [boxT (w1.heap.size + 1) [.int .i64 0, .slice none 0 0, .bool false, .slice none 0 0, .slice none 0 0, .slice none 0 0, .int .i64 0, .slice none 0 0, .slice none 0 0, .int .i64 0, .int .i64 0, .slice none 0 0], lsT 1 (.slice (some ⟨w1.heap.size, 0, none⟩) 8 8) ((List.replicate 8 (0 : Int)).map inC), boxT w.heap.size [.int .i64 0, .slice none 0 0, .bool false, .slice none 0 0, .slice none 0 0, .slice none 0 0, .int .i64 0, .slice none 0 0, .slice none 0 0, .int .i64 0, .int .i64 0, .slice none 0 0]] := by have h := ((HM8.out _ _ S1.out).made [.int .i64 0, .slice none 0 0, .bool false, .slice none 0 0, .slice none 0 0, .slice none 0 0, .int .i64 0, .slice none 0 0, .slice none 0 0, .int .i64 0, .int .i64 0, .slice none 0 0] 32).drew; simpa using h
    have Y4 : St w ((w1.alloc (.cells #[.int .i64 0, .slice none 0 0, .bool false, .slice none 0 0, .slice none 0 0, .slice none 0 0, .int .i64 0, .slice none 0 0, .slice none 0 0, .int .i64 0, .int .i64 0, .slice none 0 0] 32)).alloc (.cells MC 3)).drew [lsT 1 (.slice (some ⟨(w1.heap.size + 1), 0, none⟩) 8 8) ((List.replicate 8 (0 : Int)).map inC), boxT w1.heap.size [.int .i64 0, .slice none 0 0, .bool false, .slice none 0 0, .slice none 0 0, .slice none 0 0, .int .i64 0, .slice none 0 0, .slice none 0 0, .int .i64 0, .int .i64 0, .slice none 0 0], boxT w.heap.size [.int .i64 0, .slice none 0 0, .bool false, .slice none 0 0, .slice none 0 0, .slice none 0 0, .int .i64 0, .slice none 0 0, .slice none 0 0, .int .i64 0, .int .i64 0, .slice none 0 0]] := by have h := (HM8.out _ _ (S1.out.made [.int .i64 0, .slice none 0 0, .bool false, .slice none 0 0, .slice none 0 0, .slice none 0 0, .int .i64 0, .slice none 0 0, .slice none 0 0, .int .i64 0, .int .i64 0, .slice none 0 0] 32)).drew; simpa using h
    go_region_law ((go_simp; go_at_call 51; (first | (with_reducible refine (HCL.out _ _ Y0).mono ?_) | (with_reducible refine (HCL.out _ _ Y1).mono ?_) | (with_reducible refine (HCL.out _ _ Y2).mono ?_) | (with_reducible refine (HCL.out _ _ Y3).mono ?_) | (with_reducible refine (HCL.out _ _ Y4).mono ?_)); rintro e wF ⟨AL, cL, rfl, YF⟩; first | (have zb := YF.box 1 _ _ rfl; obtain ⟨z0, z1, z2, z3, z4, z5, z6, z7, z8, z9, z10, z11⟩ := zb.twelve; have zi := zb.ice; have zl := zb.lt) | (have zb := YF.box 2 _ _ rfl; obtain ⟨z0, z1, z2, z3, z4, z5, z6, z7, z8, z9, z10, z11⟩ := zb.twelve; have zi := zb.ice; have zl := zb.lt)))
    all_goals go_wp2_with fail
    all_goals go_meet
    · exact ⟨wF.heap.size, w1.heap.size, AL, cL, rfl, (YF.made [.int .i64 0, .slice (some ⟨w1.heap.size, 0, none⟩) 8 8, .bool false, .slice AL ll.length cL, .slice none 0 0, .slice none 0 0, .int .i64 r, .slice none 0 0, .slice none 0 0, .int .i64 0, .int .i64 0, .slice none 0 0] 32).pick [0, 2, 1, 3] (by decide)⟩
    · exact ⟨w1.heap.size + 1, w1.heap.size, AL, cL, rfl, (YF.setAll 1 _ _ rfl [.int .i64 0, .slice (some ⟨w1.heap.size, 0, none⟩) 8 8, .bool false, .slice AL ll.length cL, .slice none 0 0, .slice none 0 0, .int .i64 r, .slice none 0 0, .slice none 0 0, .int .i64 0, .int .i64 0, .slice none 0 0] rfl).pick [1, 2, 0, 3] (by decide)⟩
    · have hh := (HM8.out _ _ YF).made [.int .i64 0, .slice (some ⟨wF.heap.size, 0, none⟩) 8 8, .bool false, .slice AL ll.length cL, .slice none 0 0, .slice none 0 0, .int .i64 r, .slice none 0 0, .slice none 0 0, .int .i64 0, .int .i64 0, .slice none 0 0] 32
      rw [hz9.out] at hh
      exact ⟨wF.heap.size + 1, wF.heap.size, AL, cL, rfl, hh.pick [0, 1, 2, 3] (by decide)⟩
    · have hh := HM8.out _ _ (YF.made [.int .i64 0, .slice (some ⟨(wF.heap.size + 1), 0, none⟩) 8 8, .bool false, .slice AL ll.length cL, .slice none 0 0, .slice none 0 0, .int .i64 r, .slice none 0 0, .slice none 0 0, .int .i64 0, .int .i64 0, .slice none 0 0] 32)
      rw [hz9.out] at hh
      exact ⟨wF.heap.size, wF.heap.size + 1, AL, cL, rfl, hh.pick [1, 0, 2, 3] (by decide)⟩
    · exact ⟨w1.heap.size, w1.heap.size + 1, AL, cL, rfl, (YF.setAll 2 _ _ rfl [.int .i64 0, .slice (some ⟨(w1.heap.size + 1), 0, none⟩) 8 8, .bool false, .slice AL ll.length cL, .slice none 0 0, .slice none 0 0, .int .i64 r, .slice none 0 0, .slice none 0 0, .int .i64 0, .int .i64 0, .slice none 0 0] rfl).pick [2, 1, 0, 3] (by decide)⟩
    · have hh := HM8.out _ _ (show St w ((((((((((((wF.setCell ⟨w1.heap.size, 0, none⟩ (.int .i64 0)).setCell ⟨w1.heap.size, 1, none⟩ (.slice (some ⟨wF.heap.size, 0, none⟩) 8 8)).setCell ⟨w1.heap.size, 2, none⟩ (.bool false)).setCell ⟨w1.heap.size, 3, none⟩ (.slice AL ll.length cL)).setCell ⟨w1.heap.size, 4, none⟩ (.slice none 0 0)).setCell ⟨w1.heap.size, 5, none⟩ (.slice none 0 0)).setCell ⟨w1.heap.size, 6, none⟩ (.int .i64 r)).setCell ⟨w1.heap.size, 7, none⟩ (.slice none 0 0)).setCell ⟨w1.heap.size, 8, none⟩ (.slice none 0 0)).setCell ⟨w1.heap.size, 9, none⟩ (.int .i64 0)).setCell ⟨w1.heap.size, 10, none⟩ (.int .i64 0)).setCell ⟨w1.heap.size, 11, none⟩ (.slice none 0 0)) _ from YF.setAll 1 _ _ rfl [.int .i64 0, .slice (some ⟨wF.heap.size, 0, none⟩) 8 8, .bool false, .slice AL ll.length cL, .slice none 0 0, .slice none 0 0, .int .i64 r, .slice none 0 0, .slice none 0 0, .int .i64 0, .int .i64 0, .slice none 0 0] rfl)
      have hs : ((((((((((((wF.setCell ⟨w1.heap.size, 0, none⟩ (.int .i64 0)).setCell ⟨w1.heap.size, 1, none⟩ (.slice (some ⟨wF.heap.size, 0, none⟩) 8 8)).setCell ⟨w1.heap.size, 2, none⟩ (.bool false)).setCell ⟨w1.heap.size, 3, none⟩ (.slice AL ll.length cL)).setCell ⟨w1.heap.size, 4, none⟩ (.slice none 0 0)).setCell ⟨w1.heap.size, 5, none⟩ (.slice none 0 0)).setCell ⟨w1.heap.size, 6, none⟩ (.int .i64 r)).setCell ⟨w1.heap.size, 7, none⟩ (.slice none 0 0)).setCell ⟨w1.heap.size, 8, none⟩ (.slice none 0 0)).setCell ⟨w1.heap.size, 9, none⟩ (.int .i64 0)).setCell ⟨w1.heap.size, 10, none⟩ (.int .i64 0)).setCell ⟨w1.heap.size, 11, none⟩ (.slice none 0 0)).heap.size = wF.heap.size := by simp
      rw [hs] at hh
      exact ⟨w1.heap.size, wF.heap.size, AL, cL, rfl, hh.pick [2, 0, 1, 3] (by decide)⟩
  case rest =>
    obtain ⟨g, gp, AL, cL, rfl, hT⟩ := hcut
    generalize wc = w2 at *
    have S2 := Lib.hid hT
    clear hT S1 HM8 hmk hz9 HCL
    have hB := newB_P S2.out r 1 2 rfl rfl (by decide)
    have HB := Lib.hid (show Calls Try.prog 17 #[.agg #[.int .i64 0, .slice (some ⟨gp, 0, none⟩) 8 8, .bool false, .slice AL ll.length cL, .slice none 0 0, .slice none 0 0, .int .i64 r, .slice none 0 0, .slice none 0 0, .int .i64 0, .int .i64 0, .slice none 0 0]] w2 (fun e w' => e = .returned (.bool (brdB (newB r ll))) ∧ Below w2.heap.size w2 w') from board_impl (newB r ll) (bdAn gp AL cL) HSZ.out w2 hB.2.2)
    clear hB HSZ
    obtain ⟨k0, k1, k2, k3, k4, k5, k6, k7, k8, k9, k10, k11⟩ := (S2.out.box 0 _ _ rfl).twelve
    have ki := (S2.out.box 0 _ _ rfl).ice
    have kl := (S2.out.box 0 _ _ rfl).lt
    go_wp2_with fail
    refine HB.out.mono ?_
    rintro e w3 ⟨rfl, hb⟩
    have S3 := Lib.hid (S2.out.more hb)
    clear hb HB S2 k0 k1 k2 k3 k4 k5 k6 k7 k8 k9 k10 k11 ki kl
    obtain ⟨k0, k1, k2, k3, k4, k5, k6, k7, k8, k9, k10, k11⟩ := (S3.out.box 0 _ _ rfl).twelve
    have ki := (S3.out.box 0 _ _ rfl).ice
    have kl := (S3.out.box 0 _ _ rfl).lt
    obtain ⟨z0, z1, z2, z3, z4, z5, z6, z7, z8, z9, z10, z11⟩ := (S3.out.box 3 _ _ rfl).twelve
    have zi := (S3.out.box 3 _ _ rfl).ice
    have zl := (S3.out.box 3 _ _ rfl).lt
    by_cases hok : BrdOk (newB r ll)
    · rw [brdB_yes hok]
      have HK := Lib.hid (HNB.out hok)
      clear hok HNB HNN
      have S4 := Lib.hid (show St w ((((((((((((w3.setCell ⟨w.heap.size, 0, none⟩ (.int .i64 0)).setCell ⟨w.heap.size, 1, none⟩ (.slice (some ⟨gp, 0, none⟩) 8 8)).setCell ⟨w.heap.size, 2, none⟩ (.bool false)).setCell ⟨w.heap.size, 3, none⟩ (.slice AL ll.length cL)).setCell ⟨w.heap.size, 4, none⟩ (.slice none 0 0)).setCell ⟨w.heap.size, 5, none⟩ (.slice none 0 0)).setCell ⟨w.heap.size, 6, none⟩ (.int .i64 r)).setCell ⟨w.heap.size, 7, none⟩ (.slice none 0 0)).setCell ⟨w.heap.size, 8, none⟩ (.slice none 0 0)).setCell ⟨w.heap.size, 9, none⟩ (.int .i64 0)).setCell ⟨w.heap.size, 10, none⟩ (.int .i64 0)).setCell ⟨w.heap.size, 11, none⟩ (.slice none 0 0)) _ from S3.out.setAll 3 _ _ rfl [.int .i64 0, .slice (some ⟨gp, 0, none⟩) 8 8, .bool false, .slice AL ll.length cL, .slice none 0 0, .slice none 0 0, .int .i64 r, .slice none 0 0, .slice none 0 0, .int .i64 0, .int .i64 0, .slice none 0 0] rfl)
      go_wp2
      show bodyPost Try.prog Try.f10 _ Exit.ret _ ((((((((((((w3.setCell ⟨w.heap.size, 0, none⟩ (.int .i64 0)).setCell ⟨w.heap.size, 1, none⟩ (.slice (some ⟨gp, 0, none⟩) 8 8)).setCell ⟨w.heap.size, 2, none⟩ (.bool false)).setCell ⟨w.heap.size, 3, none⟩ (.slice AL ll.length cL)).setCell ⟨w.heap.size, 4, none⟩ (.slice none 0 0)).setCell ⟨w.heap.size, 5, none⟩ (.slice none 0 0)).setCell ⟨w.heap.size, 6, none⟩ (.int .i64 r)).setCell ⟨w.heap.size, 7, none⟩ (.slice none 0 0)).setCell ⟨w.heap.size, 8, none⟩ (.slice none 0 0)).setCell ⟨w.heap.size, 9, none⟩ (.int .i64 0)).setCell ⟨w.heap.size, 10, none⟩ (.int .i64 0)).setCell ⟨w.heap.size, 11, none⟩ (.slice none 0 0))
      generalize ((((((((((((w3.setCell ⟨w.heap.size, 0, none⟩ (.int .i64 0)).setCell ⟨w.heap.size, 1, none⟩ (.slice (some ⟨gp, 0, none⟩) 8 8)).setCell ⟨w.heap.size, 2, none⟩ (.bool false)).setCell ⟨w.heap.size, 3, none⟩ (.slice AL ll.length cL)).setCell ⟨w.heap.size, 4, none⟩ (.slice none 0 0)).setCell ⟨w.heap.size, 5, none⟩ (.slice none 0 0)).setCell ⟨w.heap.size, 6, none⟩ (.int .i64 r)).setCell ⟨w.heap.size, 7, none⟩ (.slice none 0 0)).setCell ⟨w.heap.size, 8, none⟩ (.slice none 0 0)).setCell ⟨w.heap.size, 9, none⟩ (.int .i64 0)).setCell ⟨w.heap.size, 10, none⟩ (.int .i64 0)).setCell ⟨w.heap.size, 11, none⟩ (.slice none 0 0)) = WE at *
      obtain ⟨y0, y1, y2, y3, y4, y5, y6, y7, y8, y9, y10, y11⟩ := (S4.out.box 3 _ _ rfl).twelve
      refine bodyPost_ret_by (v := .tuple #[.agg #[.int .i64 0, .slice (some ⟨gp, 0, none⟩) 8 8, .bool false, .slice AL ll.length cL, .slice none 0 0, .slice none 0 0, .int .i64 r, .slice none 0 0, .slice none 0 0, .int .i64 0, .int .i64 0, .slice none 0 0], .bool true]) ?_ rfl ?_
      · simp [results, Try.f10, go_sem, y0, y1, y2, y3, y4, y5, y6, y7, y8, y9, y10, y11]
      · rw [HK.out]
        have hB := newB_P S4.out r 1 2 rfl rfl (by decide)
        exact ⟨_, rfl, hB.1, hB.2.1, S4.out.below⟩
    · rw [brdB_no hok]
      have HK := Lib.hid (HNN.out hok)
      clear hok HNB HNN
      have S4 := Lib.hid (show St w ((((((((((((w3.setCell ⟨w.heap.size, 0, none⟩ (.int .i64 0)).setCell ⟨w.heap.size, 1, none⟩ (.slice none 0 0)).setCell ⟨w.heap.size, 2, none⟩ (.bool false)).setCell ⟨w.heap.size, 3, none⟩ (.slice none 0 0)).setCell ⟨w.heap.size, 4, none⟩ (.slice none 0 0)).setCell ⟨w.heap.size, 5, none⟩ (.slice none 0 0)).setCell ⟨w.heap.size, 6, none⟩ (.int .i64 0)).setCell ⟨w.heap.size, 7, none⟩ (.slice none 0 0)).setCell ⟨w.heap.size, 8, none⟩ (.slice none 0 0)).setCell ⟨w.heap.size, 9, none⟩ (.int .i64 0)).setCell ⟨w.heap.size, 10, none⟩ (.int .i64 0)).setCell ⟨w.heap.size, 11, none⟩ (.slice none 0 0)) _ from S3.out.setAll 3 _ _ rfl [.int .i64 0, .slice none 0 0, .bool false, .slice none 0 0, .slice none 0 0, .slice none 0 0, .int .i64 0, .slice none 0 0, .slice none 0 0, .int .i64 0, .int .i64 0, .slice none 0 0] rfl)
      go_wp2
      show bodyPost Try.prog Try.f10 _ Exit.ret _ ((((((((((((w3.setCell ⟨w.heap.size, 0, none⟩ (.int .i64 0)).setCell ⟨w.heap.size, 1, none⟩ (.slice none 0 0)).setCell ⟨w.heap.size, 2, none⟩ (.bool false)).setCell ⟨w.heap.size, 3, none⟩ (.slice none 0 0)).setCell ⟨w.heap.size, 4, none⟩ (.slice none 0 0)).setCell ⟨w.heap.size, 5, none⟩ (.slice none 0 0)).setCell ⟨w.heap.size, 6, none⟩ (.int .i64 0)).setCell ⟨w.heap.size, 7, none⟩ (.slice none 0 0)).setCell ⟨w.heap.size, 8, none⟩ (.slice none 0 0)).setCell ⟨w.heap.size, 9, none⟩ (.int .i64 0)).setCell ⟨w.heap.size, 10, none⟩ (.int .i64 0)).setCell ⟨w.heap.size, 11, none⟩ (.slice none 0 0))
      generalize ((((((((((((w3.setCell ⟨w.heap.size, 0, none⟩ (.int .i64 0)).setCell ⟨w.heap.size, 1, none⟩ (.slice none 0 0)).setCell ⟨w.heap.size, 2, none⟩ (.bool false)).setCell ⟨w.heap.size, 3, none⟩ (.slice none 0 0)).setCell ⟨w.heap.size, 4, none⟩ (.slice none 0 0)).setCell ⟨w.heap.size, 5, none⟩ (.slice none 0 0)).setCell ⟨w.heap.size, 6, none⟩ (.int .i64 0)).setCell ⟨w.heap.size, 7, none⟩ (.slice none 0 0)).setCell ⟨w.heap.size, 8, none⟩ (.slice none 0 0)).setCell ⟨w.heap.size, 9, none⟩ (.int .i64 0)).setCell ⟨w.heap.size, 10, none⟩ (.int .i64 0)).setCell ⟨w.heap.size, 11, none⟩ (.slice none 0 0)) = WE at *
      obtain ⟨y0, y1, y2, y3, y4, y5, y6, y7, y8, y9, y10, y11⟩ := (S4.out.box 3 _ _ rfl).twelve
      refine bodyPost_ret_by (v := .tuple #[.agg #[.int .i64 0, .slice none 0 0, .bool false, .slice none 0 0, .slice none 0 0, .slice none 0 0, .int .i64 0, .slice none 0 0, .slice none 0 0, .int .i64 0, .int .i64 0, .slice none 0 0], .bool false]) ?_ rfl ?_
      · simp [results, Try.f10, go_sem, y0, y1, y2, y3, y4, y5, y6, y7, y8, y9, y10, y11]
      · rw [HK.out]
        exact ⟨_, rfl, bd0_P _, fun k hk => absurd hk (bd0_F k), S4.out.below⟩
end Go.Proofs.Ytckofkdeedbbgaa
