/- What this text proves: the contracts of the program's and the model's AddPair. -/
import Derived.Test.YtggfmimnmpanbaaDoorPok
import Derived.Test.YtggfmimnmpanbaaDoorPrC
import Derived.Test.YtggfmimnmpanbaaDoorPrU
import Derived.Test.YtggfmimnmpanbaaDoorStPr
import Derived.Deep.Cut
import Derived.Deep.CutRange
import Derived.Deep.RegionLaw
namespace Go.Proofs.YtggfmimnmpanbaaDoor
open Go.ChangeShapes Go.WideShapes Go.ChangeAt Go.RowKit
set_option linter.unusedVariables false

theorem rowP_form {w W : World} {L : List Thing} (h : St w W L) (i : Nat) {v : Value} {l : List Pr} (e : L[i]? = some (rowT 32 2 v (l.map prC))) : (prT v l).P W ∧ (∀ k, (prT v l).F k → w.heap.size ≤ k) :=
  ⟨OwnR.toO (h.row i _ _ _ _ e), fun k hk => h.nthPast i (rowT 32 2 v (l.map prC)) e k hk⟩
abbrev bxP (x y : Int) : Obj := .cells #[.int .i64 x, .int .i64 y] 32
set_option maxRecDepth 20000 in
set_option maxHeartbeats 4000000 in
theorem adp_impl (A : Option Addr) (l : List Pr) (c : Nat) (x y : Int) (hl : l.length ≤ 1050000) (w : World) (hv : Bfr w) (h : LsI 2 w w.heap.size A (l.map prC)) :
    Calls Tryd.prog 12 #[.slice A l.length c, prV x y] w (Gives w fun v => prT v (addP l (x, y))) := by
  obtain ⟨L2, hL2⟩ : ∃ L2, l ++ [(x, y)] = L2 := ⟨_, rfl⟩
  have hlen : L2.length = l.length + 1 := by rw [← hL2]; simp
  have hap : addP l (x, y) = if PrsOk L2 then L2 else l := by unfold addP; rw [hL2]
  have HCL := Lib.hid (fun W L (hs : St w W L) => (clone_prs A l c (by omega) W (h.full hs.below)).mono fun e w' hh => (show ∃ A1 c1, e = .returned (.slice A1 l.length c1) ∧ St w w' (rowT 32 2 (.slice A1 l.length c1) (l.map prC) :: L) from by
    obtain ⟨A1, c1, g1, g2, g3⟩ := hh
    exact ⟨A1, c1, g1, hs.add (rowT 32 2 (.slice A1 l.length c1) (l.map prC)) g3 (OwnR.lower g2 (Nat.zero_le _)) (fun k hk => (OwnR.upto g2 k hk).1)⟩))
  have HPK := Lib.hid (fun A' n' c' W (hb : Below w.heap.size w W) (hn : n' = L2.length) (g : LsI 2 W W.heap.size A' (L2.map prC)) => (show Calls Tryd.prog 17 #[.slice A' n' c'] W (fun e w' => e = .returned (.bool (decide (PrsOk L2))) ∧ Below W.heap.size W w') from by
    subst hn
    exact pok_impl A' L2 c' (by omega) W (hv.moreAt hv.lt hb hb.size) g))
  have S1 := Lib.hid ((St.start w).made (prL x y) 32)
  clear h
  go_enter Tryd.func12, Tryd.ntmps12
  go_upto_region 1 with fail
  obtain ⟨w1, hw1⟩ : ∃ w1, w.alloc (bxP x y) = w1 := ⟨_, rfl⟩
  simp only [bxP] at hw1
  rw [hw1]
  have S2 := Lib.hid (show St w w1 [boxT w.heap.size (prL x y)] from by rw [← hw1]; exact S1.out)
  clear S1 hw1
  go_cut [5] from 6 to 10 (fun s5 wx => ∃ A' n' c', s5 = .slice A' n' c' ∧ n' = L2.length ∧ St w wx [rowT 32 2 (.slice A' n' c') (L2.map prC), boxT w.heap.size (prL x y)])
  case first =>
    have Y0 : St w w1.drew [boxT w.heap.size (prL x y)] := S2.out.drew
    have Y1 : St w (w1.alloc (.cells #[.int .i64 x, .int .i64 y] 32)).drew [boxT w1.heap.size (prL x y), boxT w.heap.size (prL x y)] := (S2.out.made (prL x y) 32).drew
    have k0 := (S2.out.box 0 _ _ rfl).cell 0 (by simp)
    have k1 := (S2.out.box 0 _ _ rfl).cell 1 (by simp)
    have kl := (S2.out.box 0 _ _ rfl).lt
    go_region_law (first
      | (refine step_prs (YF.made (prL x y) 32) 1 _ l rfl rfl _ _ rfl rfl (some ⟨wF.heap.size, 0, none⟩) [(x, y)] 1 rfl (rowsAt_box ((YF.made (prL x y) 32).box 0 _ _ rfl)) (by simp; omega) ?_; intro A2 n2 c2 w2 hn2 Y2; have HN2 := Lib.hid hn2; clear hn2)
      | (refine step_prs YF 0 _ l rfl rfl _ _ rfl rfl (some ⟨w1.heap.size, 0, none⟩) [(x, y)] 1 rfl (rowsAt_box (YF.box 1 _ _ rfl)) (by simp; omega) ?_; intro A2 n2 c2 w2 hn2 Y2; have HN2 := Lib.hid hn2; clear hn2)
      | (go_simp; go_at_call 31; (first | (with_reducible refine (HCL.out _ _ Y0).mono ?_) | (with_reducible refine (HCL.out _ _ Y1).mono ?_)); rintro e wF ⟨A1, c1, rfl, YF⟩; have z0 := (YF.box 1 _ _ rfl).cell 0 (by simp); have z1 := (YF.box 1 _ _ rfl).cell 1 (by simp)))
    all_goals go_wp2_with fail
    all_goals go_meet
    all_goals rw [hL2] at Y2
    all_goals have hn2 : n2 = L2.length := by rw [← hL2]; exact HN2.out
    all_goals (first | exact ⟨A2, n2, c2, rfl, hn2, Y2.pick [1, 2] (by decide)⟩ | exact ⟨A2, n2, c2, rfl, hn2, Y2.pick [0, 2] (by decide)⟩)
  case rest =>
    obtain ⟨A', n', c', rfl, hn', hT⟩ := hcut
    generalize wc = w3 at *
    have HN' := Lib.hid hn'
    have S3 := Lib.hid hT
    clear hn' hT S2
    by_cases hok : PrsOk L2
    · rw [if_pos hok] at hap
      have HAP := Lib.hid hap
      have hPK := HPK.out A' n' c' w3 S3.out.below HN'.out (LsO.ats (OwnR.toO (S3.out.row 0 _ _ _ _ rfl)))
      rw [decide_eq_true hok] at hPK
      have HPC := Lib.hid hPK
      clear hPK HPK HCL hap hok
      go_wp2_with fail
      refine HPC.out.mono ?_
      rintro e w4 ⟨rfl, hb⟩
      have S4 := Lib.hid (S3.out.more hb)
      clear hb HPC S3
      go_wp2
      go_ret
      exact ⟨_, rfl, by rw [HAP.out]; exact (rowP_form S4.out 0 rfl).1, by rw [HAP.out]; exact (rowP_form S4.out 0 rfl).2, S4.out.below⟩
    · rw [if_neg hok] at hap
      have HAP := Lib.hid hap
      have hPK := HPK.out A' n' c' w3 S3.out.below HN'.out (LsO.ats (OwnR.toO (S3.out.row 0 _ _ _ _ rfl)))
      rw [decide_eq_false hok] at hPK
      have HPC := Lib.hid hPK
      clear hPK HPK hap hok
      go_wp2_with fail
      refine HPC.out.mono ?_
      rintro e w4 ⟨rfl, hb⟩
      have S4 := Lib.hid (S3.out.more hb)
      clear hb HPC S3
      go_wp2_with fail
      refine (HCL.out _ _ S4.out).mono ?_
      rintro e w5 ⟨A1, c1, rfl, h5⟩
      have S5 := Lib.hid h5
      clear h5 S4
      go_wp2
      go_ret
      exact ⟨_, rfl, by rw [HAP.out]; exact (rowP_form S5.out 0 rfl).1, by rw [HAP.out]; exact (rowP_form S5.out 0 rfl).2, S5.out.below⟩

set_option maxRecDepth 20000 in
set_option maxHeartbeats 4000000 in
theorem adp_spec (A : Option Addr) (l : List Pr) (c : Nat) (x y : Int) (hl : l.length ≤ 1050000) (w : World) (h : LsI 2 w w.heap.size A (l.map prC)) :
    Calls Tryd.prog 22 #[.slice A l.length c, prV x y] w (Gives w fun v => prT v (addP l (x, y))) := by
  obtain ⟨L2, hL2⟩ : ∃ L2, l ++ [(x, y)] = L2 := ⟨_, rfl⟩
  have hlen : L2.length = l.length + 1 := by rw [← hL2]; simp
  have hap : addP l (x, y) = if PrsOk L2 then L2 else l := by unfold addP; rw [hL2]
  have HR := Lib.hid (fun W (hb : Below w.heap.size w W) => (h.more hb).rows (pr_len l))
  have HPK := Lib.hid (fun A' n' c' W (hb : Below w.heap.size w W) (hn : n' = L2.length) (g : LsI 2 W W.heap.size A' (L2.map prC)) => (show Calls Tryd.prog 19 #[.slice A' n' c'] W (fun e w' => e = .returned (.bool (decide (PrsOk L2))) ∧ Below W.heap.size W w') from by
    subst hn
    exact pok_spec A' L2 c' (by omega) W g))
  have S1 := Lib.hid ((St.start w).made (prL x y) 32)
  clear h
  go_enter Tryd.func22, Tryd.ntmps22
  go_upto_region 1 with fail
  obtain ⟨w1, hw1⟩ : ∃ w1, w.alloc (bxP x y) = w1 := ⟨_, rfl⟩
  simp only [bxP] at hw1
  rw [hw1]
  have S2 := Lib.hid (show St w w1 [boxT w.heap.size (prL x y)] from by rw [← hw1]; exact S1.out)
  clear S1 hw1
  go_cut [5] from 6 to 11 (fun s5 wx => ∃ A' n' c', s5 = .slice A' n' c' ∧ n' = L2.length ∧ St w wx [rowT 32 2 (.slice A' n' c') (L2.map prC), boxT w.heap.size (prL x y)])
  case first =>
    have Y1 : St w (w1.alloc (.cells #[] 32)).drew [rowT 32 2 (.slice (some ⟨w1.heap.size, 0, none⟩) 0 0) (([] : List Pr).map prC), boxT w.heap.size (prL x y)] := (S2.out.lit 32 2).drew
    have Y2 : St w ((w1.alloc (.cells #[] 32)).alloc (.cells #[.int .i64 x, .int .i64 y] 32)).drew [boxT (w1.heap.size + 1) (prL x y), rowT 32 2 (.slice (some ⟨w1.heap.size, 0, none⟩) 0 0) (([] : List Pr).map prC), boxT w.heap.size (prL x y)] := by
      have hh := ((S2.out.lit 32 2).made (prL x y) 32).drew
      simpa using hh
    have Y3 : St w ((w1.alloc (.cells #[.int .i64 x, .int .i64 y] 32)).alloc (.cells #[] 32)).drew [rowT 32 2 (.slice (some ⟨w1.heap.size + 1, 0, none⟩) 0 0) (([] : List Pr).map prC), boxT w1.heap.size (prL x y), boxT w.heap.size (prL x y)] := by
      have hh := ((S2.out.made (prL x y) 32).lit 32 2).drew
      simpa using hh
    have k0 := (S2.out.box 0 _ _ rfl).cell 0 (by simp)
    have k1 := (S2.out.box 0 _ _ rfl).cell 1 (by simp)
    have kl := (S2.out.box 0 _ _ rfl).lt
    go_region_law (first
      | (refine step_prs (SA.made (prL x y) 32) 1 _ ([] ++ l) rfl rfl _ _ rfl rfl (some ⟨wa.heap.size, 0, none⟩) [(x, y)] 1 rfl (rowsAt_box ((SA.made (prL x y) 32).box 0 _ _ rfl)) (by simp; omega) ?_; intro A2 n2 c2 w2 hn2 S9; have HN2 := Lib.hid hn2; clear hn2)
      | (refine step_prs SA 1 _ ([] ++ l) rfl rfl _ _ rfl rfl (some ⟨w1.heap.size + 1, 0, none⟩) [(x, y)] 1 rfl (rowsAt_box (SA.box 0 _ _ rfl)) (by simp; omega) ?_; intro A2 n2 c2 w2 hn2 S9; have HN2 := Lib.hid hn2; clear hn2)
      | (refine step_prs SA 0 _ ([] ++ l) rfl rfl _ _ rfl rfl (some ⟨w1.heap.size, 0, none⟩) [(x, y)] 1 rfl (rowsAt_box (SA.box 1 _ _ rfl)) (by simp; omega) ?_; intro A2 n2 c2 w2 hn2 S9; have HN2 := Lib.hid hn2; clear hn2)
      | (refine step_prs Y1 0 _ [] rfl rfl _ _ rfl rfl A l c rfl (HR.out _ Y1.below) (by simp; omega) ?_; intro A1 n1 c1 wa hn1 SA; have HN1 := Lib.hid hn1; clear hn1; have z0 := (SA.box 1 _ _ rfl).cell 0 (by simp); have z1 := (SA.box 1 _ _ rfl).cell 1 (by simp))
      | (refine step_prs Y2 1 _ [] rfl rfl _ _ rfl rfl A l c rfl (HR.out _ Y2.below) (by simp; omega) ?_; intro A1 n1 c1 wa hn1 SA; have HN1 := Lib.hid hn1; clear hn1)
      | (refine step_prs Y3 0 _ [] rfl rfl _ _ rfl rfl A l c rfl (HR.out _ Y3.below) (by simp; omega) ?_; intro A1 n1 c1 wa hn1 SA; have HN1 := Lib.hid hn1; clear hn1))
    all_goals go_wp2_with fail
    all_goals go_meet
    all_goals rw [List.nil_append, hL2] at S9
    all_goals have hn2 : n2 = L2.length := by rw [← hL2]; exact HN2.out
    all_goals (first | exact ⟨A2, n2, c2, rfl, hn2, S9.pick [1, 2] (by decide)⟩ | exact ⟨A2, n2, c2, rfl, hn2, S9.pick [0, 2] (by decide)⟩)
  case rest =>
    obtain ⟨A', n', c', rfl, hn', hT⟩ := hcut
    generalize wc = w3 at *
    have HN' := Lib.hid hn'
    have S3 := Lib.hid hT
    clear hn' hT S2
    by_cases hok : PrsOk L2
    · rw [if_pos hok] at hap
      have HAP := Lib.hid hap
      have hPK := HPK.out A' n' c' w3 S3.out.below HN'.out (LsO.ats (OwnR.toO (S3.out.row 0 _ _ _ _ rfl)))
      rw [decide_eq_true hok] at hPK
      have HPC := Lib.hid hPK
      clear hPK HPK hap hok
      go_wp2_with fail
      refine HPC.out.mono ?_
      rintro e w4 ⟨rfl, hb⟩
      have S4 := Lib.hid (S3.out.more hb)
      clear hb HPC S3
      go_wp2
      go_ret
      exact ⟨_, rfl, by rw [HAP.out]; exact (rowP_form S4.out 0 rfl).1, by rw [HAP.out]; exact (rowP_form S4.out 0 rfl).2, S4.out.below⟩
    · rw [if_neg hok] at hap
      have HAP := Lib.hid hap
      have hPK := HPK.out A' n' c' w3 S3.out.below HN'.out (LsO.ats (OwnR.toO (S3.out.row 0 _ _ _ _ rfl)))
      rw [decide_eq_false hok] at hPK
      have HPC := Lib.hid hPK
      clear hPK HPK hap hok
      go_wp2_with fail
      refine HPC.out.mono ?_
      rintro e w4 ⟨rfl, hb⟩
      have S4 := Lib.hid ((S3.out.more hb).lit 32 2)
      have RA := Lib.hid (HR.out _ S4.out.below)
      clear hb HPC S3
      go_wp2_with (at_builtin; go_loud (refine app_prs S4.out 0 _ [] rfl rfl _ _ rfl rfl A l c rfl RA.out (by simp; omega) ?_))
      intro A1 n1 c1 w5 hn1 S5
      subst hn1
      have HS5 := Lib.hid S5
      clear S5 RA
      go_wp2
      go_ret
      exact ⟨_, rfl, by rw [HAP.out]; exact (rowP_form HS5.out 0 rfl).1, by rw [HAP.out]; exact (rowP_form HS5.out 0 rfl).2, HS5.out.below⟩

end Go.Proofs.YtggfmimnmpanbaaDoor
