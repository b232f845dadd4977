/- What this text proves: the contracts of the model's and the program's MissedOf. -/
import Derived.Test.YtdfcamlnebcbpacSlf
import Derived.Test.YtdfcamlnebcbpacRqU
import Derived.Test.YtdfcamlnebcbpacInU
import Derived.Test.YtdfcamlnebcbpacApI
import Derived.Test.YtdfcamlnebcbpacPlkM
import Derived.Test.YtdfcamlnebcbpacStB
import Derived.Test.YtdfcamlnebcbpacQw
import Derived.Deep.Cut
import Derived.BigQuiet
namespace Go.Proofs.Ytdfcamlnebcbpac
open Go.ChangeShapes Go.WideShapes Go.ChangeAt Go.RowKit
set_option linter.unusedVariables false

theorem mis_yes {L : List Rq} {P : List Sl} {k : Nat} (h : (soR P (rI L k) : Int) < rN L k) : misN L P (k + 1) = misN L P k ++ [rI L k] := by show misN L P k ++ _ = _; rw [if_pos h]
theorem mis_no {L : List Rq} {P : List Sl} {k : Nat} (h : ¬ (soR P (rI L k) : Int) < rN L k) : misN L P (k + 1) = misN L P k := by show misN L P k ++ _ = _; rw [if_neg h]; exact List.append_nil _
set_option maxRecDepth 20000 in
set_option maxHeartbeats 4000000 in
theorem mis_impl (A : Option Addr) (l : List Rq) (c : Nat) (A2 : Option Addr) (P : List Sl) (c2 : Nat) (hl : l.length ≤ 1048576) (hP : P.length ≤ 2000000) (w : World) (h : LsI 4 w w.heap.size A (l.map rqC)) (h2 : LsI 2 w w.heap.size A2 (P.map slC)) :
    Calls Try.prog 18 #[.slice A l.length c, .slice A2 P.length c2] w (Gives w fun v => inT v (misP l P)) := by
  have S1 := Lib.hid ((St.start w).lit 3 1)
  have HI := Lib.hid (fun W (hb : Below w.heap.size w W) => h.more hb)
  have HS := Lib.hid (fun (i : Int) W (hb : Below w.heap.size w W) => sof_impl A2 P c2 i hP W (h2.full hb))
  clear h h2
  go_enter Try.func18, Try.ntmps18
  go_wp2
  go_loopg [11, 5] l.length (fun gh u1 u2 wx => ∃ (k : Nat) (v : Value), k ≤ l.length ∧ gh = l.length - k ∧ u1 = .int .i64 (k : Int) ∧ u2 = v ∧ St w wx [rowT 3 1 v ((misN l P k).map inC)])
  case atStart => exact ⟨0, _, Nat.zero_le _, rfl, rfl, rfl, S1.out⟩
  case round =>
    obtain ⟨k, v, hk, rfl, rfl, rfl, hst⟩ := hrel
    have SS := Lib.hid hst
    clear hst S1
    obtain ⟨A9, q9, hv⟩ := (SS.out.row 0 _ _ _ _ rfl).form
    rw [List.length_map] at hv
    subst hv
    have hml := misN_len l P k
    by_cases hlt : k < l.length
    · have hd : decide (k < l.length) = true := by simp; omega
      have hd' : decide ((k : Int) < (l.length : Int)) = true := by simp; omega
      obtain ⟨bb, off, rfl, hbb, hc⟩ := rqCellsI (b := 0) (off := 0) (HI.out _ SS.out.below) (by omega)
      obtain ⟨c0, c1, c2', c3⟩ := hc k hlt
      have HE := Lib.hid (show rqAt l k = l[k] from by simp [rqAt, hlt])
      clear hc
      generalize l[k] = z at *
      obtain ⟨x0, x1, x2, x3⟩ := z
      simp only [] at c0 c1 c2' c3
      have HX := Lib.hid (show rI l k = x0 ∧ rN l k = x3 from ⟨by show (rqAt l k).1 = x0; rw [HE.out], by show (rqAt l k).2.2.2 = x3; rw [HE.out]⟩)
      have HCELL := Lib.hid (fun W (hb : Below w.heap.size w W) => (show W.cell? ⟨bb, off + k * 4, none⟩ = some (.int .i64 x0) ∧ W.cell? ⟨bb, off + k * 4 + 3, none⟩ = some (.int .i64 x3) from ⟨(hb.cell (p := ⟨bb, off + k * 4, none⟩) hbb).trans ((SS.out.below.cell (p := ⟨bb, off + k * 4, none⟩) hbb).symm.trans c0), (hb.cell (p := ⟨bb, off + k * 4 + 3, none⟩) hbb).trans ((SS.out.below.cell (p := ⟨bb, off + k * 4 + 3, none⟩) hbb).symm.trans c3)⟩))
      have S3 := Lib.hid (SS.out.made (rqL x0 x1 x2 x3) 80)
      have S4 := Lib.hid (S3.out.drew)
      have hall : ∀ q : Prop, (InW (fun W => St w W [boxT wr.heap.size (rqL x0 x1 x2 x3), rowT 3 1 (.slice A9 (misN l P k).length q9) ((misN l P k).map inC)]) → q) ↔ q := fun q => ⟨fun h => h ⟨_, S3.out⟩, fun h _ => h⟩
      have f0 : ∀ u : InW (fun W => St w W [boxT wr.heap.size (rqL x0 x1 x2 x3), rowT 3 1 (.slice A9 (misN l P k).length q9) ((misN l P k).map inC)]), u.W.cell? ⟨wr.heap.size, 0, none⟩ = some (.int .i64 x0) := fun u => (u.ok.box 0 _ _ rfl).cell 0 (by simp)
      have f3 : ∀ u : InW (fun W => St w W [boxT wr.heap.size (rqL x0 x1 x2 x3), rowT 3 1 (.slice A9 (misN l P k).length q9) ((misN l P k).map inC)]), u.W.cell? ⟨wr.heap.size, 3, none⟩ = some (.int .i64 x3) := fun u => (u.ok.box 0 _ _ rfl).cell 3 (by simp)
      have HSO := Lib.hid (fun W (hW : St w W [boxT wr.heap.size (rqL x0 x1 x2 x3), rowT 3 1 (.slice A9 (misN l P k).length q9) ((misN l P k).map inC)]) => (HS.out x0 W hW.below).mono fun e w' h => (show e = .returned (.int .i64 (soR P x0 : Nat)) ∧ St w w' [boxT wr.heap.size (rqL x0 x1 x2 x3), rowT 3 1 (.slice A9 (misN l P k).length q9) ((misN l P k).map inC)] from ⟨h.1, hW.more h.2⟩))
      by_cases hlt2 : (soR P x0 : Int) < x3
      · have d2 : decide ((soR P x0 : Int) < x3) = true := decide_eq_true hlt2
        have HM := Lib.hid (show misN l P (k + 1) = _ from mis_yes (by rw [HX.out.1, HX.out.2]; exact hlt2))
        have HKL := Lib.hid hlt
        clear hlt2
        obtain ⟨so, hso⟩ : ∃ so : Int, (soR P x0 : Int) = so := ⟨_, rfl⟩
        rw [hso] at d2
        simp only [hso] at HSO
        clear hso
        go_wp2
        refine wp_region_inW (fun W => St w W [boxT wr.heap.size (rqL x0 x1 x2 x3), rowT 3 1 (.slice A9 (misN l P k).length q9) ((misN l P k).map inC)]) (by kernel_rfl) (by kernel_rfl) S4.out ?_
        repeat (go_big_quiet_step (first | (go_at_call 50; (with_reducible exact calls_inW (C := fun W => St w W [boxT wr.heap.size (rqL x0 x1 x2 x3), rowT 3 1 (.slice A9 (misN l P k).length q9) ((misN l P k).map inC)]) (HSO.out _ (InW.ok (C := fun W => St w W [boxT wr.heap.size (rqL x0 x1 x2 x3), rowT 3 1 (.slice A9 (misN l P k).length q9) ((misN l P k).map inC)]) _))))))
        refine wpQuiet_nil ?_
        rintro W2 ⟨⟨_, F2⟩, rfl⟩
        have S5 := Lib.hid F2
        clear F2 f0 f3 hall HSO S4 c0 c1 c2' c3 S3
        have k0 := (S5.out.box 0 _ _ rfl).cell 0 (by simp)
        have ka0 := ((S5.out.box 0 _ _ rfl).alloc (.cells #[.int .i64 x0] 3)).cell 0 (by simp)
        have HO := Lib.hid (S5.out.row 1 _ _ _ _ rfl)
        have HLK := Lib.hid (show (misN l P k).length ≤ 1099510 by omega)
        generalize hL : misN l P k = L at *
        go_upto_region 6 with fail
        go_wp2_with (at_builtin; go_loud (refine app_num W2 rfl _ _ rfl 0 (.slice A9 L.length q9) L x0 rfl HO.out _ 1 rfl HLK.out (Nat.zero_le _) ?_))
        intro v2 w2 h1 h2 h3
        replace h1 : OwnR 3 1 w2 0 v2 ((misN l P (k + 1)).map inC) := by rw [HM.out, HX.out.1, List.map_append]; exact h1
        have S6 := Lib.hid (S5.out.grow 1 _ _ _ _ rfl h2 v2 _ h1 h3)
        have S7 := Lib.hid (show St w w2 [rowT 3 1 v2 ((misN l P (k + 1)).map inC)] from S6.out.pick [1] (by decide))
        clear h1 h2 h3 HO k0 ka0 S6 S5
        go_wp2
        have hkl := HKL.out
        go_roundg (l.length - (k + 1))
        case measure => omega
        case rel => exact ⟨k + 1, _, by omega, rfl, by go_num, rfl, S7.out⟩
      · have d2 : decide ((soR P x0 : Int) < x3) = false := decide_eq_false hlt2
        have HM := Lib.hid (show misN l P (k + 1) = _ from mis_no (by rw [HX.out.1, HX.out.2]; exact hlt2))
        have HKL := Lib.hid hlt
        clear hlt2
        obtain ⟨so, hso⟩ : ∃ so : Int, (soR P x0 : Int) = so := ⟨_, rfl⟩
        rw [hso] at d2
        simp only [hso] at HSO
        clear hso
        go_wp2
        refine wp_region_inW (fun W => St w W [boxT wr.heap.size (rqL x0 x1 x2 x3), rowT 3 1 (.slice A9 (misN l P k).length q9) ((misN l P k).map inC)]) (by kernel_rfl) (by kernel_rfl) S4.out ?_
        repeat (go_big_quiet_step (first | (go_at_call 50; (with_reducible exact calls_inW (C := fun W => St w W [boxT wr.heap.size (rqL x0 x1 x2 x3), rowT 3 1 (.slice A9 (misN l P k).length q9) ((misN l P k).map inC)]) (HSO.out _ (InW.ok (C := fun W => St w W [boxT wr.heap.size (rqL x0 x1 x2 x3), rowT 3 1 (.slice A9 (misN l P k).length q9) ((misN l P k).map inC)]) _))))))
        refine wpQuiet_nil ?_
        rintro W2 ⟨⟨_, F2⟩, rfl⟩
        have S5 := Lib.hid F2
        clear F2 f0 f3 hall HSO S4 c0 c1 c2' c3 S3
        have S7 := Lib.hid (show St w W2 [rowT 3 1 (.slice A9 (misN l P k).length q9) ((misN l P k).map inC)] from S5.out.pick [1] (by decide))
        go_wp2
        have hkl := HKL.out
        go_roundg (l.length - (k + 1))
        case measure => omega
        case rel => exact ⟨k + 1, _, by omega, rfl, by go_num, rfl, by rw [HM.out]; exact S7.out⟩
    · have hd : decide (k < l.length) = false := by simp; omega
      have hd' : decide ((k : Int) < (l.length : Int)) = false := by simp; omega
      obtain rfl : k = l.length := by omega
      clear hlt
      go_wp2
      go_ret
      exact ⟨_, rfl, (SS.out.row 0 _ _ _ _ rfl).toO, fun k' hk' => SS.out.nthPast 0 _ rfl k' hk', SS.out.below⟩
set_option maxRecDepth 20000 in
set_option maxHeartbeats 4000000 in
theorem mis_spec (A : Option Addr) (l : List Rq) (c : Nat) (A2 : Option Addr) (P : List Sl) (c2 : Nat) (hl : l.length ≤ 1048576) (hP : P.length ≤ 2000000) (w : World) (h : LsI 4 w w.heap.size A (l.map rqC)) (h2 : LsI 2 w w.heap.size A2 (P.map slC)) :
    Calls Try.prog 17 #[.slice A l.length c, .slice A2 P.length c2] w (Gives w fun v => inT v (misP l P)) := by
  have S1 := Lib.hid ((St.start w).lit 3 1)
  have HI := Lib.hid (fun W (hb : Below w.heap.size w W) => h.more hb)
  have HS := Lib.hid (fun (i : Int) W (hb : Below w.heap.size w W) => sof_spec A2 P c2 i hP W (h2.full hb))
  clear h h2
  go_enter Try.func17, Try.ntmps17
  go_wp2
  go_loopg [6, 5] l.length (fun gh u1 u2 wx => ∃ (k : Nat) (v : Value), k ≤ l.length ∧ gh = l.length - k ∧ u1 = .int .i64 (k : Int) ∧ u2 = v ∧ St w wx [rowT 3 1 v ((misN l P k).map inC)])
  case atStart => exact ⟨0, _, Nat.zero_le _, rfl, rfl, rfl, S1.out⟩
  case round =>
    obtain ⟨k, v, hk, rfl, rfl, rfl, hst⟩ := hrel
    have SS := Lib.hid hst
    clear hst S1
    obtain ⟨A9, q9, hv⟩ := (SS.out.row 0 _ _ _ _ rfl).form
    rw [List.length_map] at hv
    subst hv
    have hml := misN_len l P k
    by_cases hlt : k < l.length
    · have hd : decide (k < l.length) = true := by simp; omega
      have hd' : decide ((k : Int) < (l.length : Int)) = true := by simp; omega
      obtain ⟨bb, off, rfl, hbb, hc⟩ := rqCellsI (b := 0) (off := 0) (HI.out _ SS.out.below) (by omega)
      obtain ⟨c0, c1, c2', c3⟩ := hc k hlt
      have HE := Lib.hid (show rqAt l k = l[k] from by simp [rqAt, hlt])
      clear hc
      generalize l[k] = z at *
      obtain ⟨x0, x1, x2, x3⟩ := z
      simp only [] at c0 c1 c2' c3
      have HX := Lib.hid (show rI l k = x0 ∧ rN l k = x3 from ⟨by show (rqAt l k).1 = x0; rw [HE.out], by show (rqAt l k).2.2.2 = x3; rw [HE.out]⟩)
      have HCELL := Lib.hid (fun W (hb : Below w.heap.size w W) => (show W.cell? ⟨bb, off + k * 4, none⟩ = some (.int .i64 x0) ∧ W.cell? ⟨bb, off + k * 4 + 3, none⟩ = some (.int .i64 x3) from ⟨(hb.cell (p := ⟨bb, off + k * 4, none⟩) hbb).trans ((SS.out.below.cell (p := ⟨bb, off + k * 4, none⟩) hbb).symm.trans c0), (hb.cell (p := ⟨bb, off + k * 4 + 3, none⟩) hbb).trans ((SS.out.below.cell (p := ⟨bb, off + k * 4 + 3, none⟩) hbb).symm.trans c3)⟩))
      have S4 := Lib.hid (SS.out.drew)
      have hall : ∀ q : Prop, (InW (fun W => St w W [rowT 3 1 (.slice A9 (misN l P k).length q9) ((misN l P k).map inC)]) → q) ↔ q := fun q => ⟨fun h => h ⟨_, SS.out⟩, fun h _ => h⟩
      have f0 : ∀ u : InW (fun W => St w W [rowT 3 1 (.slice A9 (misN l P k).length q9) ((misN l P k).map inC)]), u.W.cell? ⟨bb, off + k * 4, none⟩ = some (.int .i64 x0) := fun u => (HCELL.out _ u.ok.below).1
      have f3 : ∀ u : InW (fun W => St w W [rowT 3 1 (.slice A9 (misN l P k).length q9) ((misN l P k).map inC)]), u.W.cell? ⟨bb, off + k * 4 + 3, none⟩ = some (.int .i64 x3) := fun u => (HCELL.out _ u.ok.below).2
      have HSO := Lib.hid (fun W (hW : St w W [rowT 3 1 (.slice A9 (misN l P k).length q9) ((misN l P k).map inC)]) => (HS.out x0 W hW.below).mono fun e w' h => (show e = .returned (.int .i64 (soR P x0 : Nat)) ∧ St w w' [rowT 3 1 (.slice A9 (misN l P k).length q9) ((misN l P k).map inC)] from ⟨h.1, hW.more h.2⟩))
      by_cases hlt2 : (soR P x0 : Int) < x3
      · have d2 : decide ((soR P x0 : Int) < x3) = true := decide_eq_true hlt2
        have HM := Lib.hid (show misN l P (k + 1) = _ from mis_yes (by rw [HX.out.1, HX.out.2]; exact hlt2))
        have HKL := Lib.hid hlt
        clear hlt2
        obtain ⟨so, hso⟩ : ∃ so : Int, (soR P x0 : Int) = so := ⟨_, rfl⟩
        rw [hso] at d2
        simp only [hso] at HSO
        clear hso
        go_wp2
        refine wp_region_inW (fun W => St w W [rowT 3 1 (.slice A9 (misN l P k).length q9) ((misN l P k).map inC)]) (by kernel_rfl) (by kernel_rfl) S4.out ?_
        repeat (go_big_quiet_step (first | (go_at_call 38; (with_reducible exact calls_inW (C := fun W => St w W [rowT 3 1 (.slice A9 (misN l P k).length q9) ((misN l P k).map inC)]) (HSO.out _ (InW.ok (C := fun W => St w W [rowT 3 1 (.slice A9 (misN l P k).length q9) ((misN l P k).map inC)]) _))))))
        refine wpQuiet_nil ?_
        rintro W2 ⟨⟨_, F2⟩, rfl⟩
        have S5 := Lib.hid F2
        clear F2 f0 f3 hall HSO S4 c0 c1 c2' c3 
        have k0 := (HCELL.out _ S5.out.below).1
        have ka0 := (HCELL.out _ (S5.out.below.alloc S5.out.below.size (.cells #[.int .i64 x0] 3))).1
        have HO := Lib.hid (S5.out.row 0 _ _ _ _ rfl)
        have HLK := Lib.hid (show (misN l P k).length ≤ 1099510 by omega)
        generalize hL : misN l P k = L at *
        go_upto_region 6 with fail
        go_wp2_with (at_builtin; go_loud (refine app_num W2 rfl _ _ rfl 0 (.slice A9 L.length q9) L x0 rfl HO.out _ 1 rfl HLK.out (Nat.zero_le _) ?_))
        intro v2 w2 h1 h2 h3
        replace h1 : OwnR 3 1 w2 0 v2 ((misN l P (k + 1)).map inC) := by rw [HM.out, HX.out.1, List.map_append]; exact h1
        have S6 := Lib.hid (S5.out.grow 0 _ _ _ _ rfl h2 v2 _ h1 h3)
        have S7 := Lib.hid (show St w w2 [rowT 3 1 v2 ((misN l P (k + 1)).map inC)] from S6.out)
        clear h1 h2 h3 HO k0 ka0 S6 S5
        go_wp2
        have hkl := HKL.out
        go_roundg (l.length - (k + 1))
        case measure => omega
        case rel => exact ⟨k + 1, _, by omega, rfl, by go_num, rfl, S7.out⟩
      · have d2 : decide ((soR P x0 : Int) < x3) = false := decide_eq_false hlt2
        have HM := Lib.hid (show misN l P (k + 1) = _ from mis_no (by rw [HX.out.1, HX.out.2]; exact hlt2))
        have HKL := Lib.hid hlt
        clear hlt2
        obtain ⟨so, hso⟩ : ∃ so : Int, (soR P x0 : Int) = so := ⟨_, rfl⟩
        rw [hso] at d2
        simp only [hso] at HSO
        clear hso
        go_wp2
        refine wp_region_inW (fun W => St w W [rowT 3 1 (.slice A9 (misN l P k).length q9) ((misN l P k).map inC)]) (by kernel_rfl) (by kernel_rfl) S4.out ?_
        repeat (go_big_quiet_step (first | (go_at_call 38; (with_reducible exact calls_inW (C := fun W => St w W [rowT 3 1 (.slice A9 (misN l P k).length q9) ((misN l P k).map inC)]) (HSO.out _ (InW.ok (C := fun W => St w W [rowT 3 1 (.slice A9 (misN l P k).length q9) ((misN l P k).map inC)]) _))))))
        refine wpQuiet_nil ?_
        rintro W2 ⟨⟨_, F2⟩, rfl⟩
        have S5 := Lib.hid F2
        clear F2 f0 f3 hall HSO S4 c0 c1 c2' c3 
        have S7 := Lib.hid (show St w W2 [rowT 3 1 (.slice A9 (misN l P k).length q9) ((misN l P k).map inC)] from S5.out)
        go_wp2
        have hkl := HKL.out
        go_roundg (l.length - (k + 1))
        case measure => omega
        case rel => exact ⟨k + 1, _, by omega, rfl, by go_num, rfl, by rw [HM.out]; exact S7.out⟩
    · have hd : decide (k < l.length) = false := by simp; omega
      have hd' : decide ((k : Int) < (l.length : Int)) = false := by simp; omega
      obtain rfl : k = l.length := by omega
      clear hlt
      go_wp2
      go_ret
      exact ⟨_, rfl, (SS.out.row 0 _ _ _ _ rfl).toO, fun k' hk' => SS.out.nthPast 0 _ rfl k' hk', SS.out.below⟩
end Go.Proofs.Ytdfcamlnebcbpac
