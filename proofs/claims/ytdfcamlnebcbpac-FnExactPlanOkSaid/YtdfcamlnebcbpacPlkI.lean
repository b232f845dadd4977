/- What this text proves: the contract of the program's PlanOk. -/
import Derived.Test.YtdfcamlnebcbpacRqf
import Derived.Test.YtdfcamlnebcbpacSlf
import Derived.Test.YtdfcamlnebcbpacVis
import Derived.Test.YtdfcamlnebcbpacStB
import Derived.Test.YtdfcamlnebcbpacPlkM
import Derived.Test.YtdfcamlnebcbpacQw
import Derived.BigQuiet
namespace Go.Proofs.Ytdfcamlnebcbpac
open Go.ChangeShapes Go.WideShapes Go.ChangeAt Go.RowKit
set_option linter.unusedVariables false

abbrev VisB (p s l : Int) : Int → Bool := fun t => decide (Vis p s l t)
def PlkR (p s l : Int) (L : List Rq) (P : List Sl) : Prop := OrbOk p s l ∧ RqsOk L ∧ PlkP (VisB p s l) L P
noncomputable instance (p s l : Int) (L : List Rq) (P : List Sl) : Decidable (PlkR p s l L P) := Classical.propDecidable _
/-- The Time of the slot before; -1 if there is none. -/
def befS (P : List Sl) : Nat → Int
  | 0 => -1
  | k + 1 => (slAt P k).1
/-- Whether a request has more slots than its Need. -/
def ovr (P : List Sl) (x : Rq) : Bool := decide (x.2.2.2 < (soR P x.1 : Int))
theorem io_impl (a b c d t : Int) (w : World) :
    Calls Try.prog 47 #[rqV a b c d, .int .i64 t] w fun e w' => e = .returned (.bool (decide (b ≤ t ∧ t ≤ c))) ∧ Below w.heap.size w w' := by
  have HB := Lib.hid ((Below.refl _ w).alloc (Nat.le_refl _) (.cells (rqL a b c d).toArray 80))
  have H1 := Lib.hid (iw_anyD t b c)
  generalize decide (b ≤ t ∧ t ≤ c) = r at *
  go_enter Try.func47, Try.ntmps47
  go_wp2_with fail
  refine (H1.out _).mono ?_
  rintro e w' ⟨rfl, rfl⟩
  go_wp2
  go_ret
  exact ⟨rfl, HB.out⟩
set_option maxHeartbeats 1000000 in
theorem plc1_impl (a b c d : Int) (g : Nat) (A : Option Addr) (P : List Sl) (c2 : Nat) (hP : P.length ≤ 2000000) (w : World) (hg : g < w.heap.size) (hc : w.cell? ⟨g, 0, none⟩ = some (.slice A P.length c2)) (h : LsI 2 w w.heap.size A (P.map slC)) :
    Calls Try.prog 49 #[rqV a b c d, .pointer (some ⟨g, 0, none⟩)] w fun e w' => e = .returned (.bool (ovr P (a, b, c, d))) ∧ Below w.heap.size w w' := by
  have S1 := Lib.hid ((St.start w).made (rqL a b c d) 80)
  have HS := Lib.hid (fun W (hW : St w W [boxT w.heap.size (rqL a b c d)]) => (sof_impl A P c2 a hP W (h.full hW.below)).mono fun e w' hh => (show e = .returned (.int .i64 (soR P a : Nat)) ∧ St w w' [boxT w.heap.size (rqL a b c d)] from ⟨hh.1, hW.more hh.2⟩))
  have hall : ∀ q : Prop, (InW (fun W => St w W [boxT w.heap.size (rqL a b c d)]) → q) ↔ q := fun q => ⟨fun h => h ⟨_, S1.out⟩, fun h _ => h⟩
  have f0 : ∀ u : InW (fun W => St w W [boxT w.heap.size (rqL a b c d)]), u.W.cell? ⟨w.heap.size, 0, none⟩ = some (.int .i64 a) := fun u => (u.ok.box 0 _ _ rfl).cell 0 (by simp)
  have f3 : ∀ u : InW (fun W => St w W [boxT w.heap.size (rqL a b c d)]), u.W.cell? ⟨w.heap.size, 3, none⟩ = some (.int .i64 d) := fun u => (u.ok.box 0 _ _ rfl).cell 3 (by simp)
  have fg : ∀ u : InW (fun W => St w W [boxT w.heap.size (rqL a b c d)]), u.W.cell? ⟨g, 0, none⟩ = some (.slice A P.length c2) := fun u => (u.ok.below.cell (p := ⟨g, 0, none⟩) hg).trans hc
  have HV := Lib.hid (show ovr P (a, b, c, d) = decide (d < (soR P a : Int)) from rfl)
  obtain ⟨so, hso⟩ : ∃ so : Int, (soR P a : Int) = so := ⟨_, rfl⟩
  simp only [hso] at HS
  rw [hso] at HV
  clear hso h hc
  go_enter Try.func49, Try.ntmps49
  go_wp2
  refine wp_region_inW (fun W => St w W [boxT w.heap.size (rqL a b c d)]) (by kernel_rfl) (by kernel_rfl) S1.out.drew ?_
  repeat (go_big_quiet_step (first | (go_at_call 50; (with_reducible exact calls_inW (C := fun W => St w W [boxT w.heap.size (rqL a b c d)]) (HS.out _ (InW.ok (C := fun W => St w W [boxT w.heap.size (rqL a b c d)]) _))))))
  refine wpQuiet_nil ?_
  rintro W2 ⟨⟨_, F2⟩, rfl⟩
  have S5 := Lib.hid F2
  clear F2
  go_wp2
  go_ret
  exact ⟨by rw [HV.out]; first | done | rfl, S5.out.below⟩
set_option maxHeartbeats 1000000 in
theorem pli_impl (A : Option Addr) (l : List Rq) (c : Nat) (g : Nat) (A2 : Option Addr) (P : List Sl) (c2 : Nat) (hl : l.length ≤ 2000000) (hP : P.length ≤ 2000000) (w : World) (hg : g < w.heap.size) (hc : w.cell? ⟨g, 0, none⟩ = some (.slice A2 P.length c2)) (h : LsI 4 w w.heap.size A (l.map rqC)) (h2 : LsI 2 w w.heap.size A2 (P.map slC)) :
    Calls Try.prog 88 #[.slice A l.length c, .func (.func 49) #[] #[.pointer (some ⟨g, 0, none⟩)]] w fun e w' => ∃ i : Int, e = .returned (.int .i64 i) ∧ (0 ≤ i ↔ ∃ k, k < l.length ∧ ovr P (rqAt l k) = true) ∧ Below w.heap.size w w' := by
  have HI := Lib.hid (fun W (hb : Below w.heap.size w W) => h.more hb)
  have HC := Lib.hid (fun W (hb : Below w.heap.size w W) x0 x1 x2 x3 => plc1_impl x0 x1 x2 x3 g A2 P c2 hP W (Nat.lt_of_lt_of_le hg hb.size) ((hb.cell (p := ⟨g, 0, none⟩) hg).trans hc) (h2.full hb))
  clear h h2 hc
  go_enter Try.func88, Try.ntmps88
  go_wp2
  go_loopg [8] l.length (fun gh v8 wx => ∃ k : Nat, k ≤ l.length ∧ gh = l.length - k ∧ v8 = .int .i64 (k : Int) ∧ (∀ j, j < k → ovr P (rqAt l j) = false) ∧ Below w.heap.size w wx)
  case atStart => exact ⟨0, by omega, rfl, rfl, fun j h => absurd h (Nat.not_lt_zero _), Below.refl _ _⟩
  case round =>
    obtain ⟨k, hk, rfl, rfl, hall, hbel⟩ := hrel
    have HA := Lib.hid hall
    have HB := Lib.hid hbel
    clear hall
    by_cases hlt : k < l.length
    · have hd : decide (k < l.length) = true := by simp; omega
      have hd' : decide ((k : Int) < (l.length : Int)) = true := by simp; omega
      obtain ⟨bb, off, rfl, hb, hcl⟩ := rqCellsI (b := 0) (off := 0) (HI.out _ hbel) (by omega)
      obtain ⟨c0, c1, c2', c3⟩ := hcl k hlt
      have HE := Lib.hid (show rqAt l k = l[k] from by simp [rqAt, hlt])
      clear hcl
      generalize l[k] = z at *
      obtain ⟨x0, x1, x2, x3⟩ := z
      simp only [] at c0 c1 c2' c3
      have hCK := HC.out _ hbel x0 x1 x2 x3
      clear hbel
      cases he : ovr P (x0, x1, x2, x3) with
      | true =>
        rw [he] at hCK
        have HCK := Lib.hid hCK
        have HP := Lib.hid (show (0 : Int) ≤ (k : Int) ↔ ∃ k, k < l.length ∧ ovr P (rqAt l k) = true from ⟨fun _ => ⟨k, hlt, by rw [HE.out]; exact he⟩, fun _ => by omega⟩)
        clear he hCK
        go_wp2_with fail
        refine HCK.out.mono ?_
        rintro e w2 ⟨rfl, hb2⟩
        have HB2 := Lib.hid (HB.out.trans (hb2.mono HB.out.size))
        clear hb2 c0 c1 c2' c3
        go_wp2
        go_ret
        exact ⟨_, rfl, HP.out, HB2.out⟩
      | false =>
        rw [he] at hCK
        have HCK := Lib.hid hCK
        have HA2 := Lib.hid (show ∀ j, j < k + 1 → ovr P (rqAt l j) = false from fun j hjk => by
          rcases Nat.lt_succ_iff_lt_or_eq.1 hjk with h3 | rfl
          · exact HA.out j h3
          · rw [HE.out]; exact he)
        clear he hCK
        go_wp2_with fail
        refine HCK.out.mono ?_
        rintro e w2 ⟨rfl, hb2⟩
        have HB2 := Lib.hid (HB.out.trans (hb2.mono HB.out.size))
        clear hb2 c0 c1 c2' c3
        go_wp2
        go_roundg (l.length - (k + 1))
        case measure => omega
        case rel => exact ⟨k + 1, by omega, rfl, by go_num, HA2.out, HB2.out⟩
    · have hd : decide (k < l.length) = false := by simp; omega
      have hd' : decide ((k : Int) < (l.length : Int)) = false := by simp; omega
      have HP := Lib.hid (show (0 : Int) ≤ -1 ↔ ∃ k, k < l.length ∧ ovr P (rqAt l k) = true from ⟨fun h => by omega, fun ⟨j, hj, e⟩ => by have := HA.out j (by omega); rw [this] at e; exact Bool.noConfusion e⟩)
      clear hlt
      go_wp2
      go_ret
      exact ⟨_, rfl, HP.out, HB.out⟩
theorem plo_impl (A : Option Addr) (l : List Rq) (c : Nat) (g : Nat) (A2 : Option Addr) (P : List Sl) (c2 : Nat) (hl : l.length ≤ 2000000) (hP : P.length ≤ 2000000) (w : World) (hg : g < w.heap.size) (hc : w.cell? ⟨g, 0, none⟩ = some (.slice A2 P.length c2)) (h : LsI 4 w w.heap.size A (l.map rqC)) (h2 : LsI 2 w w.heap.size A2 (P.map slC)) :
    Calls Try.prog 48 #[.slice A l.length c, .func (.func 49) #[] #[.pointer (some ⟨g, 0, none⟩)]] w fun e w' => ∃ r : Bool, e = .returned (.bool r) ∧ (r = true ↔ ∃ k, k < l.length ∧ ovr P (rqAt l k) = true) ∧ Below w.heap.size w w' := by
  have HC := Lib.hid (pli_impl A l c g A2 P c2 hl hP w hg hc h h2)
  clear h h2 hc
  go_enter Try.func48, Try.ntmps48
  go_wp2_with fail
  refine HC.out.mono ?_
  rintro e w2 ⟨i, rfl, hi, hb⟩
  have HI := Lib.hid hi
  have HB := Lib.hid hb
  obtain ⟨r, hr⟩ : ∃ r, decide (0 ≤ i) = r := ⟨_, rfl⟩
  have HR := Lib.hid (show r = true ↔ ∃ k, k < l.length ∧ ovr P (rqAt l k) = true from by rw [← hr, decide_eq_true_iff]; exact hi)
  clear hi hb
  go_wp2
  go_ret
  exact ⟨r, rfl, HR.out, HB.out⟩
set_option maxRecDepth 20000 in
set_option maxHeartbeats 16000000 in
theorem plk_impl (p s l : Int) (A : Option Addr) (L : List Rq) (c : Nat) (A2 : Option Addr) (P : List Sl) (c2 : Nat) (hL : L.length ≤ 1048576) (hPl : P.length ≤ 1048576) (w : World) (h : LsI 4 w w.heap.size A (L.map rqC)) (h2 : LsI 2 w w.heap.size A2 (P.map slC)) :
    Calls Try.prog 14 #[obV p s l, .slice A L.length c, .slice A2 P.length c2] w fun e w' => e = .returned (.bool (decide (PlkR p s l L P))) ∧ Below w.heap.size w w' := by
  have S0 := Lib.hid (show St w ((w.alloc (.cells (obL p s l).toArray 29)).alloc (.cells #[.slice A2 P.length c2] 33)) [boxT (w.heap.size + 1) [.slice A2 P.length c2], boxT w.heap.size (obL p s l)] from by have hh := ((St.start w).made (obL p s l) 29).made [.slice A2 P.length c2] 33; simpa using hh)
  have c0 := (S0.out.box 1 _ _ rfl).cell 0 (by simp)
  have c1 := (S0.out.box 1 _ _ rfl).cell 1 (by simp)
  have c2' := (S0.out.box 1 _ _ rfl).cell 2 (by simp)
  have H1 := ob_impl p s l
  have H2 := fun W (hb : Below w.heap.size w W) => rqs_impl A L c (by omega) W (h.full hb)
  have HI := Lib.hid (fun W (hb : Below w.heap.size w W) => h.more hb)
  have HL := Lib.hid (fun W (hb : Below w.heap.size w W) => h.full hb)
  have HP := Lib.hid (fun W (hb : Below w.heap.size w W) => h2.more hb)
  have HP2 := Lib.hid (fun W (hb : Below w.heap.size w W) => h2.full hb)
  have HVS := Lib.hid (fun t W => vis_impl p s l t W)
  have HNP := Lib.hid (show ¬ PlkR p s l L P → decide (PlkR p s l L P) = false from fun h => decide_eq_false h)
  clear h h2
  by_cases h1 : OrbOk p s l
  · rw [decide_eq_true h1] at H1
    have H1 := Lib.hid H1
    by_cases h2 : RqsOk L
    · simp only [decide_eq_true h2] at H2
      have H2 := Lib.hid H2
      have HOK := Lib.hid h2
      have HYS := Lib.hid (show PlkP (VisB p s l) L P → PlkR p s l L P from fun h => ⟨h1, h2, h⟩)
      have HNO := Lib.hid (show ∀ k, k < P.length → ¬ SlOne (VisB p s l) L P k → decide (PlkR p s l L P) = false from fun k hk h => HNP.out (fun g => h (g.2.2.1 k hk)))
      clear h1 h2
      go_enter Try.func14, Try.ntmps14
      go_wp2_with fail
      refine (H1.out _).mono ?_
      rintro e w1 ⟨rfl, hb⟩
      have S1 := Lib.hid (S0.out.more hb)
      clear hb c0 c1 c2' S0
      go_wp2_with fail
      refine (H2.out _ S1.out.below).mono ?_
      rintro e w2 ⟨rfl, hb⟩
      have S2 := Lib.hid (S1.out.more hb)
      clear hb S1
      have cp := (S2.out.box 0 _ _ rfl).cell 0 (by simp)
      go_wp2
      clear cp
      go_loopg [21, 7] P.length (fun gh v1 v2 wx => ∃ k : Nat, k ≤ P.length ∧ gh = P.length - k ∧ v1 = .int .i64 (k : Int) ∧ v2 = .int .i64 (befS P k) ∧ (∀ k', k' < k → SlOne (VisB p s l) L P k') ∧ St w wx [boxT (w.heap.size + 1) [.slice A2 P.length c2], boxT w.heap.size (obL p s l)])
      case atStart => exact ⟨0, by omega, rfl, rfl, rfl, fun j h => absurd h (Nat.not_lt_zero _), S2.out⟩
      case round =>
        obtain ⟨k, hk, rfl, rfl, rfl, hall0, hst⟩ := hrel
        have HA := Lib.hid hall0
        have SS := Lib.hid hst
        clear hall0 hst S2
        by_cases hlt : k < P.length
        rotate_left
        · have hd : decide (k < P.length) = false := by simp; omega
          have hd' : decide ((k : Int) < (P.length : Int)) = false := by simp; omega
          obtain rfl : k = P.length := by omega
          have cg := (SS.out.box 0 _ _ rfl).cell 0 (by simp)
          have lg := (SS.out.box 0 _ _ rfl).lt
          have HPO := Lib.hid (plo_impl A L c (w.heap.size + 1) A2 P c2 (by omega) (by omega) wr lg cg (HL.out _ (SS.out.below)) (HP2.out _ (SS.out.below)))
          clear hlt cg lg
          go_wp2_with fail
          refine HPO.out.mono ?_
          rintro e w6 ⟨r, rfl, hr, hb⟩
          have S7 := Lib.hid (SS.out.more hb)
          have HR := Lib.hid hr
          clear hb hr SS HPO
          have HV := Lib.hid (show decide (PlkR p s l L P) = !r from by
            cases r with
            | true =>
              refine decide_eq_false fun h => ?_
              obtain ⟨i, hi, e⟩ := HR.out.1 rfl
              have := h.2.2.2 i hi
              unfold ovr at e
              have e2 := of_decide_eq_true e
              have e3 : rN L i < (soR P (rI L i) : Int) := e2
              omega
            | false =>
              refine decide_eq_true (HYS.out ⟨HA.out, fun i hi => ?_⟩)
              apply Classical.byContradiction
              intro hc
              have hh : ovr P (rqAt L i) = true := decide_eq_true (by show rN L i < (soR P (rI L i) : Int); omega)
              have := HR.out.2 ⟨i, hi, hh⟩
              exact Bool.noConfusion this)
          go_wp2
          go_ret
          exact ⟨by rw [HV.out]; first | done | rfl, S7.out.below⟩
        have hd : decide (k < P.length) = true := by simp; omega
        have hd' : decide ((k : Int) < (P.length : Int)) = true := by simp; omega
        obtain ⟨bb, off, rfl, hbb, hc⟩ := slCellsI (b := 0) (off := 0) (HP.out _ (SS.out.below)) (by omega)
        obtain ⟨c0, c1⟩ := hc k hlt
        have HE := Lib.hid (slAt_eq hlt)
        clear hc
        generalize P[k] = z at *
        obtain ⟨x0, x1⟩ := z
        simp only [] at c0 c1
        have HKL := Lib.hid hlt
        have HBF := Lib.hid (show befS P (k + 1) = x0 from by show (slAt P k).1 = x0; rw [HE.out])
        have S3 := Lib.hid (SS.out.made (slL x0 x1) 78)
        have m1 := (S3.out.box 0 _ _ rfl).cell 1 (by simp)
        have HRW := Lib.hid (rqw_impl A L c x1 (by omega) (wr.alloc (.cells (slL x0 x1).toArray 78)) (HL.out _ (S3.out.below)))
        clear SS hlt
        go_wp2_with fail
        refine HRW.out.mono ?_
        rintro e w3 ⟨at', rfl, hat, hb⟩
        have S4 := Lib.hid (show St w w3 [boxT wr.heap.size (slL x0 x1), boxT (w.heap.size + 1) [.slice (some ⟨bb, off, none⟩) P.length c2], boxT w.heap.size (obL p s l)] from S3.out.more hb)
        clear hb S3 m1 HRW c0 c1
        have HAT := Lib.hid hat
        have hall : ∀ q : Prop, (InW (fun W => St w W [boxT wr.heap.size (slL x0 x1), boxT (w.heap.size + 1) [.slice (some ⟨bb, off, none⟩) P.length c2], boxT w.heap.size (obL p s l)]) → q) ↔ q := fun q => ⟨fun h => h ⟨_, S4.out⟩, fun h _ => h⟩
        have f0 : ∀ u : InW (fun W => St w W [boxT wr.heap.size (slL x0 x1), boxT (w.heap.size + 1) [.slice (some ⟨bb, off, none⟩) P.length c2], boxT w.heap.size (obL p s l)]), u.W.cell? ⟨wr.heap.size, 0, none⟩ = some (.int .i64 x0) := fun u => (u.ok.box 0 _ _ rfl).cell 0 (by simp)
        have o0 : ∀ u : InW (fun W => St w W [boxT wr.heap.size (slL x0 x1), boxT (w.heap.size + 1) [.slice (some ⟨bb, off, none⟩) P.length c2], boxT w.heap.size (obL p s l)]), u.W.cell? ⟨w.heap.size, 0, none⟩ = some (.int .i64 p) := fun u => (u.ok.box 2 _ _ rfl).cell 0 (by simp)
        have o1 : ∀ u : InW (fun W => St w W [boxT wr.heap.size (slL x0 x1), boxT (w.heap.size + 1) [.slice (some ⟨bb, off, none⟩) P.length c2], boxT w.heap.size (obL p s l)]), u.W.cell? ⟨w.heap.size, 1, none⟩ = some (.int .i64 s) := fun u => (u.ok.box 2 _ _ rfl).cell 1 (by simp)
        have o2 : ∀ u : InW (fun W => St w W [boxT wr.heap.size (slL x0 x1), boxT (w.heap.size + 1) [.slice (some ⟨bb, off, none⟩) P.length c2], boxT w.heap.size (obL p s l)]), u.W.cell? ⟨w.heap.size, 2, none⟩ = some (.int .i64 l) := fun u => (u.ok.box 2 _ _ rfl).cell 2 (by simp)
        have HNOW := Lib.hid (show ¬ SlOne (VisB p s l) L P k → decide (PlkR p s l L P) = false from fun h => HNO.out k HKL.out h)
        by_cases hbf : befS P k < x0
        rotate_left
        · have db : decide (x0 ≤ befS P k) = true := decide_eq_true (by omega)
          have hno : ¬ SlOne (VisB p s l) L P k := fun h => by
            cases k with
            | zero => have h1 := of_decide_eq_true h.1; rw [HE.out] at h1; have := h1.2.1.1; have := h1.1.2.1.1; have hb : ¬ (-1 : Int) < x0 := hbf; omega
            | succ k => have h2 := h.2.1 (by omega); rw [HE.out] at h2; exact hbf h2
          have HV := Lib.hid (HNO.out k HKL.out (hno))
          go_wp2
          refine wp_region_inW (fun W => St w W [boxT wr.heap.size (slL x0 x1), boxT (w.heap.size + 1) [.slice (some ⟨bb, off, none⟩) P.length c2], boxT w.heap.size (obL p s l)]) (by kernel_rfl) (by kernel_rfl) S4.out.drew ?_
          repeat (go_big_quiet_step (fail))
          refine wpQuiet_nil ?_
          rintro W5 ⟨⟨_, F5⟩, rfl⟩
          have S5 := Lib.hid F5
          clear F5 S4 hall
          go_wp2
          go_ret
          exact ⟨by rw [HV.out]; first | done | rfl, S5.out.below⟩
        have db : decide (x0 ≤ befS P k) = false := decide_eq_false (by omega)
        by_cases hv : Vis p s l x0
        rotate_left
        · have hno : ¬ SlOne (VisB p s l) L P k := fun h => by have h1 := of_decide_eq_true h.1; rw [HE.out] at h1; exact hv h1
          have HV := Lib.hid (HNO.out k HKL.out (hno))
          have hVV := HVS.out x0
          rw [decide_eq_false hv] at hVV
          have HVV := Lib.hid (fun W (hW : St w W [boxT wr.heap.size (slL x0 x1), boxT (w.heap.size + 1) [.slice (some ⟨bb, off, none⟩) P.length c2], boxT w.heap.size (obL p s l)]) => (hVV W).mono fun e w' h => (show e = .returned (.bool false) ∧ St w w' [boxT wr.heap.size (slL x0 x1), boxT (w.heap.size + 1) [.slice (some ⟨bb, off, none⟩) P.length c2], boxT w.heap.size (obL p s l)] from ⟨h.1, hW.more h.2⟩))
          clear hVV
          go_wp2
          refine wp_region_inW (fun W => St w W [boxT wr.heap.size (slL x0 x1), boxT (w.heap.size + 1) [.slice (some ⟨bb, off, none⟩) P.length c2], boxT w.heap.size (obL p s l)]) (by kernel_rfl) (by kernel_rfl) S4.out.drew ?_
          repeat (go_big_quiet_step (first | (go_at_call 46; (with_reducible exact calls_inW (C := fun W => St w W [boxT wr.heap.size (slL x0 x1), boxT (w.heap.size + 1) [.slice (some ⟨bb, off, none⟩) P.length c2], boxT w.heap.size (obL p s l)]) (HVV.out _ (InW.ok (C := fun W => St w W [boxT wr.heap.size (slL x0 x1), boxT (w.heap.size + 1) [.slice (some ⟨bb, off, none⟩) P.length c2], boxT w.heap.size (obL p s l)]) _))))))
          refine wpQuiet_nil ?_
          rintro W5 ⟨⟨_, F5⟩, rfl⟩
          have S5 := Lib.hid F5
          clear F5 S4 hall
          go_wp2
          go_ret
          exact ⟨by rw [HV.out]; first | done | rfl, S5.out.below⟩
        rcases HAT.out with ⟨rfl, hidx⟩ | ⟨m, hml, rfl, hm1, hm2⟩
        · have da : ((-1 : Int) == -1) = true := by decide
          have hno : ¬ SlOne (VisB p s l) L P k := fun ⟨_, _, i, hi, e, _⟩ => hidx i hi (by rw [e, HE.out])
          have HV := Lib.hid (HNO.out k HKL.out (hno))
          have hVV := HVS.out x0
          rw [decide_eq_true hv] at hVV
          have HVV := Lib.hid (fun W (hW : St w W [boxT wr.heap.size (slL x0 x1), boxT (w.heap.size + 1) [.slice (some ⟨bb, off, none⟩) P.length c2], boxT w.heap.size (obL p s l)]) => (hVV W).mono fun e w' h => (show e = .returned (.bool true) ∧ St w w' [boxT wr.heap.size (slL x0 x1), boxT (w.heap.size + 1) [.slice (some ⟨bb, off, none⟩) P.length c2], boxT w.heap.size (obL p s l)] from ⟨h.1, hW.more h.2⟩))
          clear hVV
          go_wp2
          refine wp_region_inW (fun W => St w W [boxT wr.heap.size (slL x0 x1), boxT (w.heap.size + 1) [.slice (some ⟨bb, off, none⟩) P.length c2], boxT w.heap.size (obL p s l)]) (by kernel_rfl) (by kernel_rfl) S4.out.drew ?_
          repeat (go_big_quiet_step (first | (go_at_call 46; (with_reducible exact calls_inW (C := fun W => St w W [boxT wr.heap.size (slL x0 x1), boxT (w.heap.size + 1) [.slice (some ⟨bb, off, none⟩) P.length c2], boxT w.heap.size (obL p s l)]) (HVV.out _ (InW.ok (C := fun W => St w W [boxT wr.heap.size (slL x0 x1), boxT (w.heap.size + 1) [.slice (some ⟨bb, off, none⟩) P.length c2], boxT w.heap.size (obL p s l)]) _))))))
          refine wpQuiet_nil ?_
          rintro W5 ⟨⟨_, F5⟩, rfl⟩
          have S5 := Lib.hid F5
          clear F5 S4 hall
          go_wp2
          go_ret
          exact ⟨by rw [HV.out]; first | done | rfl, S5.out.below⟩
        have da : ((m : Int) == -1) = false := beq_false_of_ne (by omega)
        obtain ⟨bl, ofl, rfl, hbl, hcl⟩ := rqCellsI (b := 0) (off := 0) (HI.out _ (S4.out.below)) (by omega)
        obtain ⟨r0, r1, r2, r3⟩ := hcl m hml
        have HEM := Lib.hid (show rqAt L m = L[m] from by simp [rqAt, hml])
        clear hcl
        generalize L[m] = zz at *
        obtain ⟨y0, y1, y2, y3⟩ := zz
        simp only [] at r0 r1 r2 r3
        have hdm : decide (m < L.length) = true := by simp; omega
        have hdm' : decide ((m : Int) < (L.length : Int)) = true := by simp; omega
        have hBL : bl < w.heap.size := hbl
        have g0 : ∀ u : InW (fun W => St w W [boxT wr.heap.size (slL x0 x1), boxT (w.heap.size + 1) [.slice (some ⟨bb, off, none⟩) P.length c2], boxT w.heap.size (obL p s l)]), u.W.cell? ⟨bl, ofl + m * 4, none⟩ = some (.int .i64 y0) := fun u => (u.ok.below.cell (p := ⟨bl, ofl + m * 4, none⟩) hBL).trans ((S4.out.below.cell (p := ⟨bl, ofl + m * 4, none⟩) hBL).symm.trans r0)
        have g1 : ∀ u : InW (fun W => St w W [boxT wr.heap.size (slL x0 x1), boxT (w.heap.size + 1) [.slice (some ⟨bb, off, none⟩) P.length c2], boxT w.heap.size (obL p s l)]), u.W.cell? ⟨bl, ofl + m * 4 + 1, none⟩ = some (.int .i64 y1) := fun u => (u.ok.below.cell (p := ⟨bl, ofl + m * 4 + 1, none⟩) hBL).trans ((S4.out.below.cell (p := ⟨bl, ofl + m * 4 + 1, none⟩) hBL).symm.trans r1)
        have g2 : ∀ u : InW (fun W => St w W [boxT wr.heap.size (slL x0 x1), boxT (w.heap.size + 1) [.slice (some ⟨bb, off, none⟩) P.length c2], boxT w.heap.size (obL p s l)]), u.W.cell? ⟨bl, ofl + m * 4 + 2, none⟩ = some (.int .i64 y2) := fun u => (u.ok.below.cell (p := ⟨bl, ofl + m * 4 + 2, none⟩) hBL).trans ((S4.out.below.cell (p := ⟨bl, ofl + m * 4 + 2, none⟩) hBL).symm.trans r2)
        have g3 : ∀ u : InW (fun W => St w W [boxT wr.heap.size (slL x0 x1), boxT (w.heap.size + 1) [.slice (some ⟨bb, off, none⟩) P.length c2], boxT w.heap.size (obL p s l)]), u.W.cell? ⟨bl, ofl + m * 4 + 3, none⟩ = some (.int .i64 y3) := fun u => (u.ok.below.cell (p := ⟨bl, ofl + m * 4 + 3, none⟩) hBL).trans ((S4.out.below.cell (p := ⟨bl, ofl + m * 4 + 3, none⟩) hBL).symm.trans r3)
        by_cases hopn : y1 ≤ x0 ∧ x0 ≤ y2
        rotate_left
        · have hno : ¬ SlOne (VisB p s l) L P k := fun ⟨_, _, i, hi, e, e1, e2⟩ => by
            have him : i = m := HOK.out.inj hi hml (by rw [e, HE.out, hm1])
            subst him
            have e1' : (rqAt L i).2.1 ≤ x0 := by have := e1; rw [HE.out] at this; exact this
            have e2' : x0 ≤ (rqAt L i).2.2.1 := by have := e2; rw [HE.out] at this; exact this
            rw [HEM.out] at e1' e2'
            exact hopn ⟨e1', e2'⟩
          clear r0 r1 r2 r3
          have HV := Lib.hid (HNO.out k HKL.out (hno))
          have hVV := HVS.out x0
          rw [decide_eq_true hv] at hVV
          have HVV := Lib.hid (fun W (hW : St w W [boxT wr.heap.size (slL x0 x1), boxT (w.heap.size + 1) [.slice (some ⟨bb, off, none⟩) P.length c2], boxT w.heap.size (obL p s l)]) => (hVV W).mono fun e w' h => (show e = .returned (.bool true) ∧ St w w' [boxT wr.heap.size (slL x0 x1), boxT (w.heap.size + 1) [.slice (some ⟨bb, off, none⟩) P.length c2], boxT w.heap.size (obL p s l)] from ⟨h.1, hW.more h.2⟩))
          clear hVV
          have hOO := io_impl y0 y1 y2 y3 x0
          rw [decide_eq_false hopn] at hOO
          have HOO := Lib.hid (fun W (hW : St w W [boxT wr.heap.size (slL x0 x1), boxT (w.heap.size + 1) [.slice (some ⟨bb, off, none⟩) P.length c2], boxT w.heap.size (obL p s l)]) => (hOO W).mono fun e w' h => (show e = .returned (.bool false) ∧ St w w' [boxT wr.heap.size (slL x0 x1), boxT (w.heap.size + 1) [.slice (some ⟨bb, off, none⟩) P.length c2], boxT w.heap.size (obL p s l)] from ⟨h.1, hW.more h.2⟩))
          clear hOO
          go_wp2
          refine wp_region_inW (fun W => St w W [boxT wr.heap.size (slL x0 x1), boxT (w.heap.size + 1) [.slice (some ⟨bb, off, none⟩) P.length c2], boxT w.heap.size (obL p s l)]) (by kernel_rfl) (by kernel_rfl) S4.out.drew ?_
          repeat (go_big_quiet_step (first | (go_at_call 46; (with_reducible exact calls_inW (C := fun W => St w W [boxT wr.heap.size (slL x0 x1), boxT (w.heap.size + 1) [.slice (some ⟨bb, off, none⟩) P.length c2], boxT w.heap.size (obL p s l)]) (HVV.out _ (InW.ok (C := fun W => St w W [boxT wr.heap.size (slL x0 x1), boxT (w.heap.size + 1) [.slice (some ⟨bb, off, none⟩) P.length c2], boxT w.heap.size (obL p s l)]) _)))) | (go_at_call 47; (with_reducible exact calls_inW (C := fun W => St w W [boxT wr.heap.size (slL x0 x1), boxT (w.heap.size + 1) [.slice (some ⟨bb, off, none⟩) P.length c2], boxT w.heap.size (obL p s l)]) (HOO.out _ (InW.ok (C := fun W => St w W [boxT wr.heap.size (slL x0 x1), boxT (w.heap.size + 1) [.slice (some ⟨bb, off, none⟩) P.length c2], boxT w.heap.size (obL p s l)]) _))))))
          refine wpQuiet_nil ?_
          rintro W5 ⟨⟨_, F5⟩, rfl⟩
          have S5 := Lib.hid F5
          clear F5 S4 hall
          go_wp2
          go_ret
          exact ⟨by rw [HV.out]; first | done | rfl, S5.out.below⟩
        have HA2 := Lib.hid (show ∀ k', k' < k + 1 → SlOne (VisB p s l) L P k' from fun k' h' => by
          rcases Nat.lt_succ_iff_lt_or_eq.1 h' with h3 | rfl
          · exact HA.out k' h3
          · refine ⟨by rw [HE.out]; exact decide_eq_true hv, fun h0 => ?_, m, hml, by rw [hm1, HE.out], ?_, ?_⟩
            · rw [HE.out]
              obtain ⟨k0, rfl⟩ : ∃ k0, k' = k0 + 1 := ⟨k' - 1, by omega⟩
              exact hbf
            · rw [HE.out]; show (rqAt L m).2.1 ≤ x0; rw [HEM.out]; exact hopn.1
            · rw [HE.out]; show x0 ≤ (rqAt L m).2.2.1; rw [HEM.out]; exact hopn.2)
        clear r0 r1 r2 r3
        have hVV := HVS.out x0
        rw [decide_eq_true hv] at hVV
        have HVV := Lib.hid (fun W (hW : St w W [boxT wr.heap.size (slL x0 x1), boxT (w.heap.size + 1) [.slice (some ⟨bb, off, none⟩) P.length c2], boxT w.heap.size (obL p s l)]) => (hVV W).mono fun e w' h => (show e = .returned (.bool true) ∧ St w w' [boxT wr.heap.size (slL x0 x1), boxT (w.heap.size + 1) [.slice (some ⟨bb, off, none⟩) P.length c2], boxT w.heap.size (obL p s l)] from ⟨h.1, hW.more h.2⟩))
        clear hVV
        have hOO := io_impl y0 y1 y2 y3 x0
        rw [decide_eq_true hopn] at hOO
        have HOO := Lib.hid (fun W (hW : St w W [boxT wr.heap.size (slL x0 x1), boxT (w.heap.size + 1) [.slice (some ⟨bb, off, none⟩) P.length c2], boxT w.heap.size (obL p s l)]) => (hOO W).mono fun e w' h => (show e = .returned (.bool true) ∧ St w w' [boxT wr.heap.size (slL x0 x1), boxT (w.heap.size + 1) [.slice (some ⟨bb, off, none⟩) P.length c2], boxT w.heap.size (obL p s l)] from ⟨h.1, hW.more h.2⟩))
        clear hOO
        go_wp2
        refine wp_region_inW (fun W => St w W [boxT wr.heap.size (slL x0 x1), boxT (w.heap.size + 1) [.slice (some ⟨bb, off, none⟩) P.length c2], boxT w.heap.size (obL p s l)]) (by kernel_rfl) (by kernel_rfl) S4.out.drew ?_
        repeat (go_big_quiet_step (first | (go_at_call 46; (with_reducible exact calls_inW (C := fun W => St w W [boxT wr.heap.size (slL x0 x1), boxT (w.heap.size + 1) [.slice (some ⟨bb, off, none⟩) P.length c2], boxT w.heap.size (obL p s l)]) (HVV.out _ (InW.ok (C := fun W => St w W [boxT wr.heap.size (slL x0 x1), boxT (w.heap.size + 1) [.slice (some ⟨bb, off, none⟩) P.length c2], boxT w.heap.size (obL p s l)]) _)))) | (go_at_call 47; (with_reducible exact calls_inW (C := fun W => St w W [boxT wr.heap.size (slL x0 x1), boxT (w.heap.size + 1) [.slice (some ⟨bb, off, none⟩) P.length c2], boxT w.heap.size (obL p s l)]) (HOO.out _ (InW.ok (C := fun W => St w W [boxT wr.heap.size (slL x0 x1), boxT (w.heap.size + 1) [.slice (some ⟨bb, off, none⟩) P.length c2], boxT w.heap.size (obL p s l)]) _))))))
        refine wpQuiet_nil ?_
        rintro W5 ⟨⟨_, F5⟩, rfl⟩
        have S5 := Lib.hid F5
        clear F5 S4 hall
        have e0 := (S5.out.box 0 _ _ rfl).cell 0 (by simp)
        have S6 := Lib.hid (S5.out.pick [1, 2] (by decide))
        have hkl := HKL.out
        clear S5
        go_wp2
        go_roundg (P.length - (k + 1))
        case measure => omega
        case rel => exact ⟨k + 1, by omega, rfl, by go_num, by rw [HBF.out], HA2.out, S6.out⟩
    · simp only [decide_eq_false h2] at H2
      have H2 := Lib.hid H2
      have HV := Lib.hid (HNP.out (fun h => h2 h.2.1))
      clear h1 h2
      go_enter Try.func14, Try.ntmps14
      go_wp2_with fail
      refine (H1.out _).mono ?_
      rintro e w1 ⟨rfl, hb⟩
      have S1 := Lib.hid (S0.out.more hb)
      clear hb c0 c1 c2' S0
      go_wp2_with fail
      refine (H2.out _ S1.out.below).mono ?_
      rintro e w2 ⟨rfl, hb⟩
      have S2 := Lib.hid (S1.out.more hb)
      clear hb S1
      go_wp2
      go_ret
      exact ⟨by rw [HV.out]; first | done | rfl, S2.out.below⟩
  · rw [decide_eq_false h1] at H1
    have H1 := Lib.hid H1
    have HV := Lib.hid (HNP.out (fun h => h1 h.1))
    clear h1 H2
    go_enter Try.func14, Try.ntmps14
    go_wp2_with fail
    refine (H1.out _).mono ?_
    rintro e w1 ⟨rfl, hb⟩
    have S1 := Lib.hid (S0.out.more hb)
    clear hb c0 c1 c2' S0
    go_wp2
    go_ret
    exact ⟨by rw [HV.out]; first | done | rfl, S1.out.below⟩
end Go.Proofs.Ytdfcamlnebcbpac
