/- What this text proves: the contract of the model's PlanOk. -/
import Derived.Test.YtdfcamlnebcbpacPlkI
import Derived.Deep.Cut
import Derived.Deep.CutRange
namespace Go.Proofs.Ytdfcamlnebcbpac
open Go.ChangeShapes Go.WideShapes Go.ChangeAt Go.RowKit
set_option linter.unusedVariables false

/-- A request that the k-th slot may belong to. -/
def Gd (L : List Rq) (P : List Sl) (t id : Int) (i : Nat) : Prop := rI L i = id ∧ (rR L i ≤ t ∧ t ≤ rD L i) ∧ (soR P (rI L i) : Int) ≤ rN L i
set_option maxRecDepth 20000 in
set_option maxHeartbeats 16000000 in
theorem plk_spec (p s l : Int) (A : Option Addr) (L : List Rq) (c : Nat) (A2 : Option Addr) (P : List Sl) (c2 : Nat) (hL : L.length ≤ 1048576) (hPl : P.length ≤ 1048576) (w : World) (h : LsI 4 w w.heap.size A (L.map rqC)) (h2 : LsI 2 w w.heap.size A2 (P.map slC)) :
    Calls Try.prog 10 #[obV p s l, .slice A L.length c, .slice A2 P.length c2] w fun e w' => e = .returned (.bool (decide (PlkR p s l L P))) ∧ Below w.heap.size w w' := by
  have S0 := Lib.hid ((St.start w).made (obL p s l) 29)
  have HOB := Lib.hid (ob_spec p s l)
  have HRQ := Lib.hid (fun W (hb : Below w.heap.size w W) => rqs_spec A L c (by omega) W (h.full hb))
  have HI := Lib.hid (fun W (hb : Below w.heap.size w W) => h.more hb)
  have HP := Lib.hid (fun W (hb : Below w.heap.size w W) => h2.more hb)
  have HS := Lib.hid (fun (i : Int) W (hb : Below w.heap.size w W) => sof_spec A2 P c2 i (by omega) W (h2.full hb))
  have HVS := Lib.hid (fun t W => vis_spec p s l t W)
  have HIW := Lib.hid (fun a b c W => in_anyP a b c W)
  have HNO := Lib.hid (show ∀ k, k < P.length → ¬ SlMod (VisB p s l) L P k → decide (PlkR p s l L P) = false from fun k hk h => decide_eq_false (fun g => h ((plk_model g.2.1).2 g.2.2 k hk)))
  clear h h2
  go_enter Try.func10, Try.ntmps10
  go_wp2
  go_loopg [7] P.length (fun gh v wx => ∃ k : Nat, k ≤ P.length ∧ gh = P.length - k ∧ v = .int .i64 (k : Int) ∧ (∀ k', k' < k → SlMod (VisB p s l) L P k') ∧ St w wx [boxT w.heap.size (obL p s l)])
  case atStart => exact ⟨0, by omega, rfl, rfl, fun j h => absurd h (Nat.not_lt_zero _), S0.out⟩
  case round =>
    obtain ⟨k, hk, rfl, rfl, hall0, hst⟩ := hrel
    have HA := Lib.hid hall0
    have SS := Lib.hid hst
    clear hall0 hst S0
    by_cases hlt : k < P.length
    rotate_left
    · have hd : decide (k < P.length) = false := by simp; omega
      have hd' : decide ((k : Int) < (P.length : Int)) = false := by simp; omega
      obtain rfl : k = P.length := by omega
      have k0 := (SS.out.box 0 _ _ rfl).cell 0 (by simp)
      have k1 := (SS.out.box 0 _ _ rfl).cell 1 (by simp)
      have k2 := (SS.out.box 0 _ _ rfl).cell 2 (by simp)
      clear hlt
      have hO := HOB.out
      by_cases ho : OrbOk p s l
      · rw [decide_eq_true ho] at hO
        have HO := Lib.hid hO
        have HV := Lib.hid (show decide (PlkR p s l L P) = decide (RqsOk L) from by rw [decide_eq_decide]; exact ⟨fun h => h.2.1, fun h => ⟨ho, h, (plk_model h).1 HA.out⟩⟩)
        obtain ⟨r, hr⟩ : ∃ r, decide (RqsOk L) = r := ⟨_, rfl⟩
        rw [hr] at HV
        have HR := Lib.hid (show ∀ W, Below w.heap.size w W → Calls Try.prog 40 #[.slice A L.length c] W (fun e w' => e = .returned (.bool r) ∧ Below W.heap.size W w') from fun W hb => by rw [← hr]; exact HRQ.out W hb)
        clear hO ho hr
        go_wp2_with fail
        refine (HO.out _).mono ?_
        rintro e w3 ⟨rfl, hb⟩
        have S7 := Lib.hid (SS.out.more hb)
        clear hb SS
        go_wp2_with fail
        refine (HR.out _ S7.out.below).mono ?_
        rintro e w4 ⟨rfl, hb⟩
        have S8 := Lib.hid (S7.out.more hb)
        clear hb S7
        go_wp2
        go_ret
        exact ⟨by rw [HV.out]; first | done | rfl, S8.out.below⟩
      · rw [decide_eq_false ho] at hO
        have HO := Lib.hid hO
        have HV := Lib.hid (show decide (PlkR p s l L P) = false from decide_eq_false (fun h => ho h.1))
        clear hO ho
        go_wp2_with fail
        refine (HO.out _).mono ?_
        rintro e w3 ⟨rfl, hb⟩
        have S7 := Lib.hid (SS.out.more hb)
        clear hb SS
        go_wp2
        go_ret
        exact ⟨by rw [HV.out]; first | done | rfl, S7.out.below⟩
    have hd : decide (k < P.length) = true := by simp; omega
    have hd' : decide ((k : Int) < (P.length : Int)) = true := by simp; omega
    obtain ⟨bb, off, rfl, hbb, hc⟩ := slCellsI (b := 0) (off := 0) (HP.out _ SS.out.below) (by omega)
    have HC := Lib.hid hc
    obtain ⟨c0, c1⟩ := hc k hlt
    have HE := Lib.hid (slAt_eq hlt)
    clear hc
    generalize P[k] = z at *
    obtain ⟨x0, x1⟩ := z
    simp only [] at c0 c1
    have HKL := Lib.hid hlt
    have hall : ∀ q : Prop, (InW (fun W => St w W [boxT w.heap.size (obL p s l)]) → q) ↔ q := fun q => ⟨fun h => h ⟨_, SS.out⟩, fun h _ => h⟩
    have o0 : ∀ u : InW (fun W => St w W [boxT w.heap.size (obL p s l)]), u.W.cell? ⟨w.heap.size, 0, none⟩ = some (.int .i64 p) := fun u => (u.ok.box 0 _ _ rfl).cell 0 (by simp)
    have o1 : ∀ u : InW (fun W => St w W [boxT w.heap.size (obL p s l)]), u.W.cell? ⟨w.heap.size, 1, none⟩ = some (.int .i64 s) := fun u => (u.ok.box 0 _ _ rfl).cell 1 (by simp)
    have o2 : ∀ u : InW (fun W => St w W [boxT w.heap.size (obL p s l)]), u.W.cell? ⟨w.heap.size, 2, none⟩ = some (.int .i64 l) := fun u => (u.ok.box 0 _ _ rfl).cell 2 (by simp)
    have pk : ∀ u : InW (fun W => St w W [boxT w.heap.size (obL p s l)]), u.W.cell? ⟨bb, off + k * 2, none⟩ = some (.int .i64 x0) := fun u => (u.ok.below.cell (p := ⟨bb, off + k * 2, none⟩) hbb).trans ((SS.out.below.cell (p := ⟨bb, off + k * 2, none⟩) hbb).symm.trans c0)
    have HPC := Lib.hid (fun W (hb : Below w.heap.size w W) => (show W.cell? ⟨bb, off + k * 2, none⟩ = some (.int .i64 x0) ∧ W.cell? ⟨bb, off + k * 2 + 1, none⟩ = some (.int .i64 x1) from ⟨(hb.cell (p := ⟨bb, off + k * 2, none⟩) hbb).trans ((SS.out.below.cell (p := ⟨bb, off + k * 2, none⟩) hbb).symm.trans c0), (hb.cell (p := ⟨bb, off + k * 2 + 1, none⟩) hbb).trans ((SS.out.below.cell (p := ⟨bb, off + k * 2 + 1, none⟩) hbb).symm.trans c1)⟩))
    go_upto_region 4 with fail
    go_cut [42] from 17 to 42 (fun s42 wx => ∃ z : Bool, s42 = .bool z ∧ (z = false → Vis p s l x0 ∧ (0 < k → (slAt P (k - 1)).1 < x0)) ∧ (z = true → ¬ SlMod (VisB p s l) L P k) ∧ St w wx [boxT w.heap.size (obL p s l)])
    case first =>
      by_cases hv : Vis p s l x0
      rotate_left
      · have hno : ¬ SlMod (VisB p s l) L P k := fun h => by have h1 := of_decide_eq_true h.1; rw [HE.out] at h1; exact hv h1
        have hVV := HVS.out x0
        rw [decide_eq_false hv] at hVV
        have HVV := Lib.hid (fun W (hW : St w W [boxT w.heap.size (obL p s l)]) => (hVV W).mono fun e w' h => (show e = .returned (.bool false) ∧ St w w' [boxT w.heap.size (obL p s l)] from ⟨h.1, hW.more h.2⟩))
        clear hVV
        refine wp_region_inW (fun W => St w W [boxT w.heap.size (obL p s l)]) (by kernel_rfl) (by kernel_rfl) SS.out.drew ?_
        repeat (go_big_quiet_step (first | (go_at_call 36; (with_reducible exact calls_inW (C := fun W => St w W [boxT w.heap.size (obL p s l)]) (HVV.out _ (InW.ok (C := fun W => St w W [boxT w.heap.size (obL p s l)]) _))))))
        refine wpQuiet_nil ?_
        rintro W5 ⟨⟨_, F5⟩, rfl⟩
        go_wp2_with fail
        go_meet
        exact ⟨true, rfl, fun h => Bool.noConfusion h, fun _ => hno, F5⟩
      rcases Nat.eq_zero_or_pos k with hk0 | hk0
      · have dk : decide ((0 : Int) < (k : Int)) = false := decide_eq_false (by omega)
        have dk' : decide (0 < k) = false := decide_eq_false (by omega)
        have HK0 := Lib.hid hk0
        clear hk0
        have hVV := HVS.out x0
        rw [decide_eq_true hv] at hVV
        have HVV := Lib.hid (fun W (hW : St w W [boxT w.heap.size (obL p s l)]) => (hVV W).mono fun e w' h => (show e = .returned (.bool true) ∧ St w w' [boxT w.heap.size (obL p s l)] from ⟨h.1, hW.more h.2⟩))
        clear hVV
        refine wp_region_inW (fun W => St w W [boxT w.heap.size (obL p s l)]) (by kernel_rfl) (by kernel_rfl) SS.out.drew ?_
        repeat (go_big_quiet_step (first | (go_at_call 36; (with_reducible exact calls_inW (C := fun W => St w W [boxT w.heap.size (obL p s l)]) (HVV.out _ (InW.ok (C := fun W => St w W [boxT w.heap.size (obL p s l)]) _))))))
        refine wpQuiet_nil ?_
        rintro W5 ⟨⟨_, F5⟩, rfl⟩
        go_wp2_with fail
        go_meet
        exact ⟨false, rfl, fun _ => ⟨hv, fun h => by have := HK0.out; omega⟩, fun h => Bool.noConfusion h, F5⟩
      · have dk : decide ((0 : Int) < (k : Int)) = true := decide_eq_true (by omega)
        have dk' : decide (0 < k) = true := decide_eq_true (by omega)
        obtain ⟨m, hm⟩ : ∃ m, k = m + 1 := ⟨k - 1, by omega⟩
        have hml : m < P.length := by omega
        have dml : decide (m < P.length) = true := decide_eq_true hml
        have dml' : decide ((m : Int) < (P.length : Int)) = true := decide_eq_true (by omega)
        have wk : wrap64 ((k : Int) - 1) = (m : Int) := by unfold wrap64; omega
        have wk' : IntKind.i64.wrap ((k : Int) - 1) = (m : Int) := by rw [show (k : Int) - 1 = (m : Int) by omega]; exact IntWalk.i64_in _ (by omega)
        obtain ⟨n0, _⟩ := HC.out m hml
        have HEM := Lib.hid (show (slAt P (k - 1)).1 = (P[m]'hml).1 from by rw [show k - 1 = m by omega, slAt_eq hml])
        generalize (P[m]'hml).1 = t0 at *
        have pm : ∀ u : InW (fun W => St w W [boxT w.heap.size (obL p s l)]), u.W.cell? ⟨bb, off + m * 2, none⟩ = some (.int .i64 t0) := fun u => (u.ok.below.cell (p := ⟨bb, off + m * 2, none⟩) hbb).trans ((SS.out.below.cell (p := ⟨bb, off + m * 2, none⟩) hbb).symm.trans n0)
        clear hm
        by_cases htt : t0 < x0
        · have dt : decide (x0 ≤ t0) = false := decide_eq_false (by omega)
          have hVV := HVS.out x0
          rw [decide_eq_true hv] at hVV
          have HVV := Lib.hid (fun W (hW : St w W [boxT w.heap.size (obL p s l)]) => (hVV W).mono fun e w' h => (show e = .returned (.bool true) ∧ St w w' [boxT w.heap.size (obL p s l)] from ⟨h.1, hW.more h.2⟩))
          clear hVV
          refine wp_region_inW (fun W => St w W [boxT w.heap.size (obL p s l)]) (by kernel_rfl) (by kernel_rfl) SS.out.drew ?_
          repeat (go_big_quiet_step (first | (go_at_call 36; (with_reducible exact calls_inW (C := fun W => St w W [boxT w.heap.size (obL p s l)]) (HVV.out _ (InW.ok (C := fun W => St w W [boxT w.heap.size (obL p s l)]) _))))))
          refine wpQuiet_nil ?_
          rintro W5 ⟨⟨_, F5⟩, rfl⟩
          go_wp2_with fail
          go_meet
          exact ⟨false, rfl, fun _ => ⟨hv, fun _ => by rw [HEM.out]; exact htt⟩, fun h => Bool.noConfusion h, F5⟩
        · have dt : decide (x0 ≤ t0) = true := decide_eq_true (by omega)
          have hno : ¬ SlMod (VisB p s l) L P k := fun h => by have h1 := h.2.1 hk0; rw [HEM.out, HE.out] at h1; exact htt h1
          have hVV := HVS.out x0
          rw [decide_eq_true hv] at hVV
          have HVV := Lib.hid (fun W (hW : St w W [boxT w.heap.size (obL p s l)]) => (hVV W).mono fun e w' h => (show e = .returned (.bool true) ∧ St w w' [boxT w.heap.size (obL p s l)] from ⟨h.1, hW.more h.2⟩))
          clear hVV
          refine wp_region_inW (fun W => St w W [boxT w.heap.size (obL p s l)]) (by kernel_rfl) (by kernel_rfl) SS.out.drew ?_
          repeat (go_big_quiet_step (first | (go_at_call 36; (with_reducible exact calls_inW (C := fun W => St w W [boxT w.heap.size (obL p s l)]) (HVV.out _ (InW.ok (C := fun W => St w W [boxT w.heap.size (obL p s l)]) _))))))
          refine wpQuiet_nil ?_
          rintro W5 ⟨⟨_, F5⟩, rfl⟩
          go_wp2_with fail
          go_meet
          exact ⟨true, rfl, fun h => Bool.noConfusion h, fun _ => hno, F5⟩
    case rest =>
      obtain ⟨z, rfl, hz1, hz2, hT⟩ := hcut
      obtain ⟨wo, rfl⟩ : ∃ x, x = wr := ⟨_, rfl⟩
      generalize wc = w5 at *
      have S5 := Lib.hid hT
      have HZ1 := Lib.hid hz1
      have HZ2 := Lib.hid hz2
      clear hT hz1 hz2 hall o0 o1 o2 pk SS c0 c1
      cases z with
      | true =>
        have HV := Lib.hid (HNO.out k HKL.out (HZ2.out rfl))
        go_wp2
        go_ret
        exact ⟨by rw [HV.out]; first | done | rfl, S5.out.below⟩
      | false =>
        have HVK := Lib.hid (HZ1.out rfl)
        clear HZ1 HZ2
        go_wp2
        go_loopg [9, 8] L.length (fun gh v1 v2 wy => ∃ (i : Nat) (fb : Bool), i ≤ L.length ∧ gh = L.length - i ∧ v1 = .int .i64 (i : Int) ∧ v2 = .bool fb ∧ (fb = true ↔ ∃ i', i' < i ∧ Gd L P x0 x1 i') ∧ St w wy [boxT w.heap.size (obL p s l)])
        case atStart => exact ⟨0, false, by omega, rfl, rfl, rfl, ⟨fun h => Bool.noConfusion h, fun ⟨j, hj, _⟩ => by omega⟩, S5.out⟩
        case round =>
          obtain ⟨i, fb, hi, rfl, rfl, rfl, hfb, hst⟩ := hrel
          have HFB := Lib.hid hfb
          have ST := Lib.hid hst
          clear hfb hst S5
          by_cases hli : i < L.length
          rotate_left
          · have e2 : decide (i < L.length) = false := by simp; omega
            have e2' : decide ((i : Int) < (L.length : Int)) = false := by simp; omega
            obtain rfl : i = L.length := by omega
            have HKM := Lib.hid (show fb = true ↔ SlMod (VisB p s l) L P k from ⟨fun h => by
              obtain ⟨i', h1, h2⟩ := HFB.out.1 h
              refine ⟨by rw [HE.out]; exact decide_eq_true HVK.out.1, fun h0 => by rw [HE.out]; exact HVK.out.2 h0, i', h1, ?_⟩
              rw [HE.out]; exact h2, fun h => by
              obtain ⟨_, _, i', h1, h2⟩ := h
              rw [HE.out] at h2
              exact HFB.out.2 ⟨i', h1, h2⟩⟩)
            clear hli
            cases fb with
            | true =>
              have HA2 := Lib.hid (show ∀ k', k' < k + 1 → SlMod (VisB p s l) L P k' from fun k' h' => by
                rcases Nat.lt_succ_iff_lt_or_eq.1 h' with h3 | rfl
                · exact HA.out k' h3
                · exact HKM.out.1 rfl)
              have hkl := HKL.out
              go_wp2
              go_roundg (P.length - (k + 1))
              case measure => omega
              case rel => exact ⟨k + 1, by omega, rfl, by go_num, HA2.out, ST.out⟩
            | false =>
              have HV := Lib.hid (HNO.out k HKL.out (fun h => Bool.noConfusion (HKM.out.2 h)))
              go_wp2
              go_ret
              exact ⟨by rw [HV.out]; first | done | rfl, ST.out.below⟩
          have e2 : decide (i < L.length) = true := by simp; omega
          have e2' : decide ((i : Int) < (L.length : Int)) = true := by simp; omega
          obtain ⟨bl, ofl, rfl, hbl, hcl⟩ := rqCellsI (b := 0) (off := 0) (HI.out _ ST.out.below) (by omega)
          obtain ⟨r0, r1, r2, r3⟩ := hcl i hli
          have HEI := Lib.hid (show rqAt L i = L[i] from by simp [rqAt, hli])
          have HIL := Lib.hid hli
          clear hcl
          generalize L[i] = zz at *
          obtain ⟨y0, y1, y2, y3⟩ := zz
          simp only [] at r0 r1 r2 r3
          have S3 := Lib.hid (ST.out.made (rqL y0 y1 y2 y3) 80)
          have hall2 : ∀ q : Prop, (InW (fun W => St w W [boxT wr.heap.size (rqL y0 y1 y2 y3), boxT w.heap.size (obL p s l)]) → q) ↔ q := fun q => ⟨fun h => h ⟨_, S3.out⟩, fun h _ => h⟩
          have f0 : ∀ u : InW (fun W => St w W [boxT wr.heap.size (rqL y0 y1 y2 y3), boxT w.heap.size (obL p s l)]), u.W.cell? ⟨wr.heap.size, 0, none⟩ = some (.int .i64 y0) := fun u => (u.ok.box 0 _ _ rfl).cell 0 (by simp)
          have f1 : ∀ u : InW (fun W => St w W [boxT wr.heap.size (rqL y0 y1 y2 y3), boxT w.heap.size (obL p s l)]), u.W.cell? ⟨wr.heap.size, 1, none⟩ = some (.int .i64 y1) := fun u => (u.ok.box 0 _ _ rfl).cell 1 (by simp)
          have f2 : ∀ u : InW (fun W => St w W [boxT wr.heap.size (rqL y0 y1 y2 y3), boxT w.heap.size (obL p s l)]), u.W.cell? ⟨wr.heap.size, 2, none⟩ = some (.int .i64 y2) := fun u => (u.ok.box 0 _ _ rfl).cell 2 (by simp)
          have f3 : ∀ u : InW (fun W => St w W [boxT wr.heap.size (rqL y0 y1 y2 y3), boxT w.heap.size (obL p s l)]), u.W.cell? ⟨wr.heap.size, 3, none⟩ = some (.int .i64 y3) := fun u => (u.ok.box 0 _ _ rfl).cell 3 (by simp)
          have q0 : ∀ u : InW (fun W => St w W [boxT wr.heap.size (rqL y0 y1 y2 y3), boxT w.heap.size (obL p s l)]), u.W.cell? ⟨bb, off + k * 2, none⟩ = some (.int .i64 x0) := fun u => (HPC.out _ u.ok.below).1
          have q1 : ∀ u : InW (fun W => St w W [boxT wr.heap.size (rqL y0 y1 y2 y3), boxT w.heap.size (obL p s l)]), u.W.cell? ⟨bb, off + k * 2 + 1, none⟩ = some (.int .i64 x1) := fun u => (HPC.out _ u.ok.below).2
          have HGD := Lib.hid (show Gd L P x0 x1 i ↔ (y0 = x1 ∧ (y1 ≤ x0 ∧ x0 ≤ y2) ∧ (soR P y0 : Int) ≤ y3) from by
            show ((rqAt L i).1 = x1 ∧ ((rqAt L i).2.1 ≤ x0 ∧ x0 ≤ (rqAt L i).2.2.1) ∧ (soR P (rqAt L i).1 : Int) ≤ (rqAt L i).2.2.2) ↔ _
            rw [HEI.out])
          have HNG := Lib.hid (show ¬ Gd L P x0 x1 i → (fb = true ↔ ∃ i', i' < i + 1 ∧ Gd L P x0 x1 i') from fun hn => ⟨fun h => by obtain ⟨i', h1, h2⟩ := HFB.out.1 h; exact ⟨i', by omega, h2⟩, fun ⟨i', h1, h2⟩ => HFB.out.2 ⟨i', by
            rcases Nat.lt_succ_iff_lt_or_eq.1 h1 with h3 | rfl
            · exact h3
            · exact absurd h2 hn, h2⟩⟩)
          obtain ⟨so, hso⟩ : ∃ so : Int, (soR P y0 : Int) = so := ⟨_, rfl⟩
          have HGE := Lib.hid (show Gd L P x0 x1 i ↔ (y0 = x1 ∧ (y1 ≤ x0 ∧ x0 ≤ y2) ∧ so ≤ y3) from by rw [HGD.out, hso])
          clear ST HGD
          by_cases h1 : y0 = x1
          rotate_left
          · have t1 : (y0 == x1) = false := beq_false_of_ne h1
            have hng : ¬ Gd L P x0 x1 i := fun g => h1 (HGE.out.1 g).1
            go_wp2
            refine wp_region_inW (fun W => St w W [boxT wr.heap.size (rqL y0 y1 y2 y3), boxT w.heap.size (obL p s l)]) (by kernel_rfl) (by kernel_rfl) S3.out.drew ?_
            repeat (go_big_quiet_step (fail))
            refine wpQuiet_nil ?_
            rintro W5 ⟨⟨_, F5⟩, rfl⟩
            have S6 := Lib.hid (F5.pick [1] (by decide))
            clear F5 S3 hall2
            have hil := HIL.out
            go_wp2
            go_roundg (L.length - (i + 1))
            case measure => omega
            case rel => exact ⟨i + 1, fb, by omega, rfl, by go_num, rfl, HNG.out hng, S6.out⟩
          have t1 : (y0 == x1) = true := by simpa using h1
          have H1E := Lib.hid h1
          clear h1
          by_cases h2 : y1 ≤ x0 ∧ x0 ≤ y2
          rotate_left
          · have hng : ¬ Gd L P x0 x1 i := fun g => h2 (HGE.out.1 g).2.1
            have hII := HIW.out x0 y1 y2
            rw [decide_eq_false h2] at hII
            have HII := Lib.hid (fun W (hW : St w W [boxT wr.heap.size (rqL y0 y1 y2 y3), boxT w.heap.size (obL p s l)]) => (hII W).mono fun e w' h => (show e = .returned (.bool false) ∧ St w w' [boxT wr.heap.size (rqL y0 y1 y2 y3), boxT w.heap.size (obL p s l)] from ⟨h.1, by rw [← h.2]; exact hW⟩))
            clear hII
            go_wp2
            refine wp_region_inW (fun W => St w W [boxT wr.heap.size (rqL y0 y1 y2 y3), boxT w.heap.size (obL p s l)]) (by kernel_rfl) (by kernel_rfl) S3.out.drew ?_
            repeat (go_big_quiet_step (first | (go_at_call 37; (with_reducible exact calls_inW (C := fun W => St w W [boxT wr.heap.size (rqL y0 y1 y2 y3), boxT w.heap.size (obL p s l)]) (HII.out _ (InW.ok (C := fun W => St w W [boxT wr.heap.size (rqL y0 y1 y2 y3), boxT w.heap.size (obL p s l)]) _))))))
            refine wpQuiet_nil ?_
            rintro W5 ⟨⟨_, F5⟩, rfl⟩
            have S6 := Lib.hid (F5.pick [1] (by decide))
            clear F5 S3 hall2
            have hil := HIL.out
            go_wp2
            go_roundg (L.length - (i + 1))
            case measure => omega
            case rel => exact ⟨i + 1, fb, by omega, rfl, by go_num, rfl, HNG.out hng, S6.out⟩
          by_cases h3 : so ≤ y3
          rotate_left
          · have t3 : decide (so ≤ y3) = false := decide_eq_false h3
            have hng : ¬ Gd L P x0 x1 i := fun g => h3 (HGE.out.1 g).2.2
            have hII := HIW.out x0 y1 y2
            rw [decide_eq_true h2] at hII
            have HII := Lib.hid (fun W (hW : St w W [boxT wr.heap.size (rqL y0 y1 y2 y3), boxT w.heap.size (obL p s l)]) => (hII W).mono fun e w' h => (show e = .returned (.bool true) ∧ St w w' [boxT wr.heap.size (rqL y0 y1 y2 y3), boxT w.heap.size (obL p s l)] from ⟨h.1, by rw [← h.2]; exact hW⟩))
            clear hII
            have HSO := Lib.hid (fun W (hW : St w W [boxT wr.heap.size (rqL y0 y1 y2 y3), boxT w.heap.size (obL p s l)]) => (HS.out y0 W hW.below).mono fun e w' h => (show e = .returned (.int .i64 so) ∧ St w w' [boxT wr.heap.size (rqL y0 y1 y2 y3), boxT w.heap.size (obL p s l)] from ⟨by rw [← hso]; exact h.1, hW.more h.2⟩))
            go_wp2
            refine wp_region_inW (fun W => St w W [boxT wr.heap.size (rqL y0 y1 y2 y3), boxT w.heap.size (obL p s l)]) (by kernel_rfl) (by kernel_rfl) S3.out.drew ?_
            repeat (go_big_quiet_step (first | (go_at_call 37; (with_reducible exact calls_inW (C := fun W => St w W [boxT wr.heap.size (rqL y0 y1 y2 y3), boxT w.heap.size (obL p s l)]) (HII.out _ (InW.ok (C := fun W => St w W [boxT wr.heap.size (rqL y0 y1 y2 y3), boxT w.heap.size (obL p s l)]) _)))) | (go_at_call 38; (with_reducible exact calls_inW (C := fun W => St w W [boxT wr.heap.size (rqL y0 y1 y2 y3), boxT w.heap.size (obL p s l)]) (HSO.out _ (InW.ok (C := fun W => St w W [boxT wr.heap.size (rqL y0 y1 y2 y3), boxT w.heap.size (obL p s l)]) _))))))
            refine wpQuiet_nil ?_
            rintro W5 ⟨⟨_, F5⟩, rfl⟩
            have S6 := Lib.hid (F5.pick [1] (by decide))
            clear F5 S3 hall2
            have hil := HIL.out
            go_wp2
            go_roundg (L.length - (i + 1))
            case measure => omega
            case rel => exact ⟨i + 1, fb, by omega, rfl, by go_num, rfl, HNG.out hng, S6.out⟩
          have t3 : decide (so ≤ y3) = true := decide_eq_true h3
          have HYG := Lib.hid (show ∃ i', i' < i + 1 ∧ Gd L P x0 x1 i' from ⟨i, by omega, HGE.out.2 ⟨H1E.out, h2, h3⟩⟩)
          have hII := HIW.out x0 y1 y2
          rw [decide_eq_true h2] at hII
          have HII := Lib.hid (fun W (hW : St w W [boxT wr.heap.size (rqL y0 y1 y2 y3), boxT w.heap.size (obL p s l)]) => (hII W).mono fun e w' h => (show e = .returned (.bool true) ∧ St w w' [boxT wr.heap.size (rqL y0 y1 y2 y3), boxT w.heap.size (obL p s l)] from ⟨h.1, by rw [← h.2]; exact hW⟩))
          clear hII
          have HSO := Lib.hid (fun W (hW : St w W [boxT wr.heap.size (rqL y0 y1 y2 y3), boxT w.heap.size (obL p s l)]) => (HS.out y0 W hW.below).mono fun e w' h => (show e = .returned (.int .i64 so) ∧ St w w' [boxT wr.heap.size (rqL y0 y1 y2 y3), boxT w.heap.size (obL p s l)] from ⟨by rw [← hso]; exact h.1, hW.more h.2⟩))
          go_wp2
          refine wp_region_inW (fun W => St w W [boxT wr.heap.size (rqL y0 y1 y2 y3), boxT w.heap.size (obL p s l)]) (by kernel_rfl) (by kernel_rfl) S3.out.drew ?_
          repeat (go_big_quiet_step (first | (go_at_call 37; (with_reducible exact calls_inW (C := fun W => St w W [boxT wr.heap.size (rqL y0 y1 y2 y3), boxT w.heap.size (obL p s l)]) (HII.out _ (InW.ok (C := fun W => St w W [boxT wr.heap.size (rqL y0 y1 y2 y3), boxT w.heap.size (obL p s l)]) _)))) | (go_at_call 38; (with_reducible exact calls_inW (C := fun W => St w W [boxT wr.heap.size (rqL y0 y1 y2 y3), boxT w.heap.size (obL p s l)]) (HSO.out _ (InW.ok (C := fun W => St w W [boxT wr.heap.size (rqL y0 y1 y2 y3), boxT w.heap.size (obL p s l)]) _))))))
          refine wpQuiet_nil ?_
          rintro W5 ⟨⟨_, F5⟩, rfl⟩
          have S6 := Lib.hid (F5.pick [1] (by decide))
          clear F5 S3 hall2
          have hil := HIL.out
          go_wp2
          go_roundg (L.length - (i + 1))
          case measure => omega
          case rel => exact ⟨i + 1, true, by omega, rfl, by go_num, rfl, ⟨fun _ => HYG.out, fun _ => rfl⟩, S6.out⟩
end Go.Proofs.Ytdfcamlnebcbpac
