/- What this text proves: the parts ITkr of the proof, each under its own words. -/
import Derived.Test.YtckofkdeedbbgaaRR26
import Derived.Test.YtckofkdeedbbgaaRR23
import Derived.Deep.RegionHeld3
import Derived.Deep.Cut
import Derived.Deep.CutRange
/- What this text proves: the contract of the program's TakeRecords. -/
namespace Go.Proofs.Ytckofkdeedbbgaa
open Go.ChangeShapes Go.WideShapes Go.ChangeAt Go.RowKit
set_option linter.unusedVariables false

set_option maxRecDepth 20000 in
set_option maxHeartbeats 4000000 in
theorem tkr_impl (r : Int) (A A2 : Option Addr) (l : List Rc) (d : List Int) (c c2 : Nat) (hcl : l.length ≤ c) (n : Int) (hl : l.length ≤ 1099511) (hs : totRc l l.length ≤ 4000000) (hd : d.length ≤ 1099511) (w : World) (h1 : LsI 4 w w.heap.size A (l.map rcC)) (h2 : LsI 1 w w.heap.size A2 (d.map inC)) :
    Calls Try.prog 21 #[roV r (.slice A l.length c) (.slice A2 d.length c2), .int .i64 n] w fun e w' => TkrEnd w e w' r l d (tkrK r l d n) := by
  have hz : ((w.alloc (.cells (roL r (.slice A l.length c) (.slice A2 d.length c2)).toArray 30)).alloc (.cells (roL 0 (.slice none 0 0) (.slice none 0 0)).toArray 30)).heap.size = w.heap.size + 2 := by simp
  have BB : Below w.heap.size w ((w.alloc (.cells (roL r (.slice A l.length c) (.slice A2 d.length c2)).toArray 30)).alloc (.cells (roL 0 (.slice none 0 0) (.slice none 0 0)).toArray 30)) := ((Below.refl _ w).alloc (Nat.le_refl _) _).alloc (by simp) _
  have BP := Lib.hid ((Box.made w (roL r (.slice A l.length c) (.slice A2 d.length c2)) 30 w.heap.size rfl).alloc (.cells (roL 0 (.slice none 0 0) (.slice none 0 0)).toArray 30))
  have BR := Lib.hid (Box.made (w.alloc (.cells (roL r (.slice A l.length c) (.slice A2 d.length c2)).toArray 30)) (roL 0 (.slice none 0 0) (.slice none 0 0)) 30 (w.heap.size + 1) (by simp))
  have HC := Lib.hid (rocopy_impl r A A2 l d c c2 hl hd _ (h1.full BB) (h2.full BB))
  have HK := Lib.hid (fun W (hb : Below w.heap.size w W) => rcr_impl r A A2 l d c c2 (by omega) hs (by omega) W (h1.full hb) (h2.full hb))
  have HL := Lib.hid (fun (K : Nat) (hK : K ≤ l.length) W (hb : Below w.heap.size w W) => (show Calls Try.prog 71 #[.slice A K c] W fun e w' => ∃ u, e = .returned u ∧ OwnRc w' W.heap.size u (l.take K) ∧ Below W.heap.size W w' from by
    have h := clone_rcs A (l.take K) c (by rw [List.length_take]; omega) W (by rw [List.map_take]; exact (h1.full hb).take K)
    rw [List.length_take, Nat.min_eq_left hK] at h
    exact h.mono fun e w' ⟨A1, c1, h1, h2, h3⟩ => ⟨_, h1, OwnR.toO h2, h3⟩))
  have HZ := Lib.hid hz
  have HB := Lib.hid BB
  clear h1 h2 BB hz
  by_cases g1 : RcrOk r l d
  · rw [rcrB_yes g1] at HK
    by_cases g2 : 0 ≤ n
    · obtain ⟨n, rfl⟩ := Int.eq_ofNat_of_zero_le g2
      have hK := tkrK_yes g1 g2
      rw [Int.toNat_natCast] at hK
      have hKl : min n l.length ≤ l.length := Nat.min_le_right _ _
      have hmn : min (n : Int) (l.length : Int) = ((min n l.length : Nat) : Int) := by omega
      rw [hK]
      obtain ⟨K, hKe⟩ : ∃ K, min n l.length = K := ⟨_, rfl⟩
      rw [hKe] at hKl hmn ⊢
      have hn0 : decide ((n : Int) < 0) = false := by simp
      have hK0 : decide ((K : Int) < 0) = false := by simp
      have hmn2 : (if (n : Int) ≤ (l.length : Int) then (n : Int) else (l.length : Int)) = (K : Int) := by rw [← hmn]; rfl
      have hmn3 : (if (l.length : Int) < (n : Int) then (l.length : Int) else (n : Int)) = (K : Int) := by rw [← hmn]; split <;> omega
      have hmn4 : (if (n : Int) < (l.length : Int) then (n : Int) else (l.length : Int)) = (K : Int) := by rw [← hmn]; split <;> omega
      have hmn5 : (if l.length < n then (l.length : Int) else (n : Int)) = (K : Int) := by rw [← hmn]; split <;> omega
      clear hK hKe g1 g2 hmn hmn2 hmn3 hmn4
      go_enter Try.func21, Try.ntmps21
      go_wp2_with fail
      refine HC.out.mono ?_
      rintro e w2 ⟨v, rfl, hown, hb⟩
      obtain ⟨A3, c3, A4, c4, rfl, hq1, hq2, hap⟩ := hown.form
      rw [HZ.out] at hq1 hq2
      have T3 := Lib.hid (show TR w (w2.alloc (.cells (roL r (.slice A3 l.length c3) (.slice A4 d.length c4)).toArray 30)) w2.heap.size (roL r (.slice A l.length c) (.slice A2 d.length c2)) (roL 0 (.slice none 0 0) (.slice none 0 0)) (roL r (.slice A3 l.length c3) (.slice A4 d.length c4)) from
        (⟨(HB.out.trans (hb.mono (by rw [HZ.out]; omega))).alloc (by have := hb.size; rw [HZ.out] at this; omega) _, (BP.out.more hb).alloc _, (BR.out.more hb).alloc _, Box.made w2 _ _ _ rfl, by have := hb.size; rw [HZ.out] at this; exact this⟩))
      have Q1 := Lib.hid (OwnR.more hq1 ((Below.refl _ _).alloc (Nat.le_refl _) (.cells (roL r (.slice A3 l.length c3) (.slice A4 d.length c4)).toArray 30)))
      have Q2 := Lib.hid (OwnR.more hq2 ((Below.refl _ _).alloc (Nat.le_refl _) (.cells (roL r (.slice A3 l.length c3) (.slice A4 d.length c4)).toArray 30)))
      have U1 := Lib.hid (fun k hk => (OwnR.upto hq1 k hk).2)
      have U2 := Lib.hid (fun k hk => (OwnR.upto hq2 k hk).2)
      have HAP := Lib.hid hap
      clear hq1 hq2 hap hown hb BP BR HC
      obtain ⟨p0, p1, p2⟩ := T3.out.bp.threeQ
      have HK3 := Lib.hid (HK.out _ T3.out.below)
      go_wp2_with fail
      refine HK3.out.mono ?_
      rintro e w4 ⟨rfl, hb⟩
      have T4 := Lib.hid (T3.out.more hb)
      have Q3 := Lib.hid (OwnR.more Q1.out hb)
      have Q4 := Lib.hid (OwnR.more Q2.out hb)
      clear hb p0 p1 p2 T3 Q1 Q2 HK3
      obtain ⟨p0, p1, p2⟩ := T4.out.bp.threeQ
      obtain ⟨o0, o1, o2⟩ := T4.out.bo.threeQ
      have oi := T4.out.bo.ice
      have hcut := cut_rcs A3 l.length c3 K hKl
      have hhead := head_rcs A l.length c K (by omega)
      have hcut' : (Instr.slice 28 (.slice A3 l.length c3) (some (.int .i64 (K : Int))) none none).run Try.prog w4 = .ok (.slice (if c3 = K then A3 else A3.map (·.add (K * 4))) (l.length - K) (c3 - K)) w4 := hcut w4
      have HDR := Lib.hid (Q3.out.dropO K hKl)
      rw [List.length_drop, List.length_map] at HDR
      obtain ⟨AD, hAD⟩ : ∃ AD, (if c3 = K then A3 else A3.map (·.add (K * 4))) = AD := ⟨_, rfl⟩
      have hADe := Lib.hid hAD
      rw [hAD] at HDR hcut'
      simp only [hAD] at hcut
      clear hAD hcut'
      have T5 := Lib.hid (T4.out.setO 1 (by simp) (.slice AD (l.length - K) (c3 - K)))
      obtain ⟨s0, s1, s2⟩ := (show Box _ _ (roL r (.slice AD (l.length - K) (c3 - K)) (.slice A4 d.length c4)) from T5.out.bo).threeQ
      obtain ⟨t0, t1, t2⟩ := T5.out.bp.threeQ
      have Q5 := Lib.hid (LsO.away HDR.out (g := w2.heap.size) (j := 1) (fun e => by
        have h := HDR.out.up _ e
        have hz := U1.out w2.heap.size (by
          rw [← hADe.out] at e
          split at e
          · cases A3 with
            | none => cases e
            | some a => exact e
          · cases A3 with
            | none => cases e
            | some a =>
              have ha : (a.add (K * 4)).block = a.block := by unfold Addr.add; split <;> rfl
              have e' : some (a.add (K * 4)).block = some w2.heap.size := e
              rw [ha] at e'
              exact e')
        omega) (.slice AD (l.length - K) (c3 - K)))
      have Q6 := Lib.hid (LsO.away (OwnR.toO Q4.out) (g := w2.heap.size) (j := 1) (fun e => by have := U2.out _ e; omega) (.slice AD (l.length - K) (c3 - K)))
      have HAP5 := Lib.hid (show Apart (.slice AD (l.length - K) (c3 - K)) (.slice A4 d.length c4) from fun k hk hu => by
        refine HAP.out k ?_ hu
        rw [← hADe.out] at hk
        split at hk
        · cases A3 with
          | none => cases hk
          | some a => exact hk
        · cases A3 with
          | none => cases hk
          | some a =>
            have ha : (a.add (K * 4)).block = a.block := by unfold Addr.add; split <;> rfl
            have e' : some (a.add (K * 4)).block = some k := hk
            rw [ha] at e'
            exact e')
      go_upto_region 6 with fail
      generalize w4.setCell ⟨w2.heap.size, 1, none⟩ (.slice AD (l.length - K) (c3 - K)) = w5 at *
      clear s0 s1 s2 t0 t1 t2 p0 p1 p2 o0 o1 o2 oi hcut T4 Q3 Q4 HDR
      have T6 := Lib.hid T5.out.drew
      obtain ⟨s0, s1, s2⟩ := (show Box _ _ (roL r (.slice AD (l.length - K) (c3 - K)) (.slice A4 d.length c4)) from T6.out.bo).threeQ
      obtain ⟨t0, t1, t2⟩ := T6.out.bp.threeQ
      have HL6 := Lib.hid ((HL.out K hKl _ T6.out.below).mono fun e w' h => (show ∃ u, e = .returned u ∧ OwnRc w' w5.drew.heap.size u (l.take K) ∧ Below w5.drew.heap.size w5.drew w' ∧ Cells3Q w' w2.heap.size (.int .i64 r) (.slice AD (l.length - K) (c3 - K)) (.slice A4 d.length c4) ∧ w'.cell? ⟨w.heap.size, 1, none⟩ = some (.slice A l.length c) ∧ Cells3Q w' (w.heap.size + 1) (.int .i64 0) (.slice none 0 0) (.slice none 0 0) ∧ (∀ j, w'.frozen? ⟨w.heap.size + 1, j, none⟩ = false) from by
        obtain ⟨u, h1, h2, h3⟩ := h
        exact ⟨u, h1, h2, h3, (show Box _ _ (roL r (.slice AD (l.length - K) (c3 - K)) (.slice A4 d.length c4)) from (T6.out.more h3).bo).threeQ, (T6.out.more h3).bp.threeQ.2.1, (T6.out.more h3).br.threeQ, (T6.out.more h3).br.ice⟩))
      go_region_held3 (fun w' => w'.cell? ⟨w2.heap.size, 0, none⟩ = some (.int .i64 r) ∧ w'.cell? ⟨w2.heap.size, 1, none⟩ = some (.slice AD (l.length - K) (c3 - K)) ∧ w'.cell? ⟨w2.heap.size, 2, none⟩ = some (.slice A4 d.length c4) ∧ w'.cell? ⟨w.heap.size, 1, none⟩ = some (.slice A l.length c)) (first | exact ⟨s0, s1, s2, t1⟩ | exact ⟨l0, l1, l2, l3⟩ | exact ⟨n0, n1, n2, n3⟩)
        (first
          | (go_at_call 71; (with_reducible refine HL6.out.mono ?_); rintro e w7 ⟨u, rfl, O7, B7, ⟨l0, l1, l2⟩, l3, ⟨m0, m1, m2⟩, mi⟩; obtain ⟨n0, n1, n2⟩ := (Box.allOther (W := w7) (g := w2.heap.size) (ga := w.heap.size + 1) (by have := T6.out.hz; omega) (roL r (.slice AD (l.length - K) (c3 - K)) (.slice A4 d.length c4)) 0 w7 (T6.out.more B7).bo).threeQ; obtain ⟨_, n3, _⟩ := (Box.allOther (W := w7) (g := w.heap.size) (ga := w.heap.size + 1) (by omega) (roL r (.slice AD (l.length - K) (c3 - K)) (.slice A4 d.length c4)) 0 w7 (T6.out.more B7).bp).threeQ))
      all_goals
        have TF := (T6.out.more B7).fin (us := (roL r (.slice AD (l.length - K) (c3 - K)) (.slice A4 d.length c4))) rfl
        have H5 := LsO.more (LsO.more Q5.out (Below.refl _ _).drew) B7
        have H6 := LsO.more (LsO.more Q6.out (Below.refl _ _).drew) B7
        have hgz := T6.out.hz
        have HF5 := LsO.cellsPast (g := w.heap.size + 1) (b := w.heap.size + 2) (by omega) (roL r (.slice AD (l.length - K) (c3 - K)) (.slice A4 d.length c4)) 0 w7 H5
        have HF6 := LsO.cellsPast (g := w.heap.size + 1) (b := w.heap.size + 2) (by omega) (roL r (.slice AD (l.length - K) (c3 - K)) (.slice A4 d.length c4)) 0 w7 H6
        have hz5 := T6.out.below.size
        have hzz : w.heap.size + 2 ≤ w5.drew.heap.size := by have := T6.out.bo.lt; omega
        have HF7 := LsO.cellsPast (g := w.heap.size + 1) (b := w5.drew.heap.size) (by omega) (roL r (.slice AD (l.length - K) (c3 - K)) (.slice A4 d.length c4)) 0 w7 O7
        have HE := Lib.hid (show TkrEnd w (.returned (.tuple #[roV r (.slice AD (l.length - K) (c3 - K)) (.slice A4 d.length c4), u])) (w7.setCells (w.heap.size + 1) 0 (roL r (.slice AD (l.length - K) (c3 - K)) (.slice A4 d.length c4))) r l d K from
          ⟨_, u, rfl, ⟨AD, c3 - K, A4, c4, by rw [List.length_drop], by show LsO 4 _ _ _ ((l.drop K).map rcC); rw [List.map_drop, List.length_drop]; exact LsO.lower HF5 (by omega), LsO.lower HF6 (by omega), by rw [List.length_drop]; exact HAP5.out⟩, LsO.lower HF7 (by omega), fun k hk hu => by
            have h1 := (LsO.up O7 k hu).1
            rcases blkRo_iff.1 hk with e | e
            · have := (LsO.up Q5.out k e).2
              have hdz : w5.drew.heap.size = w5.heap.size := rfl
              omega
            · have := (LsO.up Q6.out k e).2
              have hdz : w5.drew.heap.size = w5.heap.size := rfl
              omega, TF.1⟩)
        have HB8 := Lib.hid TF.2
        clear TF H5 H6 HF5 HF6 HF7 n0 n1 n2 n3 l0 l1 l2 l3 m0 m1 m2 mi s0 s1 s2 t0 t1 t2
        go_wp2
        show bodyPost Try.prog Try.f21 _ Exit.ret _ (w7.setCells (w.heap.size + 1) 0 (roL r (.slice AD (l.length - K) (c3 - K)) (.slice A4 d.length c4)))
        generalize w7.setCells (w.heap.size + 1) 0 (roL r (.slice AD (l.length - K) (c3 - K)) (.slice A4 d.length c4)) = WE at *
        obtain ⟨q0, q1, q2⟩ := HB8.out.threeQ
        refine bodyPost_ret_by (v := .tuple #[roV r (.slice AD (l.length - K) (c3 - K)) (.slice A4 d.length c4), u]) ?_ rfl HE.out
        simp [results, Try.f21, go_sem, q0, q1, q2]
    · have hK := tkrK_no (r := r) (l := l) (d := d) (n := n) (fun h => g2 h.2)
      rw [hK]
      have hn0 : decide (n < 0) = true := decide_eq_true (by omega)
      clear g2 g1
      go_enter Try.func21, Try.ntmps21
      go_wp2_with fail
      refine HC.out.mono ?_
      rintro e w2 ⟨v, rfl, hown, hb⟩
      have O2 := OwnRr.toO hown
      obtain ⟨A3, c3, A4, c4, rfl, hq1, hq2, hap⟩ := O2.form
      rw [HZ.out] at hq1 hq2 O2
      have T3 := Lib.hid (show TR w (w2.alloc (.cells (roL r (.slice A3 l.length c3) (.slice A4 d.length c4)).toArray 30)) w2.heap.size (roL r (.slice A l.length c) (.slice A2 d.length c2)) (roL 0 (.slice none 0 0) (.slice none 0 0)) (roL r (.slice A3 l.length c3) (.slice A4 d.length c4)) from
        (⟨(HB.out.trans (hb.mono (by rw [HZ.out]; omega))).alloc (by have := hb.size; rw [HZ.out] at this; omega) _, (BP.out.more hb).alloc _, (BR.out.more hb).alloc _, Box.made w2 _ _ _ rfl, by have := hb.size; rw [HZ.out] at this; exact this⟩))
      have O3 := Lib.hid (OwnRo.more O2 ((Below.refl _ _).alloc (Nat.le_refl _) (.cells (roL r (.slice A3 l.length c3) (.slice A4 d.length c4)).toArray 30)))
      clear hq1 hq2 hap hown hb BP BR HC O2
      obtain ⟨p0, p1, p2⟩ := T3.out.bp.threeQ
      have HK3 := Lib.hid (HK.out _ T3.out.below)
      go_wp2_with fail
      refine HK3.out.mono ?_
      rintro e w4 ⟨rfl, hb⟩
      have T4 := T3.out.more hb
      have O4 := OwnRo.more O3.out hb
      obtain ⟨o0, o1, o2⟩ := T4.bo.threeQ
      obtain ⟨m0, m1, m2⟩ := T4.br.threeQ
      have mi := T4.br.ice
      have TF := T4.fin (us := (roL r (.slice A3 l.length c3) (.slice A4 d.length c4))) rfl
      have OF := OwnRo.cellsPast (g := w.heap.size + 1) (b := w.heap.size + 2) (by omega) (roL r (.slice A3 l.length c3) (.slice A4 d.length c4)) 0 O4
      have HE := Lib.hid (show TkrEnd w (.returned (.tuple #[roV r (.slice A3 l.length c3) (.slice A4 d.length c4), .slice none 0 0])) (w4.setCells (w.heap.size + 1) 0 (roL r (.slice A3 l.length c3) (.slice A4 d.length c4))) r l d 0 from
        ⟨_, _, rfl, OwnRo.lower OF (by omega), LsO.nil0 4 _ _ 0, (fun k _ hu => by cases hu), TF.1⟩)
      have HB8 := Lib.hid TF.2
      clear TF OF T4 O4 hb p0 p1 p2 T3 O3 HK3
      go_wp2
      show bodyPost Try.prog Try.f21 _ Exit.ret _ (w4.setCells (w.heap.size + 1) 0 (roL r (.slice A3 l.length c3) (.slice A4 d.length c4)))
      generalize w4.setCells (w.heap.size + 1) 0 (roL r (.slice A3 l.length c3) (.slice A4 d.length c4)) = WE at *
      obtain ⟨q0, q1, q2⟩ := HB8.out.threeQ
      refine bodyPost_ret_by (v := .tuple #[roV r (.slice A3 l.length c3) (.slice A4 d.length c4), .slice none 0 0]) ?_ rfl HE.out
      simp [results, Try.f21, go_sem, q0, q1, q2]
  · have hK := tkrK_no (r := r) (l := l) (d := d) (n := n) (fun h => g1 h.1)
    rw [hK]
    rw [rcrB_no g1] at HK
    clear g1
    go_enter Try.func21, Try.ntmps21
    go_wp2_with fail
    refine HC.out.mono ?_
    rintro e w2 ⟨v, rfl, hown, hb⟩
    have O2 := OwnRr.toO hown
    obtain ⟨A3, c3, A4, c4, rfl, hq1, hq2, hap⟩ := O2.form
    rw [HZ.out] at hq1 hq2 O2
    have T3 := Lib.hid (show TR w (w2.alloc (.cells (roL r (.slice A3 l.length c3) (.slice A4 d.length c4)).toArray 30)) w2.heap.size (roL r (.slice A l.length c) (.slice A2 d.length c2)) (roL 0 (.slice none 0 0) (.slice none 0 0)) (roL r (.slice A3 l.length c3) (.slice A4 d.length c4)) from
      (⟨(HB.out.trans (hb.mono (by rw [HZ.out]; omega))).alloc (by have := hb.size; rw [HZ.out] at this; omega) _, (BP.out.more hb).alloc _, (BR.out.more hb).alloc _, Box.made w2 _ _ _ rfl, by have := hb.size; rw [HZ.out] at this; exact this⟩))
    have O3 := Lib.hid (OwnRo.more O2 ((Below.refl _ _).alloc (Nat.le_refl _) (.cells (roL r (.slice A3 l.length c3) (.slice A4 d.length c4)).toArray 30)))
    clear hq1 hq2 hap hown hb BP BR HC O2
    obtain ⟨p0, p1, p2⟩ := T3.out.bp.threeQ
    have HK3 := Lib.hid (HK.out _ T3.out.below)
    go_wp2_with fail
    refine HK3.out.mono ?_
    rintro e w4 ⟨rfl, hb⟩
    have T4 := T3.out.more hb
    have O4 := OwnRo.more O3.out hb
    obtain ⟨o0, o1, o2⟩ := T4.bo.threeQ
    obtain ⟨m0, m1, m2⟩ := T4.br.threeQ
    have mi := T4.br.ice
    have TF := T4.fin (us := (roL r (.slice A3 l.length c3) (.slice A4 d.length c4))) rfl
    have OF := OwnRo.cellsPast (g := w.heap.size + 1) (b := w.heap.size + 2) (by omega) (roL r (.slice A3 l.length c3) (.slice A4 d.length c4)) 0 O4
    have HE := Lib.hid (show TkrEnd w (.returned (.tuple #[roV r (.slice A3 l.length c3) (.slice A4 d.length c4), .slice none 0 0])) (w4.setCells (w.heap.size + 1) 0 (roL r (.slice A3 l.length c3) (.slice A4 d.length c4))) r l d 0 from
      ⟨_, _, rfl, OwnRo.lower OF (by omega), LsO.nil0 4 _ _ 0, (fun k _ hu => by cases hu), TF.1⟩)
    have HB8 := Lib.hid TF.2
    clear TF OF T4 O4 hb p0 p1 p2 T3 O3 HK3
    go_wp2
    show bodyPost Try.prog Try.f21 _ Exit.ret _ (w4.setCells (w.heap.size + 1) 0 (roL r (.slice A3 l.length c3) (.slice A4 d.length c4)))
    generalize w4.setCells (w.heap.size + 1) 0 (roL r (.slice A3 l.length c3) (.slice A4 d.length c4)) = WE at *
    obtain ⟨q0, q1, q2⟩ := HB8.out.threeQ
    refine bodyPost_ret_by (v := .tuple #[roV r (.slice A3 l.length c3) (.slice A4 d.length c4), .slice none 0 0]) ?_ rfl HE.out
    simp [results, Try.f21, go_sem, q0, q1, q2]
end Go.Proofs.Ytckofkdeedbbgaa
