/- What this text proves: the contract of the model's TakeRecords. -/
import Derived.Test.YtebfefkknaalpabTkM
import Derived.Test.YtebfefkknaalpabSRo
import Derived.Test.YtebfefkknaalpabStR
import Derived.Deep.RegionLaw
import Derived.Deep.RegionHeld3
import Derived.Deep.Cut
import Derived.Deep.CutRange
namespace Go.Proofs.Ytebfefkknaalpab
open Go.ChangeShapes Go.WideShapes Go.ChangeAt Go.RowKit
set_option linter.unusedVariables false

set_option maxRecDepth 20000 in
set_option maxHeartbeats 4000000 in
theorem tkr_spec (r : Int) (A A2 : Option Addr) (l : List Rc) (d : List Int) (c c2 : Nat) (hcl : l.length ≤ c) (n : Int) (hl : l.length ≤ 1099511) (hs : totRc l l.length ≤ 4000000) (hd : d.length ≤ 1099511) (w : World) (h1 : LsI 4 w w.heap.size A (l.map rcC)) (h2 : LsI 1 w w.heap.size A2 (d.map inC)) :
    Calls Try.prog 20 #[roV r (.slice A l.length c) (.slice A2 d.length c2), .int .i64 n] w fun e w' => TkrEnd w e w' r l d (tkrK r l d n) := by
  have hz : ((w.alloc (.cells (roL r (.slice A l.length c) (.slice A2 d.length c2)).toArray 30)).alloc (.cells (roL 0 (.slice none 0 0) (.slice none 0 0)).toArray 30)).heap.size = w.heap.size + 2 := by simp
  have BB : Below w.heap.size w ((w.alloc (.cells (roL r (.slice A l.length c) (.slice A2 d.length c2)).toArray 30)).alloc (.cells (roL 0 (.slice none 0 0) (.slice none 0 0)).toArray 30)) := ((Below.refl _ w).alloc (Nat.le_refl _) _).alloc (by simp) _
  have BP := Lib.hid ((Box.made w (roL r (.slice A l.length c) (.slice A2 d.length c2)) 30 w.heap.size rfl).alloc (.cells (roL 0 (.slice none 0 0) (.slice none 0 0)).toArray 30))
  have BR := Lib.hid (Box.made (w.alloc (.cells (roL r (.slice A l.length c) (.slice A2 d.length c2)).toArray 30)) (roL 0 (.slice none 0 0) (.slice none 0 0)) 30 (w.heap.size + 1) (by simp))
  have HC := Lib.hid (rocopy_spec r A A2 l d c c2 hl hd _ (h1.full BB) (h2.full BB))
  have HK := Lib.hid (fun W (hb : Below w.heap.size w W) => rcr_spec r A A2 l d c c2 (by omega) hs (by omega) W (h1.full hb) (h2.full hb))
  have HI := Lib.hid (fun W (hb : Below w.heap.size w W) => h1.more hb)
  have E0 := Lib.hid (fun (W : World) => OwnR.empty (E := 38) (sz := 4) W W.heap.size (Nat.le_refl _))
  obtain ⟨i, hi, hz0, hz1, hz2⟩ := info_parts info_rc
  have Hi := Lib.hid hi
  have Hz0 := Lib.hid hz0
  have Hz1 := Lib.hid hz1
  have Hz2 := Lib.hid hz2
  clear hi hz0 hz1 hz2
  have HZ := Lib.hid hz
  have HB := Lib.hid BB
  clear h1 h2 BB hz
  by_cases g1 : RcrOk r l d
  · rw [rcrB_yes g1] at HK
    by_cases g2 : 0 ≤ n
    · obtain ⟨n, rfl⟩ := Int.eq_ofNat_of_zero_le g2
      have hK := tkrK_yes g1 g2
      rw [Int.toNat_natCast] at hK
      have hKl : min n l.length ≤ l.length := Nat.min_le_right _ _
      have hmn : min (n : Int) (l.length : Int) = ((min n l.length : Nat) : Int) := by omega
      rw [hK]
      obtain ⟨K, hKe⟩ : ∃ K, min n l.length = K := ⟨_, rfl⟩
      rw [hKe] at hKl hmn ⊢
      have hn0 : decide ((n : Int) < 0) = false := by simp
      have hK0 : decide ((K : Int) < 0) = false := by simp
      have hmn2 : (if (n : Int) ≤ (l.length : Int) then (n : Int) else (l.length : Int)) = (K : Int) := by rw [← hmn]; rfl
      have hmn3 : (if (l.length : Int) < (n : Int) then (l.length : Int) else (n : Int)) = (K : Int) := by rw [← hmn]; split <;> omega
      have hmn4 : (if (n : Int) < (l.length : Int) then (n : Int) else (l.length : Int)) = (K : Int) := by rw [← hmn]; split <;> omega
      have hmn5 : (if l.length < n then (l.length : Int) else (n : Int)) = (K : Int) := by rw [← hmn]; split <;> omega
      clear hK hKe g1 g2 hmn hmn2 hmn3 hmn4
      go_enter Try.func20, Try.ntmps20
      go_wp2_with fail
      refine HC.out.mono ?_
      rintro e w2 ⟨v, rfl, hown, hb⟩
      obtain ⟨A3, c3, A4, c4, rfl, hq1, hq2, hap⟩ := hown.form
      rw [HZ.out] at hq1 hq2
      have T3 := Lib.hid (show TR w (w2.alloc (.cells (roL r (.slice A3 l.length c3) (.slice A4 d.length c4)).toArray 30)) w2.heap.size (roL r (.slice A l.length c) (.slice A2 d.length c2)) (roL 0 (.slice none 0 0) (.slice none 0 0)) (roL r (.slice A3 l.length c3) (.slice A4 d.length c4)) from
        (⟨(HB.out.trans (hb.mono (by rw [HZ.out]; omega))).alloc (by have := hb.size; rw [HZ.out] at this; omega) _, (BP.out.more hb).alloc _, (BR.out.more hb).alloc _, Box.made w2 _ _ _ rfl, by have := hb.size; rw [HZ.out] at this; exact this⟩))
      have Q1 := Lib.hid (OwnR.more hq1 ((Below.refl _ _).alloc (Nat.le_refl _) (.cells (roL r (.slice A3 l.length c3) (.slice A4 d.length c4)).toArray 30)))
      have Q2 := Lib.hid (OwnR.more hq2 ((Below.refl _ _).alloc (Nat.le_refl _) (.cells (roL r (.slice A3 l.length c3) (.slice A4 d.length c4)).toArray 30)))
      have U1 := Lib.hid (fun k hk => (OwnR.upto hq1 k hk).2)
      have U2 := Lib.hid (fun k hk => (OwnR.upto hq2 k hk).2)
      have HAP := Lib.hid hap
      clear hq1 hq2 hap hown hb BP BR HC
      obtain ⟨p0, p1, p2⟩ := T3.out.bp.threeQ
      have HK3 := Lib.hid (HK.out _ T3.out.below)
      go_wp2_with fail
      refine HK3.out.mono ?_
      rintro e w4 ⟨rfl, hb⟩
      have T4 := Lib.hid (T3.out.more hb)
      have Q3 := Lib.hid (OwnR.more Q1.out hb)
      have Q4 := Lib.hid (OwnR.more Q2.out hb)
      clear hb p0 p1 p2 T3 Q1 Q2 HK3
      obtain ⟨p0, p1, p2⟩ := T4.out.bp.threeQ
      obtain ⟨o0, o1, o2⟩ := T4.out.bo.threeQ
      have oi := T4.out.bo.ice
      have hcut := cut_rcs A l.length c K hKl
      have hhead := head_rcs A l.length c K (by omega)
      have T4a := Lib.hid (T4.out.alloc (.cells #[] 38))
      obtain ⟨pa0, pa1, pa2⟩ := T4a.out.bp.threeQ
      obtain ⟨oa0, oa1, oa2⟩ := T4a.out.bo.threeQ
      have hwd : ∀ x ∈ (l.map rcC).drop K, x.length = 4 := fun x hx => rc_len l x (List.mem_of_mem_drop hx)
      have hwo : ∀ x ∈ (l.map rcC).drop K, ∀ u ∈ x, u.oneCell' = true := fun x hx => rc_one l x (List.mem_of_mem_drop hx)
      have hwdl : ((l.map rcC).drop K).length = l.length - K := by rw [List.length_drop, List.length_map]
      have HRW := Lib.hid (((HI.out _ T4a.out.below).drop K c (by rw [List.length_map]; exact hcl)).rows hwd)
      have HWD := Lib.hid hwd
      have HWO := Lib.hid hwo
      have HWL := Lib.hid hwdl
      have HE4 := Lib.hid (E0.out w4)
      obtain ⟨AD, hAD⟩ : ∃ AD, (if c = K then A else A.map (·.add (K * 4))) = AD := ⟨_, rfl⟩
      rw [hAD] at HRW
      simp only [hAD] at hcut
      clear hAD hwd hwo hwdl
      go_wp2_with (at_builtin; go_loud (refine app_rows 38 28 4 40 (rdV 0 0 0 ⟨#[]⟩) i _ rfl _ _ rfl Try.underlying28 Hi.out Hz0.out Hz1.out Hz2.out rfl (by decide) (by decide) w4.heap.size (.slice (some ⟨w4.heap.size, 0, none⟩) 0 0) [] rfl HE4.out AD ((l.map rcC).drop K) (c - K) (by rw [HWL.out]; rfl) HWD.out HWO.out HRW.out (by rw [HWL.out]; simp; omega) (by simp) ?_))
      intro v5 w5 ho5 hg5 _
      replace ho5 : OwnR 38 4 w5 w4.heap.size v5 ((l.map rcC).drop K) := ho5
      obtain ⟨A5, c5, hv5⟩ := ho5.form
      rw [HWL.out] at hv5
      subst hv5
      have hb5 : Below w4.heap.size (w4.alloc (.cells #[] 38)) w5 := (Below.refl w4.heap.size _).grown hg5 (by simp) fun k hk => (World.ownsRow.lt HE4.out.1 k hk).1
      have hb45 := ((Below.refl w4.heap.size w4).alloc (Nat.le_refl _) (.cells #[] 38)).trans hb5
      have T5a := Lib.hid (T4.out.more hb45)
      have Q5a := Lib.hid (OwnR.more Q4.out hb45)
      have hgz := T4.out.bo.lt
      have Q5 := Lib.hid (LsO.past (OwnR.toO ho5) (g := w2.heap.size) (j := 1) hgz (.slice A5 (l.length - K) c5))
      have Q6 := Lib.hid (LsO.away (OwnR.toO Q5a.out) (g := w2.heap.size) (j := 1) (fun e => by have := U2.out _ e; omega) (.slice A5 (l.length - K) c5))
      have HAP5 := Lib.hid (show Apart (.slice A5 (l.length - K) c5) (.slice A4 d.length c4) from fun k hk hu => by
        have h1 := (OwnR.upto ho5 k hk).1
        have h2 := U2.out k hu
        have h3 := T4.out.bo.lt
        omega)
      have T5 := Lib.hid (T5a.out.setO 1 (by simp) (.slice A5 (l.length - K) c5))
      obtain ⟨p0', p1', p2'⟩ := T5a.out.bp.threeQ
      obtain ⟨o0', o1', o2'⟩ := T5a.out.bo.threeQ
      have oi' := T5a.out.bo.ice
      obtain ⟨s0, s1, s2⟩ := (show Box _ _ (roL r (.slice A5 (l.length - K) c5) (.slice A4 d.length c4)) from T5.out.bo).threeQ
      obtain ⟨t0, t1, t2⟩ := T5.out.bp.threeQ
      clear ho5 hg5 hb5 hb45 Q3 Q4 Q5a T4a HRW HE4 oa0 oa1 oa2 pa0 pa1 pa2 oi o0 o1 o2 p0 p1 p2 hcut
      go_upto_region 6 with fail
      generalize w5.setCell ⟨w2.heap.size, 1, none⟩ (.slice A5 (l.length - K) c5) = w6 at *
      clear s0 s1 s2 t0 t1 t2 p0' p1' p2' o0' o1' o2' oi'
      have T6 := Lib.hid T5.out
      have T7 := Lib.hid (T6.out.alloc (.cells #[] 38))
      obtain ⟨s0, s1, s2⟩ := (show Box _ _ (roL r (.slice A5 (l.length - K) c5) (.slice A4 d.length c4)) from T6.out.bo).threeQ
      obtain ⟨t0, t1, t2⟩ := T6.out.bp.threeQ
      obtain ⟨sa0, sa1, sa2⟩ := (show Box _ _ (roL r (.slice A5 (l.length - K) c5) (.slice A4 d.length c4)) from T7.out.bo).threeQ
      obtain ⟨ta0, ta1, ta2⟩ := T7.out.bp.threeQ
      have hwd : ∀ x ∈ (l.map rcC).take K, x.length = 4 := fun x hx => rc_len l x (List.mem_of_mem_take hx)
      have HWT := Lib.hid hwd
      have HWU := Lib.hid (show ∀ x ∈ (l.map rcC).take K, ∀ u ∈ x, u.oneCell' = true from fun x hx => rc_one l x (List.mem_of_mem_take hx))
      have HTL := Lib.hid (show ((l.map rcC).take K).length = K by rw [List.length_take, List.length_map]; omega)
      have HRT := Lib.hid (((HI.out _ T7.out.drew.below).take K).rows hwd)
      have HE6 := Lib.hid (OwnR.more (E0.out w6) (Below.refl _ _).drew)
      clear hwd
      go_region_law ((refine step_app_rows 38 28 4 40 (rdV 0 0 0 ⟨#[]⟩) i _ rfl _ _ rfl Try.underlying28 Hi.out Hz0.out Hz1.out Hz2.out rfl (by decide) (by decide) w6.heap.size (.slice (some ⟨w6.heap.size, 0, none⟩) 0 0) [] rfl HE6.out A ((l.map rcC).take K) c (by rw [HTL.out]; rfl) HWT.out HWU.out HRT.out (by rw [HTL.out]; simp; omega) (by simp) ?_; intro u w7 ho7 hg7 _; have hb7 := ((Below.refl w6.heap.size w6).alloc (Nat.le_refl _) (.cells #[] 38)).drew.trans ((Below.refl w6.heap.size _).grown hg7 (by simp) fun k hk => (World.ownsRow.lt HE6.out.1 k hk).1); obtain ⟨l0, l1, l2⟩ := (show Box _ _ (roL r (.slice A5 (l.length - K) c5) (.slice A4 d.length c4)) from (T6.out.more hb7).bo).threeQ; obtain ⟨m0, m1, m2⟩ := (T6.out.more hb7).br.threeQ; have mi := (T6.out.more hb7).br.ice; obtain ⟨n0, n1, n2⟩ := (Box.allOther (W := w7) (g := w2.heap.size) (ga := w.heap.size + 1) (by have := T6.out.hz; omega) (roL r (.slice A5 (l.length - K) c5) (.slice A4 d.length c4)) 0 w7 (T6.out.more hb7).bo).threeQ))
      all_goals
        replace ho7 : OwnR 38 4 w7 w6.heap.size u ((l.map rcC).take K) := ho7
        have O7 : OwnRc w7 w6.heap.size u (l.take K) := by
          show LsO 4 _ _ _ ((l.take K).map rcC)
          rw [List.map_take]
          exact OwnR.toO ho7
        have TF := (T6.out.more hb7).fin (us := (roL r (.slice A5 (l.length - K) c5) (.slice A4 d.length c4))) rfl
        have H5 := LsO.more Q5.out hb7
        have H6 := LsO.more Q6.out hb7
        have hgz := T6.out.hz
        have hz4 : w.heap.size + 2 ≤ w4.heap.size := by have := T4.out.bo.lt; omega
        have HF5 := LsO.cellsPast (g := w.heap.size + 1) (b := w4.heap.size) (by omega) (roL r (.slice A5 (l.length - K) c5) (.slice A4 d.length c4)) 0 w7 H5
        have HF6 := LsO.cellsPast (g := w.heap.size + 1) (b := w.heap.size + 2) (by omega) (roL r (.slice A5 (l.length - K) c5) (.slice A4 d.length c4)) 0 w7 H6
        have hzz : w.heap.size + 2 ≤ w6.heap.size := by have := T6.out.bo.lt; omega
        have HF7 := LsO.cellsPast (g := w.heap.size + 1) (b := w6.heap.size) (by omega) (roL r (.slice A5 (l.length - K) c5) (.slice A4 d.length c4)) 0 w7 O7
        have HE := Lib.hid (show TkrEnd w (.returned (.tuple #[roV r (.slice A5 (l.length - K) c5) (.slice A4 d.length c4), u])) (w7.setCells (w.heap.size + 1) 0 (roL r (.slice A5 (l.length - K) c5) (.slice A4 d.length c4))) r l d K from
          ⟨_, u, rfl, ⟨A5, c5, A4, c4, by rw [List.length_drop], by show LsO 4 _ _ _ ((l.drop K).map rcC); rw [List.map_drop, List.length_drop]; exact LsO.lower HF5 (by omega), LsO.lower HF6 (by omega), by rw [List.length_drop]; exact HAP5.out⟩, LsO.lower HF7 (by omega), fun k hk hu => by
            have h1 := (LsO.up O7 k hu).1
            rcases blkRo_iff.1 hk with e | e
            · have := (LsO.up Q5.out k e).2
              omega
            · have := (LsO.up Q6.out k e).2
              omega, TF.1⟩)
        have HB8 := Lib.hid TF.2
        clear TF H5 H6 HF5 HF6 HF7 n0 n1 n2 l0 l1 l2 m0 m1 m2 mi s0 s1 s2 t0 t1 t2 sa0 sa1 sa2 ta0 ta1 ta2 hb7 hg7 ho7
        go_wp2
        show bodyPost Try.prog Try.f20 _ Exit.ret _ (w7.setCells (w.heap.size + 1) 0 (roL r (.slice A5 (l.length - K) c5) (.slice A4 d.length c4)))
        generalize w7.setCells (w.heap.size + 1) 0 (roL r (.slice A5 (l.length - K) c5) (.slice A4 d.length c4)) = WE at *
        obtain ⟨q0, q1, q2⟩ := HB8.out.threeQ
        refine bodyPost_ret_by (v := .tuple #[roV r (.slice A5 (l.length - K) c5) (.slice A4 d.length c4), u]) ?_ rfl HE.out
        simp [results, Try.f20, go_sem, q0, q1, q2]
    · have hK := tkrK_no (r := r) (l := l) (d := d) (n := n) (fun h => g2 h.2)
      rw [hK]
      have hn0 : decide (n < 0) = true := decide_eq_true (by omega)
      clear g2 g1
      go_enter Try.func20, Try.ntmps20
      go_wp2_with fail
      refine HC.out.mono ?_
      rintro e w2 ⟨v, rfl, hown, hb⟩
      have O2 := OwnRr.toO hown
      obtain ⟨A3, c3, A4, c4, rfl, hq1, hq2, hap⟩ := O2.form
      rw [HZ.out] at hq1 hq2 O2
      have T3 := Lib.hid (show TR w (w2.alloc (.cells (roL r (.slice A3 l.length c3) (.slice A4 d.length c4)).toArray 30)) w2.heap.size (roL r (.slice A l.length c) (.slice A2 d.length c2)) (roL 0 (.slice none 0 0) (.slice none 0 0)) (roL r (.slice A3 l.length c3) (.slice A4 d.length c4)) from
        (⟨(HB.out.trans (hb.mono (by rw [HZ.out]; omega))).alloc (by have := hb.size; rw [HZ.out] at this; omega) _, (BP.out.more hb).alloc _, (BR.out.more hb).alloc _, Box.made w2 _ _ _ rfl, by have := hb.size; rw [HZ.out] at this; exact this⟩))
      have O3 := Lib.hid (OwnRo.more O2 ((Below.refl _ _).alloc (Nat.le_refl _) (.cells (roL r (.slice A3 l.length c3) (.slice A4 d.length c4)).toArray 30)))
      clear hq1 hq2 hap hown hb BP BR HC O2
      obtain ⟨p0, p1, p2⟩ := T3.out.bp.threeQ
      have HK3 := Lib.hid (HK.out _ T3.out.below)
      go_wp2_with fail
      refine HK3.out.mono ?_
      rintro e w4 ⟨rfl, hb⟩
      have T4 := T3.out.more hb
      have O4 := OwnRo.more O3.out hb
      obtain ⟨o0, o1, o2⟩ := T4.bo.threeQ
      obtain ⟨m0, m1, m2⟩ := T4.br.threeQ
      have mi := T4.br.ice
      have TF := T4.fin (us := (roL r (.slice A3 l.length c3) (.slice A4 d.length c4))) rfl
      have OF := OwnRo.cellsPast (g := w.heap.size + 1) (b := w.heap.size + 2) (by omega) (roL r (.slice A3 l.length c3) (.slice A4 d.length c4)) 0 O4
      have hz4 : w.heap.size + 1 < w4.heap.size := by have := T4.bo.lt; have := T4.hz; omega
      have hzs : (w4.setCells (w.heap.size + 1) 0 (roL r (.slice A3 l.length c3) (.slice A4 d.length c4))).heap.size = w4.heap.size := by simp [World.setCells]
      have HE := Lib.hid (show TkrEnd w (.returned (.tuple #[roV r (.slice A3 l.length c3) (.slice A4 d.length c4), .slice (some ⟨w4.heap.size, 0, none⟩) 0 0])) ((w4.setCells (w.heap.size + 1) 0 (roL r (.slice A3 l.length c3) (.slice A4 d.length c4))).alloc (.cells #[] 38)) r l d 0 from
        ⟨_, _, rfl, OwnRo.more (OwnRo.lower OF (by omega)) ((Below.refl _ _).alloc (Nat.le_refl _) _), LsO.lower (OwnR.toO (by have h := OwnR.empty (E := 38) (sz := 4) (w4.setCells (w.heap.size + 1) 0 (roL r (.slice A3 l.length c3) (.slice A4 d.length c4))) w4.heap.size (by omega); rw [hzs] at h; exact h)) (by omega), (fun k hk hu => by have h1 := (OwnRo.blk (OwnRo.more O3.out hb) hk).2; have h2 : (some w4.heap.size : Option Nat) = some k := hu; injection h2 with h2; omega), TF.1.alloc TF.1.size _⟩)
      have HB8 := Lib.hid (TF.2.alloc (.cells #[] 38))
      clear TF OF T4 O4 hb hzs p0 p1 p2 T3 O3 HK3
      go_wp2
      show bodyPost Try.prog Try.f20 _ Exit.ret _ ((w4.setCells (w.heap.size + 1) 0 (roL r (.slice A3 l.length c3) (.slice A4 d.length c4))).alloc (.cells #[] 38))
      generalize ((w4.setCells (w.heap.size + 1) 0 (roL r (.slice A3 l.length c3) (.slice A4 d.length c4))).alloc (.cells #[] 38)) = WE at *
      obtain ⟨q0, q1, q2⟩ := HB8.out.threeQ
      refine bodyPost_ret_by (v := .tuple #[roV r (.slice A3 l.length c3) (.slice A4 d.length c4), .slice (some ⟨w4.heap.size, 0, none⟩) 0 0]) ?_ rfl HE.out
      simp [results, Try.f20, go_sem, q0, q1, q2]
  · have hK := tkrK_no (r := r) (l := l) (d := d) (n := n) (fun h => g1 h.1)
    rw [hK]
    rw [rcrB_no g1] at HK
    clear g1
    go_enter Try.func20, Try.ntmps20
    go_wp2_with fail
    refine HC.out.mono ?_
    rintro e w2 ⟨v, rfl, hown, hb⟩
    have O2 := OwnRr.toO hown
    obtain ⟨A3, c3, A4, c4, rfl, hq1, hq2, hap⟩ := O2.form
    rw [HZ.out] at hq1 hq2 O2
    have T3 := Lib.hid (show TR w (w2.alloc (.cells (roL r (.slice A3 l.length c3) (.slice A4 d.length c4)).toArray 30)) w2.heap.size (roL r (.slice A l.length c) (.slice A2 d.length c2)) (roL 0 (.slice none 0 0) (.slice none 0 0)) (roL r (.slice A3 l.length c3) (.slice A4 d.length c4)) from
      (⟨(HB.out.trans (hb.mono (by rw [HZ.out]; omega))).alloc (by have := hb.size; rw [HZ.out] at this; omega) _, (BP.out.more hb).alloc _, (BR.out.more hb).alloc _, Box.made w2 _ _ _ rfl, by have := hb.size; rw [HZ.out] at this; exact this⟩))
    have O3 := Lib.hid (OwnRo.more O2 ((Below.refl _ _).alloc (Nat.le_refl _) (.cells (roL r (.slice A3 l.length c3) (.slice A4 d.length c4)).toArray 30)))
    clear hq1 hq2 hap hown hb BP BR HC O2
    obtain ⟨p0, p1, p2⟩ := T3.out.bp.threeQ
    have HK3 := Lib.hid (HK.out _ T3.out.below)
    go_wp2_with fail
    refine HK3.out.mono ?_
    rintro e w4 ⟨rfl, hb⟩
    have T4 := T3.out.more hb
    have O4 := OwnRo.more O3.out hb
    obtain ⟨o0, o1, o2⟩ := T4.bo.threeQ
    obtain ⟨m0, m1, m2⟩ := T4.br.threeQ
    have mi := T4.br.ice
    have TF := T4.fin (us := (roL r (.slice A3 l.length c3) (.slice A4 d.length c4))) rfl
    have OF := OwnRo.cellsPast (g := w.heap.size + 1) (b := w.heap.size + 2) (by omega) (roL r (.slice A3 l.length c3) (.slice A4 d.length c4)) 0 O4
    have hz4 : w.heap.size + 1 < w4.heap.size := by have := T4.bo.lt; have := T4.hz; omega
    have hzs : (w4.setCells (w.heap.size + 1) 0 (roL r (.slice A3 l.length c3) (.slice A4 d.length c4))).heap.size = w4.heap.size := by simp [World.setCells]
    have HE := Lib.hid (show TkrEnd w (.returned (.tuple #[roV r (.slice A3 l.length c3) (.slice A4 d.length c4), .slice (some ⟨w4.heap.size, 0, none⟩) 0 0])) ((w4.setCells (w.heap.size + 1) 0 (roL r (.slice A3 l.length c3) (.slice A4 d.length c4))).alloc (.cells #[] 38)) r l d 0 from
      ⟨_, _, rfl, OwnRo.more (OwnRo.lower OF (by omega)) ((Below.refl _ _).alloc (Nat.le_refl _) _), LsO.lower (OwnR.toO (by have h := OwnR.empty (E := 38) (sz := 4) (w4.setCells (w.heap.size + 1) 0 (roL r (.slice A3 l.length c3) (.slice A4 d.length c4))) w4.heap.size (by omega); rw [hzs] at h; exact h)) (by omega), (fun k hk hu => by have h1 := (OwnRo.blk (OwnRo.more O3.out hb) hk).2; have h2 : (some w4.heap.size : Option Nat) = some k := hu; injection h2 with h2; omega), TF.1.alloc TF.1.size _⟩)
    have HB8 := Lib.hid (TF.2.alloc (.cells #[] 38))
    clear TF OF T4 O4 hb hzs p0 p1 p2 T3 O3 HK3
    go_wp2
    show bodyPost Try.prog Try.f20 _ Exit.ret _ ((w4.setCells (w.heap.size + 1) 0 (roL r (.slice A3 l.length c3) (.slice A4 d.length c4))).alloc (.cells #[] 38))
    generalize ((w4.setCells (w.heap.size + 1) 0 (roL r (.slice A3 l.length c3) (.slice A4 d.length c4))).alloc (.cells #[] 38)) = WE at *
    obtain ⟨q0, q1, q2⟩ := HB8.out.threeQ
    refine bodyPost_ret_by (v := .tuple #[roV r (.slice A3 l.length c3) (.slice A4 d.length c4), .slice (some ⟨w4.heap.size, 0, none⟩) 0 0]) ?_ rfl HE.out
    simp [results, Try.f20, go_sem, q0, q1, q2]
end Go.Proofs.Ytebfefkknaalpab
