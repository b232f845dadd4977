/- What this text proves: the parts PakF of the proof, each under its own words. -/
import Derived.Test.YtegahdlfjdjcaaaV17
import Derived.Test.YtegahdlfjdjcaaaV18
/- What this text proves: the contract of the model's FillPacker. -/
namespace Go.Proofs.Ytegahdlfjdjcaaa
open Go.ChangeShapes Go.WideShapes Go.ChangeAt Go.RowKit
set_option linter.unusedVariables false

/-- How many bytes of data the filling packet carries. -/
def fillN (z : Nat) : Nat := if 24 - z % 24 < 4 then 24 - z % 24 + 20 else 24 - z % 24 - 4
def zerosT (k : Nat) : ByteArray := ⟨(List.replicate k (0 : UInt8)).toArray⟩
noncomputable def fillR (c n : Int) (r : ByteArray) (l : List Int) : ByteArray := if r.size % 24 = 0 then r else packR c n r l 15 0 (zerosT (fillN r.size))
noncomputable def fillL (c n : Int) (r : ByteArray) (l : List Int) : List Int := if r.size % 24 = 0 then l else packL c n r l 15 0 (zerosT (fillN r.size))
def FillEnd (c n : Int) (r : ByteArray) (l : List Int) (w : World) (e : Ending) (w' : World) : Prop :=
  ∃ v, e = .returned (paV c n (fillR c n r l) v) ∧ OwnI w' w.heap.size v (fillL c n r l) ∧ Below w.heap.size w w'
theorem FillEnd.no {c n : Int} {r : ByteArray} {l : List Int} {w w' : World} {v : Value} (h : r.size % 24 = 0 ∨ ¬ PaOk c n r l) (ho : OwnI w' w.heap.size v l) (hb : Below w.heap.size w w') : FillEnd c n r l w (.returned (paV c n r v)) w' := by
  have h2 : fillR c n r l = r ∧ fillL c n r l = l := by
    unfold fillR fillL
    by_cases h0 : r.size % 24 = 0
    · rw [if_pos h0, if_pos h0]; exact ⟨rfl, rfl⟩
    · rw [if_neg h0, if_neg h0]
      unfold packR packL
      rw [packB_no (fun hp => (h.resolve_left h0) hp.1)]
      exact ⟨rfl, rfl⟩
  exact ⟨v, by rw [h2.1], by rw [h2.2]; exact ho, hb⟩
theorem FillEnd.yes {c n : Int} {r : ByteArray} {l : List Int} {w w' : World} {v : Value} {T : ByteArray} (hT : T = zerosT (fillN r.size)) (h : r.size % 24 ≠ 0) (ho : OwnI w' w.heap.size v (packL c n r l 15 0 T)) (hb : Below w.heap.size w w') : FillEnd c n r l w (.returned (paV c n (packR c n r l 15 0 T) v)) w' := by
  subst hT
  exact ⟨v, by unfold fillR; rw [if_neg h], by unfold fillL; rw [if_neg h]; exact ho, hb⟩
theorem fill_done {w W : World} {r : List Value} {c n : Int} {s : ByteArray} {v : Value} {l' : List Int} (hb : Below w.heap.size w W) (hbr : Box W (w.heap.size + 1) r) (ho : OwnI W (w.heap.size + 2) v l') (hr : r.length = 4) :
    Cells4P (W.setCells (w.heap.size + 1) 0 (paL c n s v)) (w.heap.size + 1) (.int .i64 c) (.int .i64 n) (.string s) v ∧ OwnI (W.setCells (w.heap.size + 1) 0 (paL c n s v)) w.heap.size v l' ∧ Below w.heap.size w (W.setCells (w.heap.size + 1) 0 (paL c n s v)) := by
  have past4 : ∀ (us : List Value) (o : Nat) (W : World), OwnI W (w.heap.size + 2) v l' → OwnI (W.setCells (w.heap.size + 1) o us) (w.heap.size + 2) v l' := by
    intro us
    induction us with
    | nil => intro o W h; exact h
    | cons u r ih => intro o W h; exact ih _ _ (h.past (by omega) u)
  exact ⟨(hbr.all (us := paL c n s v) (by rw [hr]; rfl)).fourP, (past4 _ 0 _ ho).lower (by omega), below_setCells (B := w.heap.size) (by omega) (paL c n s v) 0 _ hb⟩

structure FS (w W : World) (g : Nat) (o : List Value) (v : Value) (l' : List Int) : Prop where
  below : Below w.heap.size w W
  br : Box W (w.heap.size + 1) (paL 0 0 ⟨#[]⟩ (.slice none 0 0))
  own : OwnI W (w.heap.size + 2) v l'
  bo : Box W g o
theorem FS.made {w W : World} {v : Value} {l' : List Int} {b : Nat} (hb : Below w.heap.size w W) (hbr : Box W (w.heap.size + 1) (paL 0 0 ⟨#[]⟩ (.slice none 0 0))) (ho : OwnI W b v l') (hbb : w.heap.size + 2 ≤ b) (o : List Value) (T : TypeId) : FS w (W.alloc (.cells o.toArray T)) W.heap.size o v l' :=
  ⟨hb.alloc hb.size _, hbr.alloc _, (ho.lower hbb).more ((Below.refl _ _).alloc (Nat.le_refl _) _), Box.made W o T _ rfl⟩
theorem FS.put {w W : World} {v : Value} {l' : List Int} {b g : Nat} {zs : List Value} (hb : Below w.heap.size w W) (hbr : Box W (w.heap.size + 1) (paL 0 0 ⟨#[]⟩ (.slice none 0 0))) (ho : OwnI W b v l') (hbb : w.heap.size + 2 ≤ b) (hg : w.heap.size + 2 ≤ g) (hgb : g < b) (hz : Box W g zs) (o : List Value) (hl : o.length = zs.length) : FS w (W.setCells g 0 o) g o v l' := by
  have past : ∀ (us : List Value) (k : Nat) (W : World), OwnI W b v l' → OwnI (W.setCells g k us) b v l' := by
    intro us
    induction us with
    | nil => intro k W h; exact h
    | cons u r ih => intro k W h; exact ih _ _ (h.past hgb u)
  exact ⟨below_setCells (by omega) o 0 _ hb, Box.allOther (W := W) (by omega) o 0 _ hbr, (past o 0 _ ho).lower hbb, hz.all hl⟩

set_option maxRecDepth 8000 in
set_option maxHeartbeats 4000000 in
theorem fill_spec (c n : Int) (r : ByteArray) (A : Option Addr) (l : List Int) (k0 : Nat) (hl : l.length ≤ 1048576) (hr : r.size ≤ 1048576) (w : World) (h : IntsAt w w.heap.size A l) :
    Calls Try.prog 53 #[paV c n r (.slice A l.length k0)] w (FillEnd c n r l w) := by
  have BP := Lib.hid ((Box.made w (paL c n r (.slice A l.length k0)) 34 _ rfl).alloc (.cells (paL 0 0 ⟨#[]⟩ (.slice none 0 0)).toArray 34))
  have BR := Lib.hid (Box.made (w.alloc (.cells (paL c n r (.slice A l.length k0)).toArray 34)) (paL 0 0 ⟨#[]⟩ (.slice none 0 0)) 34 (w.heap.size + 1) (by simp))
  have BB := Lib.hid (((Below.refl _ w).alloc (Nat.le_refl _) (.cells (paL c n r (.slice A l.length k0)).toArray 34)).alloc (by simp) (.cells (paL 0 0 ⟨#[]⟩ (.slice none 0 0)).toArray 34))
  have HI := Lib.hid (fun W (hb : Below w.heap.size w W) => h.more hb)
  clear h
  have hmod : Int.tmod (r.size : Int) 24 = ((r.size % 24 : Nat) : Int) := rfl
  go_enter Try.func53, Try.ntmps53
  go_upto_region 2 with fail
  obtain ⟨W2, hW2⟩ : ∃ W2, W2 = (w.alloc (.cells #[.int .i64 c, .int .i64 n, .string r, .slice A l.length k0] 34)).alloc (.cells #[.int .i64 0, .int .i64 0, .string ⟨#[]⟩, .slice none 0 0] 34) := ⟨_, rfl⟩
  have P2 : Box W2 w.heap.size (paL c n r (.slice A l.length k0)) := by rw [hW2]; exact BP.out
  have R2 : Box W2 (w.heap.size + 1) (paL 0 0 ⟨#[]⟩ (.slice none 0 0)) := by rw [hW2]; exact BR.out
  have B2 : Below w.heap.size w W2 := by rw [hW2]; exact BB.out
  rw [← hW2]
  clear hW2 BP BR BB
  have hmm : (r.size : Int) % 24 = ((r.size % 24 : Nat) : Int) := by omega
  rw [hmm]
  clear hmod hmm
  have hm24 : r.size % 24 < 24 := Nat.mod_lt _ (by decide)
  obtain ⟨m, hm⟩ : ∃ m, m = r.size % 24 := ⟨_, rfl⟩
  rw [← hm]
  rw [← hm] at hm24
  have HM := Lib.hid hm
  clear hm
  obtain ⟨p0, p1, p2, p3⟩ := P2.fourP
  have HO := Lib.hid (po_spec c n r A l k0 (by omega) hr W2 ((HI.out _ B2).raise B2.size))
  by_cases hP : PaOk c n r l
  · rw [paB_yes hP] at HO
    go_wp2_with fail
    refine HO.out.mono ?_
    rintro e w3 ⟨rfl, hb3⟩
    have P3 := P2.more hb3
    have R3 := R2.more hb3
    have B3 := B2.trans (hb3.mono B2.size)
    obtain ⟨q0, q1, q2, q3⟩ := P3.fourP
    clear p0 p1 p2 p3 hb3
    by_cases h0 : m = 0
    · have HNO := Lib.hid (show r.size % 24 = 0 ∨ ¬ PaOk c n r l from .inl (by rw [← HM.out]; exact h0))
      have hd0 : decide ((m : Int) = 0) = true := by simp; omega
      subst h0
      go_wp2_with fail
      refine (copy_pak c n r A l k0 (by omega) w3 ((HI.out _ B3).raise B3.size)).mono ?_
      rintro e w4 ⟨v4, rfl, ho4, hb4⟩
      obtain ⟨A4, c4, rfl⟩ := ho4.form
      clear q0 q1 q2 q3
      obtain ⟨r0, r1, r2, r3⟩ := (R3.more hb4).fourP
      have ri := (R3.more hb4).ice
      have PD := Lib.hid (fill_done (c := c) (n := n) (s := r) (B3.trans (hb4.mono B3.size)) (R3.more hb4) (ho4.lower (by have := R3.lt; omega)) rfl)
      clear hb4 ho4
      go_wp2
      show bodyPost Try.prog Try.f53 _ Exit.ret _ (w4.setCells (w.heap.size + 1) 0 (paL c n r (.slice A4 l.length c4)))
      generalize w4.setCells (w.heap.size + 1) 0 (paL c n r (.slice A4 l.length c4)) = WE at *
      obtain ⟨⟨d0, d1, d2, d3⟩, ho, hb⟩ := PD.out
      refine bodyPost_ret_by (v := paV c n r (.slice A4 l.length c4)) ?_ rfl (FillEnd.no HNO.out ho hb)
      simp [results, Try.f53, go_sem, d0, d1, d2, d3]
    · have hd0 : decide ((m : Int) = 0) = false := by simp; omega
      have hr5 : r.size ≤ 5000 := hP.2.2.2
      have HI3 := Lib.hid ((HI.out _ B3))
      obtain ⟨k, hk⟩ : ∃ k, k = fillN r.size := ⟨_, rfl⟩
      have hk2 : k = if 24 - m < 4 then 24 - m + 20 else 24 - m - 4 := by rw [hk, HM.out]; rfl
      have hkk : k ≤ 24 := by rw [hk2]; split <;> omega
      obtain ⟨T, hT⟩ : ∃ T, T = zerosT k := ⟨_, rfl⟩
      obtain ⟨V, WM, hmk3, hcv3, hcvA, hbm⟩ : ∃ V WM, (Instr.makeSlice 22 (.int .i64 (k : Int)) (.int .i64 (k : Int))).run Try.prog w3.drew = .ok V WM ∧ (convert 22 9 V).run Try.prog WM = .ok (.string T) WM ∧ (convert 22 9 V).run Try.prog (WM.alloc (.cells #[.int .i64 0, .int .i64 0, .string ⟨#[]⟩, .slice none 0 0] 34)) = .ok (.string T) (WM.alloc (.cells #[.int .i64 0, .int .i64 0, .string ⟨#[]⟩, .slice none 0 0] 34)) ∧ Below w3.heap.size w3 WM :=
        ⟨_, _, make_full w3.drew k (by omega), by rw [hT]; exact conv_bytes _ _ _ _ (make_row w3.drew k (by omega)).own, by rw [hT]; exact conv_bytes _ _ _ _ (World.ownsRow.alloc (make_row w3.drew k (by omega)).own _), ((Below.refl _ _).drew).alloc (Nat.le_refl _) _⟩
      obtain ⟨V2, WM2, hmk2, hcv2, hbm2⟩ : ∃ V WM, (Instr.makeSlice 22 (.int .i64 (k : Int)) (.int .i64 (k : Int))).run Try.prog (w3.alloc (.cells #[.int .i64 0, .int .i64 0, .string ⟨#[]⟩, .slice none 0 0] 34)).drew = .ok V WM ∧ (convert 22 9 V).run Try.prog WM = .ok (.string T) WM ∧ Below (w3.heap.size + 1) (w3.alloc (.cells #[.int .i64 0, .int .i64 0, .string ⟨#[]⟩, .slice none 0 0] 34)) WM :=
        ⟨_, _, make_full (w3.alloc (.cells #[.int .i64 0, .int .i64 0, .string ⟨#[]⟩, .slice none 0 0] 34)).drew k (by omega), by rw [hT]; exact conv_bytes _ _ _ _ (make_row (w3.alloc (.cells #[.int .i64 0, .int .i64 0, .string ⟨#[]⟩, .slice none 0 0] 34)).drew k (by omega)).own, ((Below.refl _ _).drew).alloc (by simp) _⟩
      obtain ⟨R4, hR4⟩ : ∃ R4, R4 = packR c n r l 15 0 T := ⟨_, rfl⟩
      obtain ⟨L4, hL4⟩ : ∃ L4, L4 = packL c n r l 15 0 T := ⟨_, rfl⟩
      obtain ⟨B4, hB4⟩ : ∃ B4, B4 = packB c n r l 15 0 T := ⟨_, rfl⟩
      have hTs : T.size ≤ 1048576 := by
        rw [hT]
        show (List.replicate k (0 : UInt8)).toArray.size ≤ _
        simp
        omega
      have PM := Lib.hid (P3.more hbm)
      have RM := Lib.hid (R3.more hbm)
      have BM := Lib.hid (B3.trans (hbm.mono B3.size))
      have PMA := Lib.hid (PM.out.alloc (.cells #[.int .i64 0, .int .i64 0, .string ⟨#[]⟩, .slice none 0 0] 34))
      have RMA := Lib.hid (RM.out.alloc (.cells #[.int .i64 0, .int .i64 0, .string ⟨#[]⟩, .slice none 0 0] 34))
      have BMA := Lib.hid (BM.out.alloc BM.out.size (.cells #[.int .i64 0, .int .i64 0, .string ⟨#[]⟩, .slice none 0 0] 34))
      have OMA := Lib.hid (Box.made WM (paL 0 0 ⟨#[]⟩ (.slice none 0 0)) 34 _ rfl)
      have hzA : (WM.alloc (.cells #[.int .i64 0, .int .i64 0, .string ⟨#[]⟩, .slice none 0 0] 34)).heap.size = WM.heap.size + 1 := by simp
      have hz3 : (w3.alloc (.cells #[.int .i64 0, .int .i64 0, .string ⟨#[]⟩, .slice none 0 0] 34)).heap.size = w3.heap.size + 1 := by simp
      have hz2 : w3.heap.size + 1 ≤ WM2.heap.size := by have := hbm2.size; omega
      have PZ := Lib.hid ((P3.alloc (.cells #[.int .i64 0, .int .i64 0, .string ⟨#[]⟩, .slice none 0 0] 34)).drew)
      have PM2 := Lib.hid ((P3.alloc (.cells #[.int .i64 0, .int .i64 0, .string ⟨#[]⟩, .slice none 0 0] 34)).moreAt hbm2 (by have := P3.lt; omega) (by omega))
      have RM2 := Lib.hid ((R3.alloc (.cells #[.int .i64 0, .int .i64 0, .string ⟨#[]⟩, .slice none 0 0] 34)).moreAt hbm2 (by have := R3.lt; omega) (by omega))
      have OM2 := Lib.hid ((Box.made w3 (paL 0 0 ⟨#[]⟩ (.slice none 0 0)) 34 _ rfl).moreAt hbm2 (by omega) (by rw [show (w3.alloc (.cells (paL 0 0 ⟨#[]⟩ (.slice none 0 0)).toArray 34)).heap.size = w3.heap.size + 1 from hz3]; omega))
      have BM2 := Lib.hid ((B3.alloc B3.size (.cells #[.int .i64 0, .int .i64 0, .string ⟨#[]⟩, .slice none 0 0] 34)).trans (hbm2.mono (by have := B3.size; omega)))
      have hg1 : w.heap.size + 2 ≤ WM.heap.size := by have := RM.out.lt; omega
      have hg3 : w.heap.size + 2 ≤ w3.heap.size := by have := R3.lt; omega
      have HPKW : ∀ W, Below w.heap.size w W → Calls Try.prog 50 #[paV c n r (.slice A l.length k0), pkV 15 0 T] W fun e w' => ∃ v, e = .returned (.tuple #[paV c n R4 v, .bool B4]) ∧ OwnI w' W.heap.size v L4 ∧ Below W.heap.size W w' := fun W hW => by
        rw [hR4, hL4, hB4]
        exact pack_spec c n r A l k0 15 0 T hl hr hTs W ((HI.out W hW).raise hW.size)
      have HPK := Lib.hid (HPKW WM BM.out)
      have HPKA := Lib.hid (HPKW _ BMA.out)
      have HPK2 := Lib.hid (HPKW WM2 BM2.out)
      have HR := Lib.hid hR4
      have HL := Lib.hid hL4
      have H0 := Lib.hid (show r.size % 24 ≠ 0 from by rw [← HM.out]; exact h0)
      clear hR4 hL4 hB4 hTs HPKW
      have HMK := Lib.hid hmk3
      have HCV := Lib.hid hcv3
      have HCVA := Lib.hid hcvA
      have HMK2 := Lib.hid hmk2
      have HCV2 := Lib.hid hcv2
      have HBM := Lib.hid hbm
      clear hmk3 hcv3 hbm hmk2 hcv2 hcvA hbm2
      have HT := Lib.hid (hT.trans (congrArg zerosT hk))
      have HK := Lib.hid hk
      clear hk hT
      by_cases hlt : 24 - m < 4
      · have hd1 : decide ((24 : Int) - (m : Int) < 4) = true := by simp; omega
        rw [if_pos hlt] at hk2
        have hw : IntKind.i64.wrap ((24 : Int) - (m : Int) + 24 - 4) = (k : Int) := by rw [show (24 : Int) - (m : Int) + 24 - 4 = (k : Int) by omega]; exact IntWalk.i64_in _ (by omega)
        clear hk2
        have HW := Lib.hid hw
        clear hw
        go_upto_region 7 with fail
        clear hd1 hd0 h0 hlt hm24
        have hmk3 := HMK.out
        have hcv3 := HCV.out
        have hcvA := HCVA.out
        have hmk2 := HMK2.out
        have hcv2 := HCV2.out
        have hw := HW.out
        obtain ⟨s0, s1, s2, s3⟩ := PM.out.fourP
        obtain ⟨t0, t1, t2, t3⟩ := PMA.out.fourP
        obtain ⟨u0, u1, u2, u3⟩ := PM2.out.fourP
        obtain ⟨z0, z1, z2, z3⟩ := PZ.out.fourP
        generalize (24 : Int) - (m : Int) + 24 = X at *
        go_wp2
        go_region_with (go_at_call 50; first
          | ((with_reducible refine HPK.out.mono ?_); rintro e w4 ⟨v4, rfl, ho4, hb4⟩; obtain ⟨A4, c4, rfl⟩ := ho4.form; obtain ⟨w5, hw5, g, F⟩ : ∃ w5, w5 = w4.alloc (.cells #[.int .i64 c, .int .i64 n, .string R4, .slice A4 L4.length c4] 34) ∧ ∃ g, FS w w5 g (paL c n R4 (.slice A4 L4.length c4)) (.slice A4 L4.length c4) L4 ∧ g = w4.heap.size := ⟨_, rfl, _, FS.made (BM.out.trans (hb4.mono BM.out.size)) (RM.out.more hb4) ho4 hg1 _ _, rfl⟩)
          | ((with_reducible refine HPKA.out.mono ?_); rintro e w4 ⟨v4, rfl, ho4, hb4⟩; obtain ⟨A4, c4, rfl⟩ := ho4.form; obtain ⟨o0, o1, o2, o3⟩ := (OMA.out.more hb4).fourP; have oi := (OMA.out.more hb4).ice; obtain ⟨w5, hw5, g, F⟩ : ∃ w5, w5 = w4.setCells WM.heap.size 0 (paL c n R4 (.slice A4 L4.length c4)) ∧ ∃ g, FS w w5 g (paL c n R4 (.slice A4 L4.length c4)) (.slice A4 L4.length c4) L4 ∧ g = WM.heap.size := ⟨_, rfl, _, FS.put (BMA.out.trans (hb4.mono BMA.out.size)) (RMA.out.more hb4) ho4 (by omega) hg1 (by omega) (OMA.out.more hb4) _ rfl, rfl⟩)
          | ((with_reducible refine HPK2.out.mono ?_); rintro e w4 ⟨v4, rfl, ho4, hb4⟩; obtain ⟨A4, c4, rfl⟩ := ho4.form; obtain ⟨o0, o1, o2, o3⟩ := (OM2.out.more hb4).fourP; have oi := (OM2.out.more hb4).ice; obtain ⟨w5, hw5, g, F⟩ : ∃ w5, w5 = w4.setCells w3.heap.size 0 (paL c n R4 (.slice A4 L4.length c4)) ∧ ∃ g, FS w w5 g (paL c n R4 (.slice A4 L4.length c4)) (.slice A4 L4.length c4) L4 ∧ g = w3.heap.size := ⟨_, rfl, _, FS.put (BM2.out.trans (hb4.mono BM2.out.size)) (RM2.out.more hb4) ho4 (by omega) hg3 (by omega) (OM2.out.more hb4) _ rfl, rfl⟩))
        all_goals
          clear ho4 hb4 hmk3 hcv3 hcvA hmk2 hcv2 hw s0 s1 s2 s3 t0 t1 t2 t3 u0 u1 u2 u3 z0 z1 z2 z3
          go_upto_region 8 with fail
          first
            | rw [← hw5]
            | (change Code.wp Try.prog _ _ _ (w4.setCells _ 0 (paL c n R4 (.slice A4 L4.length c4))); rw [← hw5])
          obtain ⟨F, hgg⟩ := F
          rw [← hgg]
          obtain ⟨s0, s1, s2, s3⟩ := F.bo.fourP
          obtain ⟨r0, r1, r2, r3⟩ := F.br.fourP
          have ri := F.br.ice
          have PD := Lib.hid (fill_done (c := c) (n := n) (s := R4) F.below F.br F.own rfl)
          clear F hw5 hgg
          go_wp2
          show bodyPost Try.prog Try.f53 _ Exit.ret _ (w5.setCells (w.heap.size + 1) 0 (paL c n R4 (.slice A4 L4.length c4)))
          generalize w5.setCells (w.heap.size + 1) 0 (paL c n R4 (.slice A4 L4.length c4)) = WE at *
          obtain ⟨⟨d0, d1, d2, d3⟩, ho, hb⟩ := PD.out
          refine bodyPost_ret_by (v := paV c n R4 (.slice A4 L4.length c4)) ?_ rfl (by rw [HR.out]; exact FillEnd.yes HT.out H0.out (by rw [← HL.out]; exact ho) hb)
          simp [results, Try.f53, go_sem, d0, d1, d2, d3]
      · have hd1 : decide ((24 : Int) - (m : Int) < 4) = false := by simp; omega
        rw [if_neg hlt] at hk2
        have hw : IntKind.i64.wrap ((24 : Int) - (m : Int) - 4) = (k : Int) := by rw [show (24 : Int) - (m : Int) - 4 = (k : Int) by omega]; exact IntWalk.i64_in _ (by omega)
        clear hk2
        have HW := Lib.hid hw
        clear hw
        go_upto_region 7 with fail
        clear hd1 hd0 h0 hlt hm24
        have hmk3 := HMK.out
        have hcv3 := HCV.out
        have hcvA := HCVA.out
        have hmk2 := HMK2.out
        have hcv2 := HCV2.out
        have hw := HW.out
        obtain ⟨s0, s1, s2, s3⟩ := PM.out.fourP
        obtain ⟨t0, t1, t2, t3⟩ := PMA.out.fourP
        obtain ⟨u0, u1, u2, u3⟩ := PM2.out.fourP
        obtain ⟨z0, z1, z2, z3⟩ := PZ.out.fourP
        generalize (24 : Int) - (m : Int) = X at *
        go_wp2
        go_region_with (go_at_call 50; first
          | ((with_reducible refine HPK.out.mono ?_); rintro e w4 ⟨v4, rfl, ho4, hb4⟩; obtain ⟨A4, c4, rfl⟩ := ho4.form; obtain ⟨w5, hw5, g, F⟩ : ∃ w5, w5 = w4.alloc (.cells #[.int .i64 c, .int .i64 n, .string R4, .slice A4 L4.length c4] 34) ∧ ∃ g, FS w w5 g (paL c n R4 (.slice A4 L4.length c4)) (.slice A4 L4.length c4) L4 ∧ g = w4.heap.size := ⟨_, rfl, _, FS.made (BM.out.trans (hb4.mono BM.out.size)) (RM.out.more hb4) ho4 hg1 _ _, rfl⟩)
          | ((with_reducible refine HPKA.out.mono ?_); rintro e w4 ⟨v4, rfl, ho4, hb4⟩; obtain ⟨A4, c4, rfl⟩ := ho4.form; obtain ⟨o0, o1, o2, o3⟩ := (OMA.out.more hb4).fourP; have oi := (OMA.out.more hb4).ice; obtain ⟨w5, hw5, g, F⟩ : ∃ w5, w5 = w4.setCells WM.heap.size 0 (paL c n R4 (.slice A4 L4.length c4)) ∧ ∃ g, FS w w5 g (paL c n R4 (.slice A4 L4.length c4)) (.slice A4 L4.length c4) L4 ∧ g = WM.heap.size := ⟨_, rfl, _, FS.put (BMA.out.trans (hb4.mono BMA.out.size)) (RMA.out.more hb4) ho4 (by omega) hg1 (by omega) (OMA.out.more hb4) _ rfl, rfl⟩)
          | ((with_reducible refine HPK2.out.mono ?_); rintro e w4 ⟨v4, rfl, ho4, hb4⟩; obtain ⟨A4, c4, rfl⟩ := ho4.form; obtain ⟨o0, o1, o2, o3⟩ := (OM2.out.more hb4).fourP; have oi := (OM2.out.more hb4).ice; obtain ⟨w5, hw5, g, F⟩ : ∃ w5, w5 = w4.setCells w3.heap.size 0 (paL c n R4 (.slice A4 L4.length c4)) ∧ ∃ g, FS w w5 g (paL c n R4 (.slice A4 L4.length c4)) (.slice A4 L4.length c4) L4 ∧ g = w3.heap.size := ⟨_, rfl, _, FS.put (BM2.out.trans (hb4.mono BM2.out.size)) (RM2.out.more hb4) ho4 (by omega) hg3 (by omega) (OM2.out.more hb4) _ rfl, rfl⟩))
        all_goals
          clear ho4 hb4 hmk3 hcv3 hcvA hmk2 hcv2 hw s0 s1 s2 s3 t0 t1 t2 t3 u0 u1 u2 u3 z0 z1 z2 z3
          go_upto_region 8 with fail
          first
            | rw [← hw5]
            | (change Code.wp Try.prog _ _ _ (w4.setCells _ 0 (paL c n R4 (.slice A4 L4.length c4))); rw [← hw5])
          obtain ⟨F, hgg⟩ := F
          rw [← hgg]
          obtain ⟨s0, s1, s2, s3⟩ := F.bo.fourP
          obtain ⟨r0, r1, r2, r3⟩ := F.br.fourP
          have ri := F.br.ice
          have PD := Lib.hid (fill_done (c := c) (n := n) (s := R4) F.below F.br F.own rfl)
          clear F hw5 hgg
          go_wp2
          show bodyPost Try.prog Try.f53 _ Exit.ret _ (w5.setCells (w.heap.size + 1) 0 (paL c n R4 (.slice A4 L4.length c4)))
          generalize w5.setCells (w.heap.size + 1) 0 (paL c n R4 (.slice A4 L4.length c4)) = WE at *
          obtain ⟨⟨d0, d1, d2, d3⟩, ho, hb⟩ := PD.out
          refine bodyPost_ret_by (v := paV c n R4 (.slice A4 L4.length c4)) ?_ rfl (by rw [HR.out]; exact FillEnd.yes HT.out H0.out (by rw [← HL.out]; exact ho) hb)
          simp [results, Try.f53, go_sem, d0, d1, d2, d3]
  · rw [paB_no hP] at HO
    have HNO := Lib.hid (show r.size % 24 = 0 ∨ ¬ PaOk c n r l from .inr hP)
    go_wp2_with fail
    refine HO.out.mono ?_
    rintro e w3 ⟨rfl, hb3⟩
    have P3 := P2.more hb3
    have R3 := R2.more hb3
    have B3 := B2.trans (hb3.mono B2.size)
    obtain ⟨q0, q1, q2, q3⟩ := P3.fourP
    clear p0 p1 p2 p3 hb3
    go_wp2_with fail
    refine (copy_pak c n r A l k0 (by omega) w3 ((HI.out _ B3).raise B3.size)).mono ?_
    rintro e w4 ⟨v4, rfl, ho4, hb4⟩
    obtain ⟨A4, c4, rfl⟩ := ho4.form
    clear q0 q1 q2 q3
    obtain ⟨r0, r1, r2, r3⟩ := (R3.more hb4).fourP
    have ri := (R3.more hb4).ice
    have PD := Lib.hid (fill_done (c := c) (n := n) (s := r) (B3.trans (hb4.mono B3.size)) (R3.more hb4) (ho4.lower (by have := R3.lt; omega)) rfl)
    clear hb4 ho4
    go_wp2
    show bodyPost Try.prog Try.f53 _ Exit.ret _ (w4.setCells (w.heap.size + 1) 0 (paL c n r (.slice A4 l.length c4)))
    generalize w4.setCells (w.heap.size + 1) 0 (paL c n r (.slice A4 l.length c4)) = WE at *
    obtain ⟨⟨d0, d1, d2, d3⟩, ho, hb⟩ := PD.out
    refine bodyPost_ret_by (v := paV c n r (.slice A4 l.length c4)) ?_ rfl (FillEnd.no HNO.out ho hb)
    simp [results, Try.f53, go_sem, d0, d1, d2, d3]
end Go.Proofs.Ytegahdlfjdjcaaa
