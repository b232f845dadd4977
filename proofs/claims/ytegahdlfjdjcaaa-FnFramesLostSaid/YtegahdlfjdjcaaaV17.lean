/- What this text proves: the parts PakP of the proof, each under its own words. -/
import Derived.Test.YtegahdlfjdjcaaaV15
import Derived.Test.YtegahdlfjdjcaaaV16
import Derived.Test.YtegahdlfjdjcaaaV06
import Derived.Deep.Cut
import Derived.Deep.CutRange
import Derived.Deep.RegionWith
/- What this text proves: the contract of the model's PackPacket. -/
namespace Go.Proofs.Ytegahdlfjdjcaaa
open Go.ChangeShapes Go.WideShapes Go.ChangeAt Go.RowKit
set_option linter.unusedVariables false

structure PP (w W : World) (g3 : Nat) (p x r o : List Value) (v : Value) (l' : List Int) : Prop where
  below : Below w.heap.size w W
  bp : Box W w.heap.size p
  bx : Box W (w.heap.size + 1) x
  br : Box W (w.heap.size + 2) r
  bo : Box W g3 o
  far : w.heap.size + 3 ≤ g3
  own : OwnI W (w.heap.size + 3) v l'
  ne : v.ownBlock ≠ some g3
theorem PP.more {w W W' : World} {g3 : Nat} {p x r o : List Value} {v : Value} {l' : List Int} (h : PP w W g3 p x r o v l') (hb : Below W.heap.size W W') : PP w W' g3 p x r o v l' :=
  ⟨h.below.trans (hb.mono h.below.size), h.bp.more hb, h.bx.more hb, h.br.more hb, h.bo.more hb, h.far, h.own.more hb, h.ne⟩

theorem pp_done {w W : World} {r : List Value} {c n : Int} {s : ByteArray} {v : Value} {l' : List Int} (hb : Below w.heap.size w W) (hbr : Box W (w.heap.size + 2) r) (ho : OwnI W (w.heap.size + 3) v l') (hr : r.length = 4) :
    Cells4P (W.setCells (w.heap.size + 1 + 1) 0 (paL c n s v)) (w.heap.size + 1 + 1) (.int .i64 c) (.int .i64 n) (.string s) v ∧ OwnI (W.setCells (w.heap.size + 1 + 1) 0 (paL c n s v)) w.heap.size v l' ∧ Below w.heap.size w (W.setCells (w.heap.size + 1 + 1) 0 (paL c n s v)) := by
  have past4 : ∀ (us : List Value) (o : Nat) (W : World), OwnI W (w.heap.size + 3) v l' → OwnI (W.setCells (w.heap.size + 1 + 1) o us) (w.heap.size + 3) v l' := by
    intro us
    induction us with
    | nil => intro o W h; exact h
    | cons u r ih => intro o W h; exact ih _ _ (h.past (by omega) u)
  exact ⟨(hbr.all (us := paL c n s v) (by rw [hr]; rfl)).fourP, (past4 _ 0 _ ho).lower (by omega), below_setCells (B := w.heap.size) (by omega) (paL c n s v) 0 _ hb⟩
theorem PP.done {w W : World} {g3 : Nat} {p x r : List Value} {c n : Int} {s : ByteArray} {v : Value} {l' : List Int} (h : PP w W g3 p x r (paL c n s v) v l') (hr : r.length = 4) :
    Cells4P (W.setCells (w.heap.size + 1 + 1) 0 (paL c n s v)) (w.heap.size + 1 + 1) (.int .i64 c) (.int .i64 n) (.string s) v ∧ OwnI (W.setCells (w.heap.size + 1 + 1) 0 (paL c n s v)) w.heap.size v l' ∧ Below w.heap.size w (W.setCells (w.heap.size + 1 + 1) 0 (paL c n s v)) :=
  pp_done h.below h.br h.own hr
theorem PP.app {w W W' : World} {g3 : Nat} {p x r o : List Value} {v v2 : Value} {l' l2 : List Int} (h : PP w W g3 p x r o v l') (ho : OwnI W' (w.heap.size + 3) v2 l2) (hg : W.grownBy W' v.ownBlock) (hor : v2.ownBlock = v.ownBlock ∨ v2.ownBlock = some W.heap.size) : PP w W' g3 p x r o v2 l2 := by
  have hlt := World.ownsRow.lt h.own
  refine ⟨h.below.grown hg h.below.size (fun k hk => Nat.le_trans (by omega) (hlt k hk).1), h.bp.grown hg (fun e => ?_), h.bx.grown hg (fun e => ?_), h.br.grown hg (fun e => ?_), h.bo.grown hg h.ne, h.far, ho, fun e => ?_⟩
  · have := (hlt _ e).1; omega
  · have := (hlt _ e).1; omega
  · have := (hlt _ e).1; omega
  · rcases hor with h1 | h1
    · exact h.ne (h1 ▸ e)
    · have := h.bo.lt
      rw [h1] at e
      injection e with e
      omega
theorem PP.put {w W : World} {g3 : Nat} {p x r o : List Value} {v : Value} {l' : List Int} (h : PP w W g3 p x r o v l') (j : Nat) (hj : j < o.length) (u : Value) : PP w (W.setCell ⟨g3, j, none⟩ u) g3 p x r (o.set j u) v l' := by
  have hf := h.far
  exact ⟨h.below.setCell (p := ⟨g3, j, none⟩) (by simp; omega) u, h.bp.other (by omega) j u, h.bx.other (by omega) j u, h.br.other (by omega) j u, h.bo.set j hj u, h.far, h.own.away h.ne u, h.ne⟩

def PackOk (c n : Int) (r : ByteArray) (l : List Int) (a q : Int) (d : ByteArray) : Prop := PaOk c n r l ∧ PkOk a q d ∧ PaOk c n (r ++ pkT a q d) (l ++ [(r.size : Int)])
open Classical in
noncomputable def packB (c n : Int) (r : ByteArray) (l : List Int) (a q : Int) (d : ByteArray) : Bool := decide (PackOk c n r l a q d)
theorem packB_yes {c n : Int} {r : ByteArray} {l : List Int} {a q : Int} {d : ByteArray} (h : PackOk c n r l a q d) : packB c n r l a q d = true := by unfold packB; exact @decide_eq_true _ (Classical.propDecidable _) h
theorem packB_no {c n : Int} {r : ByteArray} {l : List Int} {a q : Int} {d : ByteArray} (h : ¬ PackOk c n r l a q d) : packB c n r l a q d = false := by unfold packB; exact @decide_eq_false _ (Classical.propDecidable _) h
noncomputable def packR (c n : Int) (r : ByteArray) (l : List Int) (a q : Int) (d : ByteArray) : ByteArray := bif packB c n r l a q d then r ++ pkT a q d else r
noncomputable def packL (c n : Int) (r : ByteArray) (l : List Int) (a q : Int) (d : ByteArray) : List Int := bif packB c n r l a q d then l ++ [(r.size : Int)] else l
/-- What PackPacket answers. -/
def PackEnd (c n : Int) (r : ByteArray) (l : List Int) (a q : Int) (d : ByteArray) (w : World) (e : Ending) (w' : World) : Prop :=
  ∃ v, e = .returned (.tuple #[paV c n (packR c n r l a q d) v, .bool (packB c n r l a q d)]) ∧ OwnI w' w.heap.size v (packL c n r l a q d) ∧ Below w.heap.size w w'
theorem PackEnd.no {c n : Int} {r : ByteArray} {l : List Int} {a q : Int} {d : ByteArray} {w w' : World} {v : Value} (h : ¬ PackOk c n r l a q d) (ho : OwnI w' w.heap.size v l) (hb : Below w.heap.size w w') : PackEnd c n r l a q d w (.returned (.tuple #[paV c n r v, .bool false])) w' :=
  ⟨v, by unfold packR; rw [packB_no h]; rfl, by unfold packL; rw [packB_no h]; exact ho, hb⟩
theorem PackEnd.yes {c n : Int} {r : ByteArray} {l : List Int} {a q : Int} {d : ByteArray} {w w' : World} {v : Value} (h : PackOk c n r l a q d) (ho : OwnI w' w.heap.size v (l ++ [(r.size : Int)])) (hb : Below w.heap.size w w') : PackEnd c n r l a q d w (.returned (.tuple #[paV c n (r ++ pkT a q d) v, .bool true])) w' :=
  ⟨v, by unfold packR; rw [packB_yes h]; rfl, by unfold packL; rw [packB_yes h]; exact ho, hb⟩
set_option maxHeartbeats 4000000 in
theorem pack_spec (c n : Int) (r : ByteArray) (A : Option Addr) (l : List Int) (k0 : Nat) (a q : Int) (d : ByteArray) (hl : l.length ≤ 1048576) (hr : r.size ≤ 1048576) (hd : d.size ≤ 1048576) (w : World) (h : IntsAt w w.heap.size A l) :
    Calls Try.prog 50 #[paV c n r (.slice A l.length k0), pkV a q d] w (PackEnd c n r l a q d w) := by
  have BP := Lib.hid (((Box.made w (paL c n r (.slice A l.length k0)) 34 _ rfl).alloc (.cells (pkL a q d).toArray 28)).alloc (.cells (paL 0 0 ⟨#[]⟩ (.slice none 0 0)).toArray 34))
  have BX := Lib.hid ((Box.made (w.alloc (.cells (paL c n r (.slice A l.length k0)).toArray 34)) (pkL a q d) 28 (w.heap.size + 1) (by simp)).alloc (.cells (paL 0 0 ⟨#[]⟩ (.slice none 0 0)).toArray 34))
  have BR := Lib.hid (Box.made ((w.alloc (.cells (paL c n r (.slice A l.length k0)).toArray 34)).alloc (.cells (pkL a q d).toArray 28)) (paL 0 0 ⟨#[]⟩ (.slice none 0 0)) 34 (w.heap.size + 1 + 1) (by simp))
  have BB := Lib.hid ((((Below.refl _ w).alloc (Nat.le_refl _) (.cells (paL c n r (.slice A l.length k0)).toArray 34)).alloc (by simp) (.cells (pkL a q d).toArray 28)).alloc (by simp; omega) (.cells (paL 0 0 ⟨#[]⟩ (.slice none 0 0)).toArray 34))
  have hz : (((w.alloc (.cells (paL c n r (.slice A l.length k0)).toArray 34)).alloc (.cells (pkL a q d).toArray 28)).alloc (.cells (paL 0 0 ⟨#[]⟩ (.slice none 0 0)).toArray 34)).heap.size = w.heap.size + 3 := by simp
  have HI := Lib.hid (fun W (hb : Below w.heap.size w W) => h.more hb)
  have HC := Lib.hid (copy_pak c n r A l k0 (by omega) _ ((HI.out _ BB.out).raise (by rw [hz]; omega)))
  clear h
  go_enter Try.func50, Try.ntmps50
  go_wp2_with fail
  refine HC.out.mono ?_
  rintro e w2 ⟨v1, rfl, hown, hb⟩
  rw [hz] at hown hb
  have BP2 := BP.out.moreAt hb (by omega) (by rw [hz]; exact Nat.le_trans (by omega) hb.size)
  have BX2 := BX.out.moreAt hb (by omega) (by rw [hz]; exact Nat.le_trans (by omega) hb.size)
  have BR2 := BR.out.moreAt hb (by omega) (by rw [hz]; exact Nat.le_trans (by omega) hb.size)
  have BB2 := BB.out.trans (hb.mono (by omega))
  have hz2 : w.heap.size + 3 ≤ w2.heap.size := by have := hb.size; rw [hz] at this; exact this
  have hne : v1.ownBlock ≠ some w2.heap.size := fun e => by have := (World.ownsRow.lt hown _ e).2; omega
  obtain ⟨A1, c1, rfl⟩ := hown.form
  have P3 : PP w (w2.alloc (.cells #[.int .i64 c, .int .i64 n, .string r, .slice A1 l.length c1] 34)) w2.heap.size (paL c n r (.slice A l.length k0)) (pkL a q d) (paL 0 0 ⟨#[]⟩ (.slice none 0 0)) (paL c n r (.slice A1 l.length c1)) (.slice A1 l.length c1) l :=
    ⟨BB2.alloc (by omega) _, BP2.alloc _, BX2.alloc _, BR2.alloc _, Box.made _ (paL c n r (.slice A1 l.length c1)) _ _ rfl, hz2, hown.more ((Below.refl _ _).alloc (Nat.le_refl _) _), hne⟩
  obtain ⟨m0, m1, m2, m3⟩ := BP2.fourP
  clear BP2 BX2 BR2 BB2 hb
  go_upto_region 2 with fail
  clear m0 m1 m2 m3 hown
  generalize w2.alloc (.cells #[.int .i64 c, .int .i64 n, .string r, .slice A1 l.length c1] 34) = W3 at *
  generalize w2.heap.size = g3 at *
  obtain ⟨m0, m1, m2, m3⟩ := P3.bp.fourP
  have HO := Lib.hid (po_spec c n r A l k0 (by omega) hr W3 ((HI.out _ P3.below).raise P3.below.size))
  by_cases hP : PaOk c n r l
  · rw [paB_yes hP] at HO
    by_cases hX : PkOk a q d
    · have HX := Lib.hid (fun W => by have h := pk_spec a q d W; rw [decide_eq_true hX] at h; exact h)
      go_wp2_with fail
      refine HO.out.mono ?_
      rintro e w4 ⟨rfl, hb4⟩
      have P4 := P3.more hb4
      obtain ⟨x0, x1, x2⟩ := P4.bx.three
      clear hb4 m0 m1 m2 m3
      go_wp2_with fail
      refine (HX.out _).mono ?_
      rintro e w5 ⟨rfl, hb5⟩
      have P5 := P4.more hb5
      obtain ⟨n0, n1, n2, n3⟩ := P5.bo.fourP
      obtain ⟨p0, p1, p2, p3⟩ := P5.bp.fourP
      have P6 := P5.more ((Below.refl _ _).alloc (Nat.le_refl _) (.cells #[.int .i64 (r.size : Int)] 3))
      have HP6 := Lib.hid P6
      have HB6 : w.heap.size + 3 ≤ (w5.alloc (.cells #[.int .i64 (r.size : Int)] 3)).heap.size := by have := P6.far; have := P6.bo.lt; omega
      have HI6 : IntsAt (w5.alloc (.cells #[.int .i64 (r.size : Int)] 3)) (w5.heap.size + 1) (some ⟨w5.heap.size, 0, none⟩) [(r.size : Int)] := .inr ⟨w5.heap.size, 0, rfl, by omega, fun j hj => by
        obtain rfl : j = 0 := by simpa using hj
        rw [World.cell?_alloc_at _ _ _ _ rfl]
        rfl⟩
      have HL6 : l.length + [(r.size : Int)].length ≤ 1099511627 := by simp; omega
      clear hb5 x0 x1 x2 P4 P5 P6
      go_wp2_with (at_builtin; go_loud (refine app_ints _ rfl _ _ rfl (w.heap.size + 3) (.slice A1 l.length c1) l rfl HP6.out.own (w5.heap.size + 1) (some ⟨w5.heap.size, 0, none⟩) [(r.size : Int)] 1 rfl HI6 HL6 HB6 ?_))
      intro v2 w6 hown6 hg6 hor
      have hsz6 : (w5.alloc (.cells #[.int .i64 (r.size : Int)] 3)).heap.size = w5.heap.size + 1 := by simp
      obtain ⟨l2, hl2⟩ : ∃ l2, l2 = l ++ [(r.size : Int)] := ⟨_, rfl⟩
      rw [← hl2] at hown6
      have hl2s : l2.length ≤ 1048577 := by rw [hl2]; simp; omega
      have P7 := HP6.out.app hown6 hg6 (by rw [hsz6]; exact hor)
      obtain ⟨A2, c2, rfl⟩ := hown6.form
      have P8 := P7.put 3 (by simp) (.slice A2 l2.length c2)
      replace P8 : PP w _ g3 _ _ _ (paL c n r (.slice A2 l2.length c2)) (.slice A2 l2.length c2) l2 := P8
      have HPO := Lib.hid (fun h : PaOk c n (r ++ pkT a q d) l2 => (⟨hP, hX, hl2 ▸ h⟩ : PackOk c n r l a q d))
      have HPN := Lib.hid (fun (h : ¬ PaOk c n (r ++ pkT a q d) l2) (h2 : PackOk c n r l a q d) => h (hl2 ▸ h2.2.2))
      have HL2 := Lib.hid hl2
      have hr5 : r.size ≤ 5000 := hP.2.2.2
      clear HL6 HI6 HB6 HP6 hown6 hg6 hor n0 n1 n2 n3 p0 p1 p2 p3 hl2
      obtain ⟨n0, n1, n2, n3⟩ := P7.bo.fourP
      have ni := P7.bo.ice
      go_upto_region 5 with fail
      clear n0 n1 n2 n3 ni P7
      generalize w6.setCell ⟨g3, 3, none⟩ (.slice A2 l2.length c2) = w8 at *
      obtain ⟨n0, n1, n2, n3⟩ := P8.bo.fourP
      obtain ⟨p0, p1, p2, p3⟩ := P8.bp.fourP
      obtain ⟨x0, x1, x2⟩ := P8.bx.three
      have hT : (pkT a q d).size ≤ 52 := by
        have := putS_four_le a 1
        have := putS_four_le q 2
        have := putS_four_le (d.size : Int) 1
        have := hX.2.2
        unfold pkT
        rw [if_pos hX]
        simp only [ByteArray.size_append]
        omega
      have HEN := Lib.hid (enc_spec a q d hd)
      obtain ⟨T, hTe⟩ : ∃ T, T = pkT a q d := ⟨_, rfl⟩
      rw [← hTe] at HEN HPO HPN hT
      have HTe := Lib.hid hTe
      clear hX hP hTe
      have hb0 : ¬ 9223372036854775807 < r.size + T.size := by omega
      have HP8 := Lib.hid (P8.more (Below.refl _ _).drew)
      clear P8
      go_wp2
      go_region_with (go_at_call 37; refine (HEN.out _).mono ?_; rintro e w9 ⟨rfl, hb9⟩; have P9 := HP8.out.more hb9; obtain ⟨s0, s1, s2, s3⟩ := P9.bo.fourP; obtain ⟨t0, t1, t2, t3⟩ := P9.bp.fourP; have si := P9.bo.ice)
      all_goals
        have P10 := P9.put 2 (by simp) (.string (r ++ T))
        replace P10 : PP w _ g3 _ _ _ (paL c n (r ++ T) (.slice A2 l2.length c2)) (.slice A2 l2.length c2) l2 := P10
        clear P9 hb9 s0 s1 s2 s3 t0 t1 t2 t3
        go_upto_region 6 with fail
        clear si
        generalize w9.setCell ⟨g3, 2, none⟩ (.string (r ++ T)) = w10 at *
        obtain ⟨n0, n1, n2, n3⟩ := P10.bo.fourP
        have HO2 := Lib.hid (po_spec c n (r ++ T) A2 l2 c2 hl2s (by rw [ByteArray.size_append]; omega) w10 P10.own.ints)
        by_cases h2 : PaOk c n (r ++ T) l2
        · rw [paB_yes h2] at HO2
          have HV := Lib.hid (HPO.out h2)
          clear h2 HPO HPN
          go_wp2_with fail
          refine HO2.out.mono ?_
          rintro e w11 ⟨rfl, hb11⟩
          have P11 := P10.more hb11
          clear n0 n1 n2 n3 hb11
          obtain ⟨n0, n1, n2, n3⟩ := P11.bo.fourP
          obtain ⟨r0, r1, r2, r3⟩ := P11.br.fourP
          have ri := P11.br.ice
          have PD := Lib.hid (P11.done rfl)
          clear P10 P11
          go_wp2
          show bodyPost Try.prog Try.f50 _ Exit.ret _ (w11.setCells (w.heap.size + 1 + 1) 0 (paL c n (r ++ T) (.slice A2 l2.length c2)))
          generalize w11.setCells (w.heap.size + 1 + 1) 0 (paL c n (r ++ T) (.slice A2 l2.length c2)) = WE at *
          obtain ⟨⟨c0, c3, c4, c5⟩, ho, hb⟩ := PD.out
          refine bodyPost_ret_by (v := .tuple #[paV c n (r ++ T) (.slice A2 l2.length c2), .bool true]) ?_ rfl (by rw [show r ++ T = r ++ pkT a q d from congrArg (r ++ ·) HTe.out]; exact PackEnd.yes (show PackOk c n r l a q d from ⟨HV.out.1, HV.out.2.1, by rw [← HTe.out]; exact HV.out.2.2⟩) (HL2.out ▸ ho) hb)
          simp [results, Try.f50, go_sem, c0, c3, c4, c5]
        · rw [paB_no h2] at HO2
          have HN := Lib.hid (HPN.out h2)
          clear h2 HPO HPN
          go_wp2_with fail
          refine HO2.out.mono ?_
          rintro e w11 ⟨rfl, hb11⟩
          have P11 := P10.more hb11
          clear n0 n1 n2 n3 hb11
          obtain ⟨p0, p1, p2, p3⟩ := P11.bp.fourP
          go_wp2_with fail
          refine (copy_pak c n r A l k0 (by omega) w11 ((HI.out _ P11.below).raise P11.below.size)).mono ?_
          rintro e w12 ⟨v9, rfl, ho9, hb12⟩
          have P12 := P11.more hb12
          obtain ⟨A9, c9, rfl⟩ := ho9.form
          clear p0 p1 p2 p3
          obtain ⟨r0, r1, r2, r3⟩ := P12.br.fourP
          have ri := P12.br.ice
          have PD := Lib.hid (pp_done (c := c) (n := n) (s := r) P12.below P12.br (ho9.lower (by have := P11.far; have := P11.bo.lt; omega)) rfl)
          clear P10 P11 P12 hb12 ho9
          go_wp2
          show bodyPost Try.prog Try.f50 _ Exit.ret _ (w12.setCells (w.heap.size + 1 + 1) 0 (paL c n r (.slice A9 l.length c9)))
          generalize w12.setCells (w.heap.size + 1 + 1) 0 (paL c n r (.slice A9 l.length c9)) = WE at *
          obtain ⟨⟨c0, c3, c4, c5⟩, ho, hb⟩ := PD.out
          refine bodyPost_ret_by (v := .tuple #[paV c n r (.slice A9 l.length c9), .bool false]) ?_ rfl (PackEnd.no HN.out ho hb)
          simp [results, Try.f50, go_sem, c0, c3, c4, c5]
    · have HX := Lib.hid (fun W => by have h := pk_spec a q d W; rw [decide_eq_false hX] at h; exact h)
      have HN := Lib.hid (fun (h : PackOk c n r l a q d) => hX h.2.1)
      go_wp2_with fail
      refine HO.out.mono ?_
      rintro e w4 ⟨rfl, hb4⟩
      have P4 := P3.more hb4
      obtain ⟨x0, x1, x2⟩ := P4.bx.three
      clear hb4 m0 m1 m2 m3 hP hX
      go_wp2_with fail
      refine (HX.out _).mono ?_
      rintro e w5 ⟨rfl, hb5⟩
      have P5 := P4.more hb5
      obtain ⟨n0, n1, n2, n3⟩ := P5.bo.fourP
      obtain ⟨r0, r1, r2, r3⟩ := P5.br.fourP
      have ri := P5.br.ice
      have PD := Lib.hid (P5.done rfl)
      clear hb5 x0 x1 x2 P4 P5
      go_wp2
      show bodyPost Try.prog Try.f50 _ Exit.ret _ (w5.setCells (w.heap.size + 1 + 1) 0 (paL c n r (.slice A1 l.length c1)))
      generalize w5.setCells (w.heap.size + 1 + 1) 0 (paL c n r (.slice A1 l.length c1)) = WE at *
      obtain ⟨⟨c0, c2, c3, c4⟩, ho, hb⟩ := PD.out
      refine bodyPost_ret_by (v := .tuple #[paV c n r (.slice A1 l.length c1), .bool false]) ?_ rfl (PackEnd.no HN.out ho hb)
      simp [results, Try.f50, go_sem, c0, c2, c3, c4]
  · rw [paB_no hP] at HO
    have HN := Lib.hid (fun (h : PackOk c n r l a q d) => hP h.1)
    go_wp2_with fail
    refine HO.out.mono ?_
    rintro e w4 ⟨rfl, hb4⟩
    have P4 := P3.more hb4
    obtain ⟨n0, n1, n2, n3⟩ := P4.bo.fourP
    obtain ⟨r0, r1, r2, r3⟩ := P4.br.fourP
    have ri := P4.br.ice
    have PD := Lib.hid (P4.done rfl)
    clear hb4 m0 m1 m2 m3 P4
    go_wp2
    show bodyPost Try.prog Try.f50 _ Exit.ret _ (w4.setCells (w.heap.size + 1 + 1) 0 (paL c n r (.slice A1 l.length c1)))
    generalize w4.setCells (w.heap.size + 1 + 1) 0 (paL c n r (.slice A1 l.length c1)) = WE at *
    obtain ⟨⟨c0, c2, c3, c4⟩, ho, hb⟩ := PD.out
    refine bodyPost_ret_by (v := .tuple #[paV c n r (.slice A1 l.length c1), .bool false]) ?_ rfl (PackEnd.no HN.out ho hb)
    simp [results, Try.f50, go_sem, c0, c2, c3, c4]
end Go.Proofs.Ytegahdlfjdjcaaa
