/- What this text proves: the parts IPp of the proof, each under its own words. -/
import Derived.Test.YtegahdlfjdjcaaaV23
import Derived.Test.YtegahdlfjdjcaaaV24
import Derived.Test.YtegahdlfjdjcaaaV17
/- What this text proves: the contracts of the program's copyPacker and PackPacket. -/
namespace Go.Proofs.Ytegahdlfjdjcaaa
open Go.ChangeShapes Go.WideShapes Go.ChangeAt Go.RowKit
set_option linter.unusedVariables false

theorem out_done {w W : World} {r : List Value} {c n : Int} {s : ByteArray} {v : Value} {l' : List Int} (hb : Below w.heap.size w W) (hbr : Box W (w.heap.size + 1) r) (ho : OwnI W (w.heap.size + 2) v l') (hr : r.length = 4) :
    Cells4P (W.setCells (w.heap.size + 1) 0 (paL c n s v)) (w.heap.size + 1) (.int .i64 c) (.int .i64 n) (.string s) v ∧ OwnI (W.setCells (w.heap.size + 1) 0 (paL c n s v)) w.heap.size v l' ∧ Below w.heap.size w (W.setCells (w.heap.size + 1) 0 (paL c n s v)) := by
  have past4 : ∀ (us : List Value) (o : Nat) (W : World), OwnI W (w.heap.size + 2) v l' → OwnI (W.setCells (w.heap.size + 1) o us) (w.heap.size + 2) v l' := by
    intro us
    induction us with
    | nil => intro o W h; exact h
    | cons u r ih => intro o W h; exact ih _ _ (h.past (by omega) u)
  exact ⟨(hbr.all (us := paL c n s v) (by rw [hr]; rfl)).fourP, (past4 _ 0 _ ho).lower (by omega), below_setCells (B := w.heap.size) (by omega) (paL c n s v) 0 _ hb⟩


set_option maxHeartbeats 1000000 in
theorem copy_impl (c n : Int) (r : ByteArray) (A : Option Addr) (l : List Int) (k : Nat) (hl : l.length ≤ 1099511627) (w : World) (h : IntsAt w w.heap.size A l) :
    Calls Try.prog 60 #[paV c n r (.slice A l.length k)] w fun e w' => ∃ v, e = .returned (paV c n r v) ∧ OwnI w' w.heap.size v l ∧ Below w.heap.size w w' := by
  have BR := Lib.hid (Box.made (w.alloc (.cells (paL c n r (.slice A l.length k)).toArray 34)) (paL 0 0 ⟨#[]⟩ (.slice none 0 0)) 34 (w.heap.size + 1) (by simp))
  have BB := Lib.hid (((Below.refl _ w).alloc (Nat.le_refl _) (.cells (paL c n r (.slice A l.length k)).toArray 34)).alloc (by simp) (.cells (paL 0 0 ⟨#[]⟩ (.slice none 0 0)).toArray 34))
  have hz : ((w.alloc (.cells (paL c n r (.slice A l.length k)).toArray 34)).alloc (.cells (paL 0 0 ⟨#[]⟩ (.slice none 0 0)).toArray 34)).heap.size = w.heap.size + 2 := by simp
  have HC := Lib.hid (packing_of c n r A l k hl _ ((h.more BB.out).raise BB.out.size))
  rw [hz] at HC
  clear h
  go_enter Try.func60, Try.ntmps60
  go_wp2_with fail
  refine HC.out.mono ?_
  rintro e w2 ⟨v, g, rfl, hg, hbk, ho, _, hb⟩
  obtain ⟨A1, c1, rfl⟩ := ho.form
  have HK := Lib.hid (packer_of c n r A1 l.length c1 g w2 hbk)
  have B2 := Lib.hid (BB.out.trans (hb.mono (by omega)))
  have R2 := Lib.hid (BR.out.moreAt (W' := w2) hb (by omega) hb.size)
  have O2 := Lib.hid ho
  have hz2 : w.heap.size + 2 ≤ w2.heap.size := by have := hb.size; omega
  clear hb hbk ho
  go_wp2_with fail
  refine HK.out.mono ?_
  rintro e w3 ⟨rfl, hb3⟩
  have R3 := R2.out.more hb3
  have B3 := Lib.hid (B2.out.trans (hb3.mono (by omega)))
  have O3 := Lib.hid (O2.out.more hb3)
  obtain ⟨m0, m1, m2, m3⟩ := R3.fourP
  have mi := R3.ice
  have PD := Lib.hid (out_done (c := c) (n := n) (s := r) B3.out R3 O3.out rfl)
  clear R3 hb3
  go_wp2
  show bodyPost Try.prog Try.f60 _ Exit.ret _ (w3.setCells (w.heap.size + 1) 0 (paL c n r (.slice A1 l.length c1)))
  generalize w3.setCells (w.heap.size + 1) 0 (paL c n r (.slice A1 l.length c1)) = WE at *
  obtain ⟨⟨c0, c3, c4, c5⟩, ho, hb⟩ := PD.out
  refine bodyPost_ret_by (v := paV c n r (.slice A1 l.length c1)) ?_ rfl ⟨_, rfl, ho, hb⟩
  simp [results, Try.f60, go_sem, c0, c3, c4, c5]


set_option maxHeartbeats 4000000 in
theorem pack_impl (c n : Int) (r : ByteArray) (A : Option Addr) (l : List Int) (k0 : Nat) (a q : Int) (d : ByteArray) (hl : l.length ≤ 1048576) (hr : r.size ≤ 1048576) (hd : d.size ≤ 1048576) (w : World) (h : IntsAt w w.heap.size A l) :
    Calls Try.prog 20 #[paV c n r (.slice A l.length k0), pkV a q d] w (PackEnd c n r l a q d w) := by
  have Q3 : QP w (((w.alloc (.cells #[.int .i64 c, .int .i64 n, .string r, .slice A l.length k0] 34)).alloc (.cells #[.int .i64 a, .int .i64 q, .string d] 28)).alloc (.cells #[.int .i64 0, .int .i64 0, .string ⟨#[]⟩, .slice none 0 0] 34)) (paL c n r (.slice A l.length k0)) (pkL a q d) (paL 0 0 ⟨#[]⟩ (.slice none 0 0)) :=
    ⟨(((Below.refl _ w).alloc (Nat.le_refl _) _).alloc (by simp) _).alloc (by simp; omega) _,
     ((Box.made w (paL c n r (.slice A l.length k0)) 34 _ rfl).alloc _).alloc _,
     (Box.made (w.alloc (.cells (paL c n r (.slice A l.length k0)).toArray 34)) (pkL a q d) 28 (w.heap.size + 1) (by simp)).alloc _,
     Box.made ((w.alloc (.cells (paL c n r (.slice A l.length k0)).toArray 34)).alloc (.cells (pkL a q d).toArray 28)) (paL 0 0 ⟨#[]⟩ (.slice none 0 0)) 34 (w.heap.size + 2) (by simp)⟩
  have HI := Lib.hid (fun W (hb : Below w.heap.size w W) => (h.more hb).raise hb.size)
  clear h
  go_enter Try.func20, Try.ntmps20
  go_upto_region 1 with fail
  generalize ((w.alloc (.cells #[.int .i64 c, .int .i64 n, .string r, .slice A l.length k0] 34)).alloc (.cells #[.int .i64 a, .int .i64 q, .string d] 28)).alloc (.cells #[.int .i64 0, .int .i64 0, .string ⟨#[]⟩, .slice none 0 0] 34) = W3 at *
  obtain ⟨p0, p1, p2, p3⟩ := Q3.bp.fourP
  have HO := Lib.hid (po_impl c n r A l k0 (by omega) hr W3 (HI.out _ Q3.below))
  by_cases hP : PaOk c n r l
  · rw [paB_yes hP] at HO
    by_cases hX : PkOk a q d
    · have HX := Lib.hid (fun W => by have h := pk_impl a q d W; rw [decide_eq_true hX] at h; exact h)
      go_wp2_with fail
      refine HO.out.mono ?_
      rintro e w4 ⟨rfl, hb4⟩
      have Q4 := Lib.hid (Q3.more hb4)
      obtain ⟨x0, x1, x2⟩ := Q4.out.bx.three
      clear hb4 p0 p1 p2 p3 Q3
      go_wp2_with fail
      refine (HX.out _).mono ?_
      rintro e w5 ⟨rfl, hb5⟩
      have Q5 := Lib.hid (Q4.out.more hb5)
      obtain ⟨p0, p1, p2, p3⟩ := Q5.out.bp.fourP
      have HC := Lib.hid (packing_of c n r A l k0 (by omega) w5 (HI.out _ Q5.out.below))
      clear hb5 x0 x1 x2
      go_wp2_with fail
      refine HC.out.mono ?_
      rintro e w6 ⟨v6, g, rfl, hg6, hbk6, ho6, hne6, hb6⟩
      have Q6 := Lib.hid (Q5.out.more hb6)
      have hfar := Q5.out.far
      have HPP := Lib.hid (put_packet c n r l a q d v6 g w5.heap.size w6 hbk6 ho6 hne6 hg6 (by omega) (by omega) hd)
      obtain ⟨x0, x1, x2⟩ := Q6.out.bx.three
      clear hb6 hbk6 ho6 hne6 p0 p1 p2 p3
      go_wp2_with fail
      refine HPP.out.mono ?_
      rintro e w7 ⟨rfl, v7, hbk7, ho7, hne7, hb7, hz7⟩
      have Q7 := Lib.hid (Q6.out.moreAt hb7 hfar)
      have HT : (pkT a q d).size ≤ 52 := by
        have := putS_four_le a 1
        have := putS_four_le q 2
        have := putS_four_le (d.size : Int) 1
        have := hX.2.2
        unfold pkT
        rw [if_pos hX]
        simp only [ByteArray.size_append]
        omega
      obtain ⟨T, hTe⟩ : ∃ T, T = pkT a q d := ⟨_, rfl⟩
      obtain ⟨l2, hl2⟩ : ∃ l2, l2 = l ++ [(r.size : Int)] := ⟨_, rfl⟩
      rw [← hTe] at hbk7 HT
      rw [← hl2] at ho7
      have hl2s : l2.length ≤ 1048577 := by rw [hl2]; simp; omega
      have hr5 : r.size ≤ 5000 := hP.2.2.2
      have HPO := Lib.hid (fun h : PaOk c n (r ++ T) l2 => (⟨hP, hX, by rw [← hTe, ← hl2]; exact h⟩ : PackOk c n r l a q d))
      have HPN := Lib.hid (fun (h : ¬ PaOk c n (r ++ T) l2) (h2 : PackOk c n r l a q d) => h (by rw [hTe, hl2]; exact h2.2.2))
      have HTe := Lib.hid hTe
      have HL2 := Lib.hid hl2
      obtain ⟨A7, c7, rfl⟩ := ho7.form
      have HK7 := Lib.hid (packer_of c n (r ++ T) A7 l2.length c7 g w7 hbk7)
      have O7 := Lib.hid ho7
      clear hbk7 ho7 hne7 hb7 hz7 x0 x1 x2 hTe hl2 hP hX
      go_wp2_with fail
      refine HK7.out.mono ?_
      rintro e w8 ⟨rfl, hb8⟩
      have Q8 := Q7.out.more hb8
      have O8 := O7.out.more hb8
      have Q9 : QP w (w8.alloc (.cells #[.int .i64 c, .int .i64 n, .string (r ++ T), .slice A7 l2.length c7] 34)) (paL c n r (.slice A l.length k0)) (pkL a q d) (paL 0 0 ⟨#[]⟩ (.slice none 0 0)) := Q8.more ((Below.refl _ _).alloc (Nat.le_refl _) _)
      have O9 : OwnI (w8.alloc (.cells #[.int .i64 c, .int .i64 n, .string (r ++ T), .slice A7 l2.length c7] 34)) (w.heap.size + 3) (.slice A7 l2.length c7) l2 := (O8.lower hfar).more ((Below.refl _ _).alloc (Nat.le_refl _) _)
      have X9 : Box (w8.alloc (.cells #[.int .i64 c, .int .i64 n, .string (r ++ T), .slice A7 l2.length c7] 34)) w8.heap.size (paL c n (r ++ T) (.slice A7 l2.length c7)) := Box.made w8 (paL c n (r ++ T) (.slice A7 l2.length c7)) _ _ rfl
      clear Q8 O8 hb8
      go_upto_region 6 with fail
      generalize w8.alloc (.cells #[.int .i64 c, .int .i64 n, .string (r ++ T), .slice A7 l2.length c7] 34) = W9 at *
      generalize w8.heap.size = g9 at *
      obtain ⟨n0, n1, n2, n3⟩ := X9.fourP
      have HO2 := Lib.hid (po_impl c n (r ++ T) A7 l2 c7 hl2s (by rw [ByteArray.size_append]; omega) W9 O9.ints)
      by_cases h2 : PaOk c n (r ++ T) l2
      · rw [paB_yes h2] at HO2
        have HV := Lib.hid (HPO.out h2)
        clear h2 HPO HPN
        go_wp2_with fail
        refine HO2.out.mono ?_
        rintro e w10 ⟨rfl, hb10⟩
        have Q10 := Q9.more hb10
        obtain ⟨k0, k1, k2, k3⟩ := (X9.more hb10).fourP
        obtain ⟨r0, r1, r2, r3⟩ := Q10.br.fourP
        have ri := Q10.br.ice
        have PD := Lib.hid (pp_done (c := c) (n := n) (s := r ++ T) Q10.below Q10.br (O9.more hb10) rfl)
        clear Q9 O9 X9 Q10 hb10 n0 n1 n2 n3
        go_wp2
        show bodyPost Try.prog Try.f20 _ Exit.ret _ (w10.setCells (w.heap.size + 1 + 1) 0 (paL c n (r ++ T) (.slice A7 l2.length c7)))
        generalize w10.setCells (w.heap.size + 1 + 1) 0 (paL c n (r ++ T) (.slice A7 l2.length c7)) = WE at *
        obtain ⟨⟨c0, c3, c4, c5⟩, ho, hb⟩ := PD.out
        refine bodyPost_ret_by (v := .tuple #[paV c n (r ++ T) (.slice A7 l2.length c7), .bool true]) ?_ rfl (by rw [show r ++ T = r ++ pkT a q d from congrArg (r ++ ·) HTe.out]; exact PackEnd.yes HV.out (HL2.out ▸ ho) hb)
        simp [results, Try.f20, go_sem, c0, c3, c4, c5]
      · rw [paB_no h2] at HO2
        have HN := Lib.hid (HPN.out h2)
        clear h2 HPO HPN
        go_wp2_with fail
        refine HO2.out.mono ?_
        rintro e w10 ⟨rfl, hb10⟩
        have Q10 := Lib.hid (Q9.more hb10)
        obtain ⟨p0, p1, p2, p3⟩ := Q10.out.bp.fourP
        clear Q9 O9 X9 hb10 n0 n1 n2 n3
        go_wp2_with fail
        refine (copy_impl c n r A l k0 (by omega) w10 (HI.out _ Q10.out.below)).mono ?_
        rintro e w11 ⟨v9, rfl, ho9, hb11⟩
        have Q11 := Q10.out.more hb11
        obtain ⟨A9, c9, rfl⟩ := ho9.form
        clear p0 p1 p2 p3
        obtain ⟨r0, r1, r2, r3⟩ := Q11.br.fourP
        have ri := Q11.br.ice
        have PD := Lib.hid (pp_done (c := c) (n := n) (s := r) Q11.below Q11.br (ho9.lower Q10.out.far) rfl)
        clear Q11 hb11 ho9
        go_wp2
        show bodyPost Try.prog Try.f20 _ Exit.ret _ (w11.setCells (w.heap.size + 1 + 1) 0 (paL c n r (.slice A9 l.length c9)))
        generalize w11.setCells (w.heap.size + 1 + 1) 0 (paL c n r (.slice A9 l.length c9)) = WE at *
        obtain ⟨⟨c0, c3, c4, c5⟩, ho, hb⟩ := PD.out
        refine bodyPost_ret_by (v := .tuple #[paV c n r (.slice A9 l.length c9), .bool false]) ?_ rfl (PackEnd.no HN.out ho hb)
        simp [results, Try.f20, go_sem, c0, c3, c4, c5]
    · have HX := Lib.hid (fun W => by have h := pk_impl a q d W; rw [decide_eq_false hX] at h; exact h)
      have HN := Lib.hid (fun (h : PackOk c n r l a q d) => hX h.2.1)
      go_wp2_with fail
      refine HO.out.mono ?_
      rintro e w4 ⟨rfl, hb4⟩
      have Q4 := Lib.hid (Q3.more hb4)
      obtain ⟨x0, x1, x2⟩ := Q4.out.bx.three
      clear hb4 p0 p1 p2 p3 Q3 hP hX
      go_wp2_with fail
      refine (HX.out _).mono ?_
      rintro e w5 ⟨rfl, hb5⟩
      have Q10 := Lib.hid (Q4.out.more hb5)
      obtain ⟨p0, p1, p2, p3⟩ := Q10.out.bp.fourP
      clear hb5 x0 x1 x2
      go_wp2_with fail
      refine (copy_impl c n r A l k0 (by omega) w5 (HI.out _ Q10.out.below)).mono ?_
      rintro e w11 ⟨v9, rfl, ho9, hb11⟩
      have Q11 := Q10.out.more hb11
      obtain ⟨A9, c9, rfl⟩ := ho9.form
      clear p0 p1 p2 p3
      obtain ⟨r0, r1, r2, r3⟩ := Q11.br.fourP
      have ri := Q11.br.ice
      have PD := Lib.hid (pp_done (c := c) (n := n) (s := r) Q11.below Q11.br (ho9.lower Q10.out.far) rfl)
      clear Q11 hb11 ho9
      go_wp2
      show bodyPost Try.prog Try.f20 _ Exit.ret _ (w11.setCells (w.heap.size + 1 + 1) 0 (paL c n r (.slice A9 l.length c9)))
      generalize w11.setCells (w.heap.size + 1 + 1) 0 (paL c n r (.slice A9 l.length c9)) = WE at *
      obtain ⟨⟨c0, c3, c4, c5⟩, ho, hb⟩ := PD.out
      refine bodyPost_ret_by (v := .tuple #[paV c n r (.slice A9 l.length c9), .bool false]) ?_ rfl (PackEnd.no HN.out ho hb)
      simp [results, Try.f20, go_sem, c0, c3, c4, c5]
  · rw [paB_no hP] at HO
    have HN := Lib.hid (fun (h : PackOk c n r l a q d) => hP h.1)
    go_wp2_with fail
    refine HO.out.mono ?_
    rintro e w5 ⟨rfl, hb5⟩
    have Q10 := Lib.hid (Q3.more hb5)
    clear hb5 p0 p1 p2 p3 Q3 hP
    obtain ⟨p0, p1, p2, p3⟩ := Q10.out.bp.fourP
    go_wp2_with fail
    refine (copy_impl c n r A l k0 (by omega) w5 (HI.out _ Q10.out.below)).mono ?_
    rintro e w11 ⟨v9, rfl, ho9, hb11⟩
    have Q11 := Q10.out.more hb11
    obtain ⟨A9, c9, rfl⟩ := ho9.form
    clear p0 p1 p2 p3
    obtain ⟨r0, r1, r2, r3⟩ := Q11.br.fourP
    have ri := Q11.br.ice
    have PD := Lib.hid (pp_done (c := c) (n := n) (s := r) Q11.below Q11.br (ho9.lower Q10.out.far) rfl)
    clear Q11 hb11 ho9
    go_wp2
    show bodyPost Try.prog Try.f20 _ Exit.ret _ (w11.setCells (w.heap.size + 1 + 1) 0 (paL c n r (.slice A9 l.length c9)))
    generalize w11.setCells (w.heap.size + 1 + 1) 0 (paL c n r (.slice A9 l.length c9)) = WE at *
    obtain ⟨⟨c0, c3, c4, c5⟩, ho, hb⟩ := PD.out
    refine bodyPost_ret_by (v := .tuple #[paV c n r (.slice A9 l.length c9), .bool false]) ?_ rfl (PackEnd.no HN.out ho hb)
    simp [results, Try.f20, go_sem, c0, c3, c4, c5]
end Go.Proofs.Ytegahdlfjdjcaaa
