/- What this text proves: the parts ITf of the proof, each under its own words. -/
import Derived.Test.YtegahdlfjdjcaaaV33
import Derived.Test.YtegahdlfjdjcaaaV25
/- What this text proves: the contract of the program's TakeFrame. -/
namespace Go.Proofs.Ytegahdlfjdjcaaa
open Go.ChangeShapes Go.WideShapes Go.ChangeAt Go.RowKit
set_option linter.unusedVariables false

/-- The boxes of a walk over TakeFrame: the packer, the packer that is answered, the frame that is answered. -/
abbrev RP (w W : World) (p r q : List Value) : Prop := QP w W p r q
theorem QP.fin {w W : World} {p r q us qs : List Value} {v : Value} {l : List Int} (h : QP w W p r q) (hu : us.length = r.length) (hq : qs.length = q.length) (ho : OwnI W (w.heap.size + 3) v l) :
    Box ((W.setCells (w.heap.size + 1) 0 us).setCells (w.heap.size + 2) 0 qs) (w.heap.size + 1) us ∧ Box ((W.setCells (w.heap.size + 1) 0 us).setCells (w.heap.size + 2) 0 qs) (w.heap.size + 2) qs ∧ OwnI ((W.setCells (w.heap.size + 1) 0 us).setCells (w.heap.size + 2) 0 qs) w.heap.size v l ∧ Below w.heap.size w ((W.setCells (w.heap.size + 1) 0 us).setCells (w.heap.size + 2) 0 qs) :=
  ⟨Box.allOther (W := W.setCells (w.heap.size + 1) 0 us) (by omega) qs 0 _ (h.bx.all hu), Box.all (Box.allOther (W := W) (by omega) us 0 _ h.br) hq, (OwnI.cellsPast' (by omega) qs 0 _ (OwnI.cellsPast' (by omega) us 0 _ ho)).lower (by omega), below_setCells (by omega) qs 0 _ (below_setCells (by omega) us 0 _ h.below)⟩

set_option maxRecDepth 8000 in
set_option maxHeartbeats 4000000 in
theorem take_impl (c n : Int) (r : ByteArray) (A : Option Addr) (l : List Int) (k0 : Nat) (hl : l.length ≤ 1048576) (hr : r.size ≤ 1048576) (w : World) (h : IntsAt w w.heap.size A l) :
    Calls Try.prog 22 #[paV c n r (.slice A l.length k0)] w (TakeEnd c n r l w) := by
  have Q3 : QP w (((w.alloc (.cells #[.int .i64 c, .int .i64 n, .string r, .slice A l.length k0] 34)).alloc (.cells #[.int .i64 0, .int .i64 0, .string ⟨#[]⟩, .slice none 0 0] 34)).alloc (.cells #[.int .i64 0, .int .i64 0, .int .i64 0, .string ⟨#[]⟩] 39)) (paL c n r (.slice A l.length k0)) (paL 0 0 ⟨#[]⟩ (.slice none 0 0)) (frL 0 0 0 ⟨#[]⟩) :=
    ⟨(((Below.refl _ w).alloc (Nat.le_refl _) _).alloc (by simp) _).alloc (by simp; omega) _,
     ((Box.made w (paL c n r (.slice A l.length k0)) 34 _ rfl).alloc _).alloc _,
     (Box.made (w.alloc (.cells (paL c n r (.slice A l.length k0)).toArray 34)) (paL 0 0 ⟨#[]⟩ (.slice none 0 0)) 34 (w.heap.size + 1) (by simp)).alloc _,
     Box.made ((w.alloc (.cells (paL c n r (.slice A l.length k0)).toArray 34)).alloc (.cells (paL 0 0 ⟨#[]⟩ (.slice none 0 0)).toArray 34)) (frL 0 0 0 ⟨#[]⟩) 39 (w.heap.size + 2) (by simp)⟩
  have HI := Lib.hid (fun W (hb : Below w.heap.size w W) => (h.more hb).raise hb.size)
  clear h
  go_enter Try.func22, Try.ntmps22
  go_upto_region 1 with fail
  generalize ((w.alloc (.cells #[.int .i64 c, .int .i64 n, .string r, .slice A l.length k0] 34)).alloc (.cells #[.int .i64 0, .int .i64 0, .string ⟨#[]⟩, .slice none 0 0] 34)).alloc (.cells #[.int .i64 0, .int .i64 0, .int .i64 0, .string ⟨#[]⟩] 39) = W3 at *
  obtain ⟨p0, p1, p2, p3⟩ := Q3.bp.fourP
  have HO := Lib.hid (po_impl c n r A l k0 (by omega) hr W3 (HI.out _ Q3.below))
  by_cases hP : TkOk c n r l
  · rw [paB_yes hP.1] at HO
    have h24 : decide (r.size < 24) = false := decide_eq_false (by have := hP.2; omega)
    have h24' : decide ((r.size : Int) < 24) = false := decide_eq_false (by have := hP.2; omega)
    go_wp2_with fail
    refine HO.out.mono ?_
    rintro e w5 ⟨rfl, hb5⟩
    have Q5 := Lib.hid (Q3.more hb5)
    clear hb5 p0 p1 p2 p3 Q3
    obtain ⟨p0, p1, p2, p3⟩ := Q5.out.bp.fourP
    have HC := Lib.hid (packing_of c n r A l k0 (by omega) w5 (HI.out _ Q5.out.below))
    go_wp2_with fail
    refine HC.out.mono ?_
    rintro e w6 ⟨v6, g, rfl, hg6, hbk6, ho6, hne6, hb6⟩
    have Q6 := Lib.hid (Q5.out.more hb6)
    have hfar := Q5.out.far
    have HTF := Lib.hid (take_frame c n r l v6 g w5.heap.size w6 hbk6 ho6 hne6 hg6 hP.1.2.2.1 hP.2 hr hl (fun j hj => by have := (hP.1.1 j hj).1; omega))
    clear hb6 hbk6 ho6 hne6 p0 p1 p2 p3
    go_wp2_with fail
    refine HTF.out.mono ?_
    rintro e w7 ⟨rfl, v7, hbk7, ho7, hne7, hb7, hz7⟩
    obtain ⟨A7, c7, rfl⟩ := ho7.form
    have HV := Lib.hid hP
    have HTE := Lib.hid (fun (W : World) (v : Value) (ho : OwnI W w.heap.size v (laterK l l.length)) (hb : Below w.heap.size w W) => TakeEnd.yes (w := w) (w' := W) (v := v) HV.out ho hb)
    generalize firstI l = F at *
    have Q8 := Lib.hid (show QP w (w7.alloc (.cells #[.int .i64 c, .int .i64 n, .int .i64 F, .string (r.extract 0 24)] 39)) (paL c n r (.slice A l.length k0)) (paL 0 0 ⟨#[]⟩ (.slice none 0 0)) (frL 0 0 0 ⟨#[]⟩) from (Q6.out.moreAt hb7 hfar).more ((Below.refl _ _).alloc (Nat.le_refl _) _))
    have K8 := Lib.hid (hbk7.alloc (.cells #[.int .i64 c, .int .i64 n, .int .i64 F, .string (r.extract 0 24)] 39))
    have O8 := Lib.hid ((ho7.lower hfar).more ((Below.refl _ _).alloc (Nat.le_refl _) (.cells #[.int .i64 c, .int .i64 n, .int .i64 F, .string (r.extract 0 24)] 39)))
    have X8 := Lib.hid (show Box (w7.alloc (.cells #[.int .i64 c, .int .i64 n, .int .i64 F, .string (r.extract 0 24)] 39)) w7.heap.size (frL c n F (r.extract 0 24)) from Box.made w7 (frL c n F (r.extract 0 24)) _ _ rfl)
    have hg8 : w.heap.size + 3 ≤ w7.heap.size := (Q6.out.moreAt hb7 hfar).far
    clear hbk7 ho7 hne7 hb7 hz7 hP
    go_upto_region 5 with fail
    generalize w7.alloc (.cells #[.int .i64 c, .int .i64 n, .int .i64 F, .string (r.extract 0 24)] 39) = W8 at *
    generalize w7.heap.size = g8 at *
    have HK8 := Lib.hid ((packer_of c ((n + 1) % 256) (r.extract 24 r.size) A7 (laterK l l.length).length c7 g W8.drew (K8.out.more (Below.refl _ _).drew)).mono fun e w' hh => (show e = .returned (paV c ((n + 1) % 256) (r.extract 24 r.size) (.slice A7 (laterK l l.length).length c7)) ∧ Below W8.heap.size W8 w' ∧ QP w w' (paL c n r (.slice A l.length k0)) (paL 0 0 ⟨#[]⟩ (.slice none 0 0)) (frL 0 0 0 ⟨#[]⟩) ∧ Box w' g8 (frL c n F (r.extract 0 24)) from ⟨hh.1, (Below.refl _ W8).drew.trans hh.2, (Q8.out.more (Below.refl _ _).drew).more hh.2, (X8.out.more (Below.refl _ _).drew).more hh.2⟩))
    obtain ⟨x0, x1, x2, x3⟩ := (X8.out.more (Below.refl _ _).drew).four
    have hne1 : w.heap.size + 1 ≠ g8 := by omega
    have hne2 : w.heap.size + 2 ≠ g8 := by omega
    have hne3 : g8 ≠ w.heap.size + 1 := by omega
    have hne4 : g8 ≠ w.heap.size + 2 := by omega
    have hne5 : g8 ≠ w.heap.size + 1 + 1 := by omega
    have hne6 : w.heap.size + 1 + 1 ≠ g8 := by omega
    go_wp2
    go_region_held3 (fun w' => w'.cell? ⟨g8, 0, none⟩ = some (.int .i64 c) ∧ w'.cell? ⟨g8, 1, none⟩ = some (.int .i64 n) ∧ w'.cell? ⟨g8, 2, none⟩ = some (.int .i64 F) ∧ w'.cell? ⟨g8, 3, none⟩ = some (.string (r.extract 0 24)))
      (first | with_reducible exact ⟨x0, x1, x2, x3⟩ | with_reducible exact X9.four | go_keep)
      ((go_at_call 63; (with_reducible refine HK8.out.mono ?_); rintro e w9 ⟨rfl, B9, Q9, X9⟩; obtain ⟨m0, m1, m2, m3⟩ := Q9.bx.fourP; obtain ⟨n0, n1, n2, n3⟩ := Q9.br.four; have mi := Q9.bx.ice; have ni := Q9.br.ice))
    all_goals
      have PD := Lib.hid (Q9.fin (us := paL c ((n + 1) % 256) (r.extract 24 r.size) (.slice A7 (laterK l l.length).length c7)) (qs := frL c n F (r.extract 0 24)) rfl rfl (O8.out.more B9))
      clear x0 x1 x2 x3 m0 m1 m2 m3 n0 n1 n2 n3 mi ni X9 Q9 B9 hne1 hne2 hne3 hne4 hne5 hne6
      go_wp2
      show bodyPost Try.prog Try.f22 _ Exit.ret _ ((w9.setCells (w.heap.size + 1) 0 (paL c ((n + 1) % 256) (r.extract 24 r.size) (.slice A7 (laterK l l.length).length c7))).setCells (w.heap.size + 2) 0 (frL c n F (r.extract 0 24)))
      generalize (w9.setCells (w.heap.size + 1) 0 (paL c ((n + 1) % 256) (r.extract 24 r.size) (.slice A7 (laterK l l.length).length c7))).setCells (w.heap.size + 2) 0 (frL c n F (r.extract 0 24)) = WE at *
      obtain ⟨b1, b2, ho, hb⟩ := PD.out
      obtain ⟨d0, d1, d2, d3⟩ := b1.fourP
      obtain ⟨e0, e1, e2, e3⟩ := b2.four
      refine bodyPost_ret_by (v := .tuple #[paV c ((n + 1) % 256) (r.extract 24 r.size) (.slice A7 (laterK l l.length).length c7), frV c n F (r.extract 0 24), .bool true]) ?_ rfl (HTE.out _ _ ho hb)
      simp [results, Try.f22, go_sem, d0, d1, d2, d3, e0, e1, e2, e3]
  · have HN := Lib.hid hP
    by_cases hPa : PaOk c n r l
    case' pos =>
      rw [paB_yes hPa] at HO
      have h24 : decide (r.size < 24) = true := decide_eq_true (by
        rcases Nat.lt_or_ge r.size 24 with h | h
        · exact h
        · exact absurd ⟨hPa, h⟩ hP)
      have h24' : decide ((r.size : Int) < 24) = true := decide_eq_true (by have := of_decide_eq_true h24; omega)
    case' neg => rw [paB_no hPa] at HO
    all_goals
      clear hP hPa
      go_wp2_with fail
      refine HO.out.mono ?_
      rintro e w5 ⟨rfl, hb5⟩
      have Q5 := Lib.hid (Q3.more hb5)
      clear hb5 p0 p1 p2 p3 Q3
      obtain ⟨p0, p1, p2, p3⟩ := Q5.out.bp.fourP
      go_wp2_with fail
      refine (copy_impl c n r A l k0 (by omega) w5 (HI.out _ Q5.out.below)).mono ?_
      rintro e w9 ⟨v9, rfl, ho9, hb9⟩
      have Q9 := Q5.out.more hb9
      obtain ⟨A9, c9, rfl⟩ := ho9.form
      clear p0 p1 p2 p3
      obtain ⟨m0, m1, m2, m3⟩ := Q9.bx.fourP
      obtain ⟨n0, n1, n2, n3⟩ := Q9.br.four
      have mi := Q9.bx.ice
      have ni := Q9.br.ice
      have PD := Lib.hid (Q9.fin (us := paL c n r (.slice A9 l.length c9)) (qs := frL 0 0 0 ⟨#[]⟩) rfl rfl (ho9.lower Q5.out.far))
      clear Q9 hb9 ho9
      go_wp2
      show bodyPost Try.prog Try.f22 _ Exit.ret _ ((w9.setCells (w.heap.size + 1) 0 (paL c n r (.slice A9 l.length c9))).setCells (w.heap.size + 2) 0 (frL 0 0 0 ⟨#[]⟩))
      generalize (w9.setCells (w.heap.size + 1) 0 (paL c n r (.slice A9 l.length c9))).setCells (w.heap.size + 2) 0 (frL 0 0 0 ⟨#[]⟩) = WE at *
      obtain ⟨b1, b2, ho, hb⟩ := PD.out
      obtain ⟨d0, d1, d2, d3⟩ := b1.fourP
      obtain ⟨e0, e1, e2, e3⟩ := b2.four
      refine bodyPost_ret_by (v := .tuple #[paV c n r (.slice A9 l.length c9), frV 0 0 0 ⟨#[]⟩, .bool false]) ?_ rfl (TakeEnd.no HN.out ho hb)
      simp [results, Try.f22, go_sem, d0, d1, d2, d3, e0, e1, e2, e3]
end Go.Proofs.Ytegahdlfjdjcaaa
