/- What this text proves: the parts IPu4 of the proof, each under its own words. -/
import Derived.Test.YtegahdlfjdjcaaaV38
import Derived.Test.YtegahdlfjdjcaaaV40
/- What this text proves: the contract of the program's PushFrame. -/
namespace Go.Proofs.Ytegahdlfjdjcaaa
open Go.ChangeShapes Go.WideShapes Go.ChangeAt Go.RowKit
set_option linter.unusedVariables false

theorem QP.grown {w W W' : World} {p x r : List Value} {row : Option Nat} (h : QP w W p x r) (hg : W.grownBy W' row) (hr : ∀ k, row = some k → w.heap.size + 3 ≤ k) : QP w W' p x r := by
  have hne : ∀ k, k < w.heap.size + 3 → row ≠ some k := fun k hk e => by have := hr k e; omega
  exact ⟨h.below.grown hg h.below.size (fun k hk => by have := hr k hk; omega), h.bp.grown hg (hne _ (by omega)), h.bx.grown hg (hne _ (by omega)), h.br.grown hg (hne _ (by omega))⟩
theorem PushEnd.no {c n : Int} {s : Bool × ByteArray × Int} {f : Int × Int × Int × ByteArray} {w w' : World} {v : Value} (h : ¬ PuOk c n s f) (ho : OwnP w' w.heap.size v []) (hb : Below w.heap.size w w') : PushEnd c n s f w (.returned (.tuple #[unW c n s, v])) w' :=
  ⟨v, by unfold puN puS; rw [if_neg h, if_neg h], by unfold puL; rw [if_neg h]; exact ho, hb⟩
theorem PushEnd.yes {c n : Int} {s : Bool × ByteArray × Int} {f : Int × Int × Int × ByteArray} {w w' : World} {v : Value} {s3 : Bool × ByteArray × Int} {L : List Pk} (h : PuOk c n s f) (hs : s3 = g3 (g2 f.2.2.1 f.2.2.2 (g1 n f.2.1 s))) (hL : L = (takeP (g2 f.2.2.1 f.2.2.2 (g1 n f.2.1 s)).2.1).1) (ho : OwnP w' w.heap.size v L) (hb : Below w.heap.size w w') : PushEnd c n s f w (.returned (.tuple #[unW c ((f.2.1 + 1) % 256) s3, v])) w' :=
  ⟨v, by unfold puN puS; rw [if_pos h, if_pos h, hs], by unfold puL; rw [if_pos h, ← hL]; exact ho, hb⟩

set_option maxRecDepth 8000 in
set_option maxHeartbeats 4000000 in
theorem push_impl (c n : Int) (b : Bool) (r : ByteArray) (l : Int) (ch co fi : Int) (d : ByteArray) (w : World) :
    Calls Try.prog 67 #[unV c n b r l, frV ch co fi d] w (PushEnd c n (b, r, l) (ch, co, fi, d) w) := by
  have Q3 : QP w (((w.alloc (.cells #[.int .i64 c, .int .i64 n, .bool b, .string r, .int .i64 l] 49)).alloc (.cells #[.int .i64 ch, .int .i64 co, .int .i64 fi, .string d] 39)).alloc (.cells #[.int .i64 0, .int .i64 0, .bool false, .string ⟨#[]⟩, .int .i64 0] 49)) (unL c n b r l) (frL ch co fi d) (unL 0 0 false ⟨#[]⟩ 0) :=
    ⟨(((Below.refl _ w).alloc (Nat.le_refl _) _).alloc (by simp) _).alloc (by simp; omega) _,
     ((Box.made w (unL c n b r l) 49 _ rfl).alloc _).alloc _,
     (Box.made (w.alloc (.cells (unL c n b r l).toArray 49)) (frL ch co fi d) 39 (w.heap.size + 1) (by simp)).alloc _,
     Box.made ((w.alloc (.cells (unL c n b r l).toArray 49)).alloc (.cells (frL ch co fi d).toArray 39)) (unL 0 0 false ⟨#[]⟩ 0) 49 (w.heap.size + 2) (by simp)⟩
  have HQ3 := Lib.hid Q3
  clear Q3
  go_enter Try.func67, Try.ntmps67
  go_upto_region 1 with fail
  generalize ((w.alloc (.cells #[.int .i64 c, .int .i64 n, .bool b, .string r, .int .i64 l] 49)).alloc (.cells #[.int .i64 ch, .int .i64 co, .int .i64 fi, .string d] 39)).alloc (.cells #[.int .i64 0, .int .i64 0, .bool false, .string ⟨#[]⟩, .int .i64 0] 49) = W3 at *
  obtain ⟨u0, u1, u2, u3, u4⟩ := HQ3.out.bp.five
  by_cases hP : PuOk c n (b, r, l) (ch, co, fi, d)
  · have HU := Lib.hid (show Calls Try.prog 33 #[unV c n b r l] W3 fun e w' => e = .returned (.bool true) ∧ Below W3.heap.size W3 w' from by have h := up_impl c n b r l W3; rw [decide_eq_true hP.1] at h; exact h)
    have HF := Lib.hid (show ∀ W, Calls Try.prog 27 #[frV ch co fi d] W fun e w' => e = .returned (.bool true) ∧ Below W.heap.size W w' from fun W => by have h := fo_impl ch co fi d W; rw [decide_eq_true hP.2.1] at h; exact h)
    have tc : (c != ch) = false := by simp; exact hP.2.2
    have HV := Lib.hid hP
    have hl : 0 ≤ l ∧ l ≤ 1000000 := hP.1.2.2.1
    have hr43 : r.size ≤ 43 := hP.1.2.2.2.2
    have hsy : b = true ∨ r.size = 0 := hP.1.2.2.2.1
    have hfr : FrOk ch co fi d := hP.2.1
    have hd24 : d.size = 24 := hP.2.1.2.2.2
    go_wp2_with fail
    refine HU.out.mono ?_
    rintro e w4 ⟨rfl, hb4⟩
    have Q4 := Lib.hid (HQ3.out.more hb4)
    obtain ⟨f0, f1, f2, f3⟩ := Q4.out.bx.four
    clear hb4 u0 u1 u2 u3 u4
    go_wp2_with fail
    refine (HF.out _).mono ?_
    rintro e w5 ⟨rfl, hb5⟩
    have Q5 := Lib.hid (Q4.out.more hb5)
    obtain ⟨u0, u1, u2, u3, u4⟩ := Q5.out.bp.five
    clear f0 f1 f2 f3
    obtain ⟨f0, f1, f2, f3⟩ := Q5.out.bx.four
    clear hb5
    go_wp2_with fail
    refine (unpacking_of c n b r l _).mono ?_
    rintro e w6 ⟨g, rfl, hg6, hbk6, hb6⟩
    have Q6 := Lib.hid (Q5.out.more hb6)
    have hfar : w.heap.size + 3 ≤ g := Nat.le_trans Q5.out.far hg6
    have HPF := Lib.hid (put_frame c n (b, r, l) ch co fi d hl (by show r.size ≤ 1048576; omega) hsy hfr g w6 hbk6)
    clear hb6 hbk6 u0 u1 u2 u3 u4 f0 f1 f2 f3
    obtain ⟨f0, f1, f2, f3⟩ := Q6.out.bx.four
    go_wp2_with fail
    refine HPF.out.mono ?_
    rintro e w7 ⟨rfl, hbk7, hgr7⟩
    have Q7 := Lib.hid (Q6.out.grown hgr7 (fun k hk => by injection hk with hk; omega))
    have hs1 := g1_in (n := n) (co := co) (s := (b, r, l)) hl
    have hs2 := g1_size (n := n) (co := co) (s := (b, r, l))
    have hs3 := g2_in (fi := fi) (d := d) (s := g1 n co (b, r, l))
    have hs4 := g2_size (fi := fi) (d := d) (s := g1 n co (b, r, l))
    obtain ⟨s2, hS2⟩ : ∃ s2, s2 = g2 fi d (g1 n co (b, r, l)) := ⟨_, rfl⟩
    rw [← hS2] at hbk7 hs3 hs4
    have HS2 := Lib.hid hS2
    clear hS2
    obtain ⟨b2, r2, l2⟩ := s2
    have hl2 : 0 ≤ l2 ∧ l2 ≤ 1000000 := by have : l2 = (g1 n co (b, r, l)).2.2 := hs3; rw [this]; exact hs1
    have hr2 : r2.size ≤ 1048576 := by
      have h1 : r2.size ≤ (g1 n co (b, r, l)).2.1.size + d.size := hs4
      have h2 : (g1 n co (b, r, l)).2.1.size ≤ r.size := hs2
      omega
    have HTP := Lib.hid (take_packets c ((co + 1) % 256) b2 r2 l2 hl2 hr2 g w7 hbk7)
    clear hbk7 hgr7 f0 f1 f2 f3 hs1 hs2 hs3 hs4
    go_wp2_with fail
    refine HTP.out.mono ?_
    rintro e w8 ⟨v, rfl, ho8, hbk8, hgr8⟩
    have Q8 := Lib.hid (Q7.out.grown hgr8 (fun k hk => by injection hk with hk; omega))
    have O8 := Lib.hid (show OwnP w8 (w.heap.size + 3) v (takeP r2).1 from OwnR.lower ho8 Q7.out.far)
    obtain ⟨s3, hS3⟩ : ∃ s3, s3 = g3 (b2, r2, l2) := ⟨_, rfl⟩
    rw [← hS3] at hbk8
    obtain ⟨L, hL⟩ : ∃ L, L = (takeP r2).1 := ⟨_, rfl⟩
    rw [← hL] at O8
    have HFIN := Lib.hid (fun (W : World) (ho : OwnP W w.heap.size v L) (hb : Below w.heap.size w W) => PushEnd.yes (s3 := s3) HV.out (by rw [hS3, HS2.out]) (by rw [hL]; show (takeP (b2, r2, l2).2.1).1 = _; rw [HS2.out]) ho hb)
    clear hS3 hL ho8
    obtain ⟨b3, r3, l3⟩ := s3
    have HUO := Lib.hid (unpacker_of c ((co + 1) % 256) b3 r3 l3 g w8 hbk8)
    clear hbk8 hgr8
    go_wp2_with fail
    refine HUO.out.mono ?_
    rintro e w9 ⟨rfl, hb9⟩
    have Q9 := Q8.out.more hb9
    have O9 := Lib.hid (OwnR.more O8.out hb9)
    obtain ⟨m0, m1, m2, m3, m4⟩ := Q9.br.five
    have mi := Q9.br.ice
    have BF := Lib.hid (Q9.br.all (us := unL c ((co + 1) % 256) b3 r3 l3) rfl)
    have OF := Lib.hid (OwnR.lower (OwnR.cellsAway (g := w.heap.size + 2) (fun e => by have := (OwnR.upto O9.out _ e).1; omega) (unL c ((co + 1) % 256) b3 r3 l3) 0 _ O9.out) (show w.heap.size ≤ w.heap.size + 3 by omega))
    have BB := Lib.hid (below_setCells (B := w.heap.size) (by omega : w.heap.size ≤ w.heap.size + 2) (unL c ((co + 1) % 256) b3 r3 l3) 0 _ Q9.below)
    clear Q9 hb9
    go_wp2
    show bodyPost Try.prog Try.f67 _ Exit.ret _ (w9.setCells (w.heap.size + 2) 0 (unL c ((co + 1) % 256) b3 r3 l3))
    generalize w9.setCells (w.heap.size + 2) 0 (unL c ((co + 1) % 256) b3 r3 l3) = WE at *
    obtain ⟨d0, d1, d2, d3, d4⟩ := BF.out.five
    refine bodyPost_ret_by (v := .tuple #[unV c ((co + 1) % 256) b3 r3 l3, v]) ?_ rfl (HFIN.out _ OF.out BB.out)
    simp [results, Try.f67, go_sem, d0, d1, d2, d3, d4]
  · have HN := Lib.hid hP
    have tri : ¬ UpOk c n b r l ∨ (UpOk c n b r l ∧ ¬ FrOk ch co fi d) ∨ (UpOk c n b r l ∧ FrOk ch co fi d ∧ c ≠ ch) := by
      by_cases h1 : UpOk c n b r l
      · by_cases h2 : FrOk ch co fi d
        · exact .inr (.inr ⟨h1, h2, fun h => hP ⟨h1, h2, h⟩⟩)
        · exact .inr (.inl ⟨h1, h2⟩)
      · exact .inl h1
    have hU := up_impl c n b r l W3
    have hF := fun W => fo_impl ch co fi d W
    rcases tri with h1 | ⟨h1, h2⟩ | ⟨h1, h2, h3⟩
    case' inl =>
      rw [decide_eq_false h1] at hU
      clear hF hP h1
      go_wp2_with fail
      refine hU.mono ?_
      rintro e w9 ⟨rfl, hb9⟩
      have Q9 := HQ3.out.more hb9
      clear hb9 u0 u1 u2 u3 u4
    case' inr.inl =>
      rw [decide_eq_true h1] at hU
      rw [decide_eq_false h2] at hF
      have HF := Lib.hid hF
      clear hF hP h1 h2
      go_wp2_with fail
      refine hU.mono ?_
      rintro e w4 ⟨rfl, hb4⟩
      have Q4 := Lib.hid (HQ3.out.more hb4)
      obtain ⟨f0, f1, f2, f3⟩ := Q4.out.bx.four
      clear hb4 u0 u1 u2 u3 u4
      go_wp2_with fail
      refine (HF.out _).mono ?_
      rintro e w9 ⟨rfl, hb9⟩
      have Q9 := Q4.out.more hb9
      clear hb9 f0 f1 f2 f3
    case' inr.inr =>
      rw [decide_eq_true h1] at hU
      rw [decide_eq_true h2] at hF
      have HF := Lib.hid hF
      have tc : (c != ch) = true := by simp; exact h3
      clear hF hP h1 h2 h3
      go_wp2_with fail
      refine hU.mono ?_
      rintro e w4 ⟨rfl, hb4⟩
      have Q4 := Lib.hid (HQ3.out.more hb4)
      obtain ⟨f0, f1, f2, f3⟩ := Q4.out.bx.four
      clear hb4 u0 u1 u2 u3 u4
      go_wp2_with fail
      refine (HF.out _).mono ?_
      rintro e w9 ⟨rfl, hb9⟩
      have Q9 := Q4.out.more hb9
      clear hb9 f0 f1 f2 f3
      obtain ⟨f0, f1, f2, f3⟩ := Q9.bx.four
    all_goals
      obtain ⟨u0, u1, u2, u3, u4⟩ := Q9.bp.five
      obtain ⟨m0, m1, m2, m3, m4⟩ := Q9.br.five
      have mi := Q9.br.ice
      have BF := Lib.hid (Q9.br.all (us := unL c n b r l) rfl)
      have BB := Lib.hid (below_setCells (B := w.heap.size) (by omega : w.heap.size ≤ w.heap.size + 2) (unL c n b r l) 0 _ Q9.below)
      clear Q9
      go_wp2
      show bodyPost Try.prog Try.f67 _ Exit.ret _ (w9.setCells (w.heap.size + 2) 0 (unL c n b r l))
      generalize w9.setCells (w.heap.size + 2) 0 (unL c n b r l) = WE at *
      obtain ⟨d0, d1, d2, d3, d4⟩ := BF.out.five
      refine bodyPost_ret_by (v := .tuple #[unV c n b r l, .slice none 0 0]) ?_ rfl (PushEnd.no HN.out (OwnR.nil _ _ _ _) BB.out)
      simp [results, Try.f67, go_sem, d0, d1, d2, d3, d4]
end Go.Proofs.Ytegahdlfjdjcaaa
