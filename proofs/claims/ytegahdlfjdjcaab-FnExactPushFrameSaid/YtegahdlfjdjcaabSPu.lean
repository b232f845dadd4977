/- What this text proves: the contract of the model's PushFrame. -/
import Derived.Test.YtegahdlfjdjcaabIPu4
namespace Go.Proofs.Ytegahdlfjdjcaab
open Go.ChangeShapes Go.WideShapes Go.ChangeAt Go.RowKit
set_option linter.unusedVariables false

theorem QP.putP {w W : World} {p x r : List Value} (h : QP w W p x r) (j : Nat) (hj : j < p.length) (u : Value) : QP w (W.setCell ⟨w.heap.size, j, none⟩ u) (p.set j u) x r :=
  ⟨h.below.setCell (p := ⟨w.heap.size, j, none⟩) (Nat.le_refl _) u, h.bp.set j hj u, h.bx.other (by omega) j u, h.br.other (by omega) j u⟩
theorem QP.allP {w W : World} {p x r us : List Value} (h : QP w W p x r) (hl : us.length = p.length) : QP w (W.setCells w.heap.size 0 us) us x r :=
  ⟨below_setCells (Nat.le_refl _) us 0 _ h.below, h.bp.all hl, Box.allOther (W := W) (by omega) us 0 _ h.bx, Box.allOther (W := W) (by omega) us 0 _ h.br⟩
theorem dec_zero_spec (r : ByteArray) (hr : r.size ≤ 1048576) (w : World) :
    Calls Try.prog 57 #[.string r, .int .i64 0] w fun e w' => ∃ z : Int, e = .returned (.tuple #[pkW (pkP r), .int .i64 z, .bool (okP r)]) ∧ (okP r = true → z = ((lenP r : Nat) : Int)) ∧ Below w.heap.size w w' :=
  (dec_spec r hr 0 (by omega) w).mono fun e w' h => ⟨(decP r 0).2.2.2.1, h.1, fun ho => (okP_len ho).2.2, h.2⟩

set_option maxRecDepth 8000 in
set_option maxHeartbeats 8000000 in
theorem push_spec (c n : Int) (b : Bool) (r : ByteArray) (l : Int) (ch co fi : Int) (d : ByteArray) (w : World) :
    Calls Try.prog 30 #[unV c n b r l, frV ch co fi d] w (PushEnd c n (b, r, l) (ch, co, fi, d) w) := by
  have Q3 : QP w (((w.alloc (.cells #[.int .i64 c, .int .i64 n, .bool b, .string r, .int .i64 l] 45)).alloc (.cells #[.int .i64 ch, .int .i64 co, .int .i64 fi, .string d] 28)).alloc (.cells #[.int .i64 0, .int .i64 0, .bool false, .string ⟨#[]⟩, .int .i64 0] 45)) (unL c n b r l) (frL ch co fi d) (unL 0 0 false ⟨#[]⟩ 0) :=
    ⟨(((Below.refl _ w).alloc (Nat.le_refl _) _).alloc (by simp) _).alloc (by simp; omega) _,
     ((Box.made w (unL c n b r l) 45 _ rfl).alloc _).alloc _,
     (Box.made (w.alloc (.cells (unL c n b r l).toArray 45)) (frL ch co fi d) 28 (w.heap.size + 1) (by simp)).alloc _,
     Box.made ((w.alloc (.cells (unL c n b r l).toArray 45)).alloc (.cells (frL ch co fi d).toArray 28)) (unL 0 0 false ⟨#[]⟩ 0) 45 (w.heap.size + 2) (by simp)⟩
  have HQ3 := Lib.hid Q3
  clear Q3
  obtain ⟨ip, hip, hp0, hp1, hp2⟩ := info_parts info_pkt
  have HIP := Lib.hid (And.intro hip (And.intro hp0 (And.intro hp1 hp2)))
  clear hip hp0 hp1 hp2
  go_enter Try.func30, Try.ntmps30
  go_upto_region 1 with fail
  generalize ((w.alloc (.cells #[.int .i64 c, .int .i64 n, .bool b, .string r, .int .i64 l] 45)).alloc (.cells #[.int .i64 ch, .int .i64 co, .int .i64 fi, .string d] 28)).alloc (.cells #[.int .i64 0, .int .i64 0, .bool false, .string ⟨#[]⟩, .int .i64 0] 45) = W3 at *
  have HQ4 := Lib.hid (HQ3.out.more ((Below.refl _ _).alloc (Nat.le_refl _) (.cells #[] 79)))
  have HO4 := Lib.hid (show OwnP (W3.alloc (.cells #[] 79)) (w.heap.size + 3) (.slice (some ⟨W3.heap.size, 0, none⟩) 0 0) [] from OwnR.lower (OwnR.empty W3 W3.heap.size (Nat.le_refl _)) HQ3.out.far)
  go_upto_region 2 with fail
  clear HQ3
  generalize W3.alloc (.cells #[] 79) = W4 at *
  generalize Value.slice (some ⟨W3.heap.size, 0, none⟩) 0 0 = v6 at *
  obtain ⟨u0, u1, u2, u3, u4⟩ := HQ4.out.bp.five
  by_cases hP : PuOk c n (b, r, l) (ch, co, fi, d)
  · have HU := Lib.hid (show Calls Try.prog 23 #[unV c n b r l] W4 fun e w' => e = .returned (.bool true) ∧ Below W4.heap.size W4 w' from by have h := up_spec c n b r l W4; rw [decide_eq_true hP.1] at h; exact h)
    have HF := Lib.hid (show ∀ W, Calls Try.prog 55 #[frV ch co fi d] W fun e w' => e = .returned (.bool true) ∧ Below W.heap.size W w' from fun W => by have h := fo_spec ch co fi d W; rw [decide_eq_true hP.2.1] at h; exact h)
    have tc : (c != ch) = false := by simp; exact hP.2.2
    have HV := Lib.hid hP
    have HLB := Lib.hid (show 0 ≤ l ∧ l ≤ 1000000 from hP.1.2.2.1)
    have HFR := Lib.hid (show FrOk ch co fi d from hP.2.1)
    have hr43 : r.size ≤ 43 := hP.1.2.2.2.2
    have hd24 : d.size = 24 := hP.2.1.2.2.2
    clear hP
    go_wp2_with fail
    refine HU.out.mono ?_
    rintro e w4 ⟨rfl, hb4⟩
    have Q4 := Lib.hid (HQ4.out.more hb4)
    have O4 := Lib.hid (OwnR.more HO4.out hb4)
    obtain ⟨f0, f1, f2, f3⟩ := Q4.out.bx.four
    clear hb4 u0 u1 u2 u3 u4
    go_wp2_with fail
    refine (HF.out _).mono ?_
    rintro e w5 ⟨rfl, hb5⟩
    have Q5 := Lib.hid (Q4.out.more hb5)
    have O5 := Lib.hid (OwnR.more O4.out hb5)
    clear f0 f1 f2 f3 hb5 HQ4 HO4 Q4 O4 HU
    obtain ⟨u0, u1, u2, u3, u4⟩ := Q5.out.bp.five
    obtain ⟨f0, f1, f2, f3⟩ := Q5.out.bx.four
    have tri : n = -1 ∨ (n ≠ -1 ∧ n = co) ∨ (n ≠ -1 ∧ n ≠ co) := by omega
    rcases tri with h1 | ⟨h1, h2⟩ | ⟨h1, h2⟩
    case' inl =>
      have hG : g1 n co (b, r, l) = (b, r, l) := if_neg (fun h => h.1 h1)
      have t1 : (n != -1) = false := by simp; exact h1
      have Q6 := Lib.hid (show QP w w5 (unL c n (g1 n co (b, r, l)).1 (g1 n co (b, r, l)).2.1 (g1 n co (b, r, l)).2.2) (frL ch co fi d) (unL 0 0 false ⟨#[]⟩ 0) from by rw [hG]; exact Q5.out)
      have O6 := Lib.hid O5.out
      clear hG h1
      go_upto_region 6 with fail
      clear t1
      generalize w5 = W6 at *
    case' inr.inl =>
      have hG : g1 n co (b, r, l) = (b, r, l) := if_neg (fun h => h.2 h2)
      have t1 : (n != -1) = true := by simp; exact h1
      have t2 : (n != co) = false := by simp; exact h2
      have Q6 := Lib.hid (show QP w w5 (unL c n (g1 n co (b, r, l)).1 (g1 n co (b, r, l)).2.1 (g1 n co (b, r, l)).2.2) (frL ch co fi d) (unL 0 0 false ⟨#[]⟩ 0) from by rw [hG]; exact Q5.out)
      have O6 := Lib.hid O5.out
      clear hG h1 h2
      go_upto_region 6 with fail
      clear t1 t2
      generalize w5 = W6 at *
    case' inr.inr =>
      have hG : g1 n co (b, r, l) = (false, ⟨#[]⟩, lossN l) := if_pos ⟨h1, h2⟩
      have t1 : (n != -1) = true := by simp; exact h1
      have t2 : (n != co) = true := by simp; exact h2
      have HG := Lib.hid hG
      clear hG h1 h2
      go_wp2_with fail
      refine (lose_spec c n b r l HLB.out _).mono ?_
      rintro e w6 ⟨rfl, hb6⟩
      have QX := Lib.hid (Q5.out.more hb6)
      have OX := Lib.hid (OwnR.more O5.out hb6)
      have Q6 := Lib.hid (show QP w (w6.setCells w.heap.size 0 (unL c n false ⟨#[]⟩ (lossN l))) (unL c n (g1 n co (b, r, l)).1 (g1 n co (b, r, l)).2.1 (g1 n co (b, r, l)).2.2) (frL ch co fi d) (unL 0 0 false ⟨#[]⟩ 0) from by rw [HG.out]; exact QX.out.allP rfl)
      have O6 := Lib.hid (OwnR.cellsAway (g := w.heap.size) (fun e => by have := (OwnR.upto OX.out _ e).1; omega) (unL c n false ⟨#[]⟩ (lossN l)) 0 _ OX.out)
      have ui := QX.out.bp.ice
      clear u0 u1 u2 u3 u4
      obtain ⟨u0, u1, u2, u3, u4⟩ := QX.out.bp.five
      clear hb6 HG
      go_upto_region 6 with fail
      clear t1 t2 ui QX OX
      (change Code.wp Try.prog _ _ _ (w6.setCells w.heap.size 0 (unL c n false ⟨#[]⟩ (lossN l))))
      generalize w6.setCells w.heap.size 0 (unL c n false ⟨#[]⟩ (lossN l)) = W6 at *
    all_goals
      clear u0 u1 u2 u3 u4 f0 f1 f2 f3 Q5 O5
      have hg1l := g1_in (n := n) (co := co) (s := (b, r, l)) HLB.out
      have hg1r := g1_size (n := n) (co := co) (s := (b, r, l))
      obtain ⟨s1, hs1⟩ : ∃ s1, s1 = g1 n co (b, r, l) := ⟨_, rfl⟩
      rw [← hs1] at Q6 hg1l hg1r
      have HS1 := Lib.hid hs1
      clear hs1
      obtain ⟨b1, r1, l1⟩ := s1
      have hr1 : r1.size ≤ 43 := Nat.le_trans hg1r hr43
      clear hg1r
      obtain ⟨u0, u1, u2, u3, u4⟩ := Q6.out.bp.five
      obtain ⟨f0, f1, f2, f3⟩ := Q6.out.bx.four
      have ui := Q6.out.bp.ice
      have hco := HFR.out.2.1
      have hmod : Int.tmod (co + 1) 256 = (co + 1) % 256 := Int.tmod_eq_emod_of_nonneg (by omega)
      have hwn : IntKind.i64.wrap (co + 1) = co + 1 := IntWalk.i64_in _ (by omega)
      have Q7 := Lib.hid (show QP w (W6.setCell ⟨w.heap.size, 1, none⟩ (.int .i64 ((co + 1) % 256))) (unL c ((co + 1) % 256) b1 r1 l1) (frL ch co fi d) (unL 0 0 false ⟨#[]⟩ 0) from Q6.out.putP 1 (by simp) (.int .i64 ((co + 1) % 256)))
      have O7 := Lib.hid (OwnR.away (g := w.heap.size) (j := 1) O6.out (fun e => by have := (OwnR.upto O6.out _ e).1; omega) (.int .i64 ((co + 1) % 256)))
      go_upto_region 7 with fail
      clear u0 u1 u2 u3 u4 f0 f1 f2 f3 ui hmod hwn hco Q6 O6
      generalize W6.setCell ⟨w.heap.size, 1, none⟩ (.int .i64 ((co + 1) % 256)) = W7 at *
      obtain ⟨u0, u1, u2, u3, u4⟩ := Q7.out.bp.five
      obtain ⟨f0, f1, f2, f3⟩ := Q7.out.bx.four
      have ui := Q7.out.bp.ice
      have tri2 : b1 = true ∨ (b1 = false ∧ fi = 255) ∨ (b1 = false ∧ fi ≠ 255) := by
        cases b1
        · by_cases h : fi = 255
          · exact .inr (.inl ⟨rfl, h⟩)
          · exact .inr (.inr ⟨rfl, h⟩)
        · exact .inl rfl
      rcases tri2 with rfl | ⟨rfl, h255⟩ | ⟨rfl, h255⟩
      case' inl =>
        have hG : g2 fi d (true, r1, l1) = (true, r1 ++ d, l1) := rfl
        have hbd : ¬ 9223372036854775807 < r1.size + d.size := by omega
        have Q8 := Lib.hid (show QP w (W7.setCell ⟨w.heap.size, 3, none⟩ (.string (r1 ++ d))) (unL c ((co + 1) % 256) (g2 fi d (true, r1, l1)).1 (g2 fi d (true, r1, l1)).2.1 (g2 fi d (true, r1, l1)).2.2) (frL ch co fi d) (unL 0 0 false ⟨#[]⟩ 0) from by rw [hG]; exact Q7.out.putP 3 (by simp) (.string (r1 ++ d)))
        have O8 := Lib.hid (OwnR.away (g := w.heap.size) (j := 3) O7.out (fun e => by have := (OwnR.upto O7.out _ e).1; omega) (.string (r1 ++ d)))
        go_upto_region 12 with fail
        clear hG hbd u0 u1 u2 u3 u4 f0 f1 f2 f3 ui
        generalize W7.setCell ⟨w.heap.size, 3, none⟩ (.string (r1 ++ d)) = W8 at *
        obtain ⟨s2, hS2⟩ : ∃ s2, s2 = g2 fi d (true, r1, l1) := ⟨_, rfl⟩
      case' inr.inl =>
        have hG : g2 fi d (false, r1, l1) = (false, r1, l1) := by unfold g2; rw [if_neg (by simp), if_neg (fun h => h h255)]
        have t3 : (fi != 255) = false := by simp; exact h255
        have Q8 := Lib.hid (show QP w W7 (unL c ((co + 1) % 256) (g2 fi d (false, r1, l1)).1 (g2 fi d (false, r1, l1)).2.1 (g2 fi d (false, r1, l1)).2.2) (frL ch co fi d) (unL 0 0 false ⟨#[]⟩ 0) from by rw [hG]; exact Q7.out)
        have O8 := Lib.hid O7.out
        go_upto_region 12 with fail
        clear hG t3 h255 u0 u1 u2 u3 u4 f0 f1 f2 f3 ui
        generalize W7 = W8 at *
        obtain ⟨s2, hS2⟩ : ∃ s2, s2 = g2 fi d (false, r1, l1) := ⟨_, rfl⟩
      case' inr.inr =>
        have hfi : 0 ≤ fi ∧ fi ≤ 23 := HFR.out.2.2.1.resolve_right h255
        have hG : g2 fi d (false, r1, l1) = (true, d.extract fi.toNat d.size, l1) := by unfold g2; rw [if_neg (by simp), if_pos h255]
        have t3 : (fi != 255) = true := by simp; exact h255
        have hsl : ∀ W : World, (Instr.slice 9 (.string d) (some (.int .i64 fi)) none none).run Try.prog W = .ok (.string (d.extract fi.toNat d.size)) W := fun W => by
          have h := run_slice_string_from_if W 9 d .i64 fi Try.underlying9
          rw [if_pos (by omega)] at h
          exact h
        obtain ⟨D, hD⟩ : ∃ D, d.extract fi.toNat d.size = D := ⟨_, rfl⟩
        rw [hD] at hG hsl
        clear hD
        have Q8 := Lib.hid (show QP w ((W7.setCell ⟨w.heap.size, 3, none⟩ (.string D)).setCell ⟨w.heap.size, 2, none⟩ (.bool true)) (unL c ((co + 1) % 256) (g2 fi d (false, r1, l1)).1 (g2 fi d (false, r1, l1)).2.1 (g2 fi d (false, r1, l1)).2.2) (frL ch co fi d) (unL 0 0 false ⟨#[]⟩ 0) from by rw [hG]; exact (Q7.out.putP 3 (by simp) (.string D)).putP 2 (by simp) (.bool true))
        have O8 := Lib.hid (OwnR.away (g := w.heap.size) (j := 2) (OwnR.away (g := w.heap.size) (j := 3) O7.out (fun e => by have := (OwnR.upto O7.out _ e).1; omega) (.string D)) (fun e => by have := (OwnR.upto O7.out _ e).1; omega) (.bool true))
        go_upto_region 12 with fail
        clear hG t3 h255 hfi hsl u0 u1 u2 u3 u4 f0 f1 f2 f3 ui
        generalize (W7.setCell ⟨w.heap.size, 3, none⟩ (.string D)).setCell ⟨w.heap.size, 2, none⟩ (.bool true) = W8 at *
        obtain ⟨s2, hS2⟩ : ∃ s2, s2 = g2 fi d (false, r1, l1) := ⟨_, rfl⟩
      all_goals
        rw [← hS2] at Q8
        have hsz2 : s2.2.1.size ≤ r1.size + d.size := by rw [hS2]; exact g2_size
        have hl2 : s2.2.2 = l1 := by rw [hS2]; exact g2_in
        have HS2 := Lib.hid (show s2 = g2 fi d (g1 n co (b, r, l)) from by rw [← HS1.out]; exact hS2)
        clear hS2
        obtain ⟨b2, r2, l2⟩ := s2
        have hr2 : r2.size ≤ 1048576 := by have h : r2.size ≤ r1.size + d.size := hsz2; omega
        have HL2 := Lib.hid (show 0 ≤ l2 ∧ l2 ≤ 1000000 from by have h : l2 = l1 := hl2; rw [h]; exact hg1l)
        replace Q8 : Hid (QP w W8 (unL c ((co + 1) % 256) b2 r2 l2) (frL ch co fi d) (unL 0 0 false ⟨#[]⟩ 0)) := Q8
        clear hsz2 hl2 hg1l Q7 O7 HS1 hr1
        go_wp2
        go_loopg [6] (r2.size + 1) (fun gh u6 wx => ∃ k : Nat, 4 * k + (itP r2 k).2.size ≤ r2.size ∧ gh = r2.size + 1 - k ∧ OwnP wx (w.heap.size + 3) u6 (itP r2 k).1 ∧ QP w wx (unL c ((co + 1) % 256) b2 (itP r2 k).2 l2) (frL ch co fi d) (unL 0 0 false ⟨#[]⟩ 0))
        case atStart => exact ⟨0, by simp [itP], rfl, O8.out, Q8.out⟩
        case round =>
          obtain ⟨k, hk, rfl, hown, hq⟩ := hrel
          have HO := Lib.hid hown
          have HQ := Lib.hid hq
          have HLN := Lib.hid (itP_len r2 k)
          have HYES := Lib.hid (fun h => itP_yes (r0 := r2) (k := k) h)
          have HAT := Lib.hid (fun h => takeP_at (r0 := r2) (k := k) (by omega) h)
          obtain ⟨Pk', hPk⟩ : ∃ P, P = itP r2 k := ⟨_, rfl⟩
          rw [← hPk] at HO HQ HYES HAT HLN hk
          have HPK := Lib.hid hPk
          clear hPk hown hq
          obtain ⟨L, q⟩ := Pk'
          simp only at hk
          replace HQ : Hid (QP w wr (unL c ((co + 1) % 256) b2 q l2) (frL ch co fi d) (unL 0 0 false ⟨#[]⟩ 0)) := HQ
          obtain ⟨a0, a1, a2, a3, a4⟩ := HQ.out.bp.five
          have hqr : q.size ≤ 1048576 := by omega
          go_wp2_with fail
          refine (dec_zero_spec q hqr _).mono ?_
          rintro e w3 ⟨z, rfl, hz, hb3⟩
          have Q9 := Lib.hid (show QP w (w3.alloc (.cells #[.int .i64 (pkP q).1, .int .i64 (pkP q).2.1, .string (pkP q).2.2] 79)) (unL c ((co + 1) % 256) b2 q l2) (frL ch co fi d) (unL 0 0 false ⟨#[]⟩ 0) from (HQ.out.more hb3).more ((Below.refl _ _).alloc (Nat.le_refl _) _))
          have O9 := Lib.hid (show OwnP (w3.alloc (.cells #[.int .i64 (pkP q).1, .int .i64 (pkP q).2.1, .string (pkP q).2.2] 79)) (w.heap.size + 3) u6 L from OwnR.more (OwnR.more HO.out hb3) ((Below.refl _ _).alloc (Nat.le_refl _) _))
          have X9 := Lib.hid (show Box (w3.alloc (.cells #[.int .i64 (pkP q).1, .int .i64 (pkP q).2.1, .string (pkP q).2.2] 79)) w3.heap.size (pkC (pkP q)) from Box.made w3 (pkC (pkP q)) _ _ rfl)
          have hx3 : w.heap.size + 3 ≤ w3.heap.size := (HQ.out.more hb3).far
          clear hb3 a0 a1 a2 a3 a4
          go_upto_region 13 with fail
          generalize w3.alloc (.cells #[.int .i64 (pkP q).1, .int .i64 (pkP q).2.1, .string (pkP q).2.2] 79) = W9 at *
          generalize w3.heap.size = g9 at *
          obtain ⟨a0, a1, a2, a3, a4⟩ := Q9.out.bp.five
          have ai := Q9.out.bp.ice
          cases hok : okP q with
          | true =>
            have hzz := hz hok
            subst hzz
            have hlen := okP_len hok
            have HST := Lib.hid (HYES.out hok)
            have hsl : ∀ W : World, (Instr.slice 9 (.string q) (some (.int .i64 ((lenP q : Nat) : Int))) none none).run Try.prog W = .ok (.string (q.extract (lenP q) q.size)) W := fun W => by
              have h := run_slice_string_from_if W 9 q .i64 ((lenP q : Nat) : Int) Try.underlying9
              rw [if_pos (by omega)] at h
              exact h
            have QA := Lib.hid (show QP w (W9.setCell ⟨w.heap.size, 3, none⟩ (.string (q.extract (lenP q) q.size))) (unL c ((co + 1) % 256) b2 (q.extract (lenP q) q.size) l2) (frL ch co fi d) (unL 0 0 false ⟨#[]⟩ 0) from Q9.out.putP 3 (by simp) (.string (q.extract (lenP q) q.size)))
            have OA := Lib.hid (show OwnP (W9.setCell ⟨w.heap.size, 3, none⟩ (.string (q.extract (lenP q) q.size))) (w.heap.size + 3) u6 L from OwnR.away O9.out (fun e => by have := (OwnR.upto O9.out _ e).1; omega) _)
            have XA := Lib.hid (X9.out.other (ga := w.heap.size) (by omega) 3 (.string (q.extract (lenP q) q.size)))
            have hq2 : (q.extract (lenP q) q.size).size + 4 ≤ q.size := by rw [ByteArray.size_extract]; omega
            generalize hqe : q.extract (lenP q) q.size = q2 at *
            clear hqe
            generalize pkP q = p at *
            go_upto_region 15 with fail
            clear a0 a1 a2 a3 a4 ai hok hz hsl
            generalize W9.setCell ⟨w.heap.size, 3, none⟩ (.string q2) = WA at *
            obtain ⟨f0, f1, f2⟩ := XA.out.three
            by_cases h15 : p.1 = 15
            · have t1 : (p.1 != 15) = false := by simp; exact h15
              have HL2' := Lib.hid (show (itP r2 (k + 1)) = (L, q2) from by rw [HST.out, if_pos h15, List.append_nil])
              clear h15
              go_wp2
              go_roundg (r2.size + 1 - (k + 1))
              case measure => omega
              case rel =>
                have e1 := HL2'.out
                refine ⟨k + 1, ?_, rfl, ?_, ?_⟩
                · rw [e1]; simp only; omega
                · rw [e1]; exact OA.out
                · rw [e1]; exact QA.out
            · have t1 : (p.1 != 15) = true := by simp; exact h15
              have HL2' := Lib.hid (show (itP r2 (k + 1)) = (L ++ [p], q2) from by rw [HST.out, if_neg h15])
              have hll : L.length + [pkC p].length ≤ 1099511 := by have h1 : L.length ≤ k := HLN.out; simp only [List.length_cons, List.length_nil]; omega
              have OB := Lib.hid (OwnR.more OA.out ((Below.refl _ _).alloc (Nat.le_refl _) (.cells #[.int .i64 p.1, .int .i64 p.2.1, .string p.2.2] 79)))
              have QB := Lib.hid (QA.out.more ((Below.refl _ _).alloc (Nat.le_refl _) (.cells #[.int .i64 p.1, .int .i64 p.2.1, .string p.2.2] 79)))
              have HAT1 := Lib.hid (show RowsAt (WA.alloc (.cells #[.int .i64 p.1, .int .i64 p.2.1, .string p.2.2] 79)) (some ⟨WA.heap.size, 0, none⟩) [pkC p] from .inr ⟨WA.heap.size, 0, rfl, fun j u hu => by
                rw [Nat.zero_add, World.cell?_alloc_at _ _ _ _ rfl]
                simpa using hu⟩)
              have hwz1 : w.heap.size + 3 ≤ (WA.alloc (.cells #[.int .i64 p.1, .int .i64 p.2.1, .string p.2.2] 79)).heap.size := QB.out.far
              clear h15
              go_wp2_with (at_builtin; go_loud (refine app_rows 79 53 3 32 (pkV 0 0 ⟨#[]⟩) ip _ rfl _ _ rfl Try.underlying53 HIP.out.1 HIP.out.2.1 HIP.out.2.2.1 HIP.out.2.2.2 rfl (by decide) (by decide) (w.heap.size + 3) u6 (L.map pkC) rfl OB.out (some ⟨WA.heap.size, 0, none⟩) [pkC p] 1 rfl (by intro x hx; rw [List.mem_singleton.1 hx]; rfl) (by intro x hx u hu; rw [List.mem_singleton.1 hx] at hu; simp at hu; rcases hu with rfl | rfl | rfl <;> rfl) HAT1.out (by simpa using hll) hwz1 ?_))
              intro v7 w7 hown7 hg7 hor7
              have O7 := Lib.hid (show OwnP w7 (w.heap.size + 3) v7 (L ++ [p]) from by
                show OwnR _ _ _ _ _ ((L ++ [p]).map pkC)
                rw [List.map_append]
                exact hown7)
              have Q7 := Lib.hid (QB.out.grown hg7 (fun j hj => (OwnR.upto OB.out j hj).1))
              clear hown7 hg7 hor7
              go_wp2
              go_roundg (r2.size + 1 - (k + 1))
              case measure => omega
              case rel =>
                have e1 := HL2'.out
                refine ⟨k + 1, ?_, rfl, ?_, ?_⟩
                · rw [e1]; simp only; omega
                · rw [e1]; exact O7.out
                · rw [e1]; exact Q7.out
          | false =>
            have HT := Lib.hid (HAT.out hok)
            have four : (4 ≤ q.size ∧ 15 < byteAt q 0) ∨ (4 ≤ q.size ∧ ¬ 15 < byteAt q 0 ∧ 40 < byteAt q 3) ∨ (4 ≤ q.size ∧ ¬ 15 < byteAt q 0 ∧ ¬ 40 < byteAt q 3) ∨ ¬ 4 ≤ q.size := by omega
            rcases four with ⟨h4, hX⟩ | ⟨h4, hX, hY⟩ | ⟨h4, hX, hY⟩ | h4
            case' inl =>
              have HG := Lib.hid (show g3 (b2, r2, l2) = (false, ⟨#[]⟩, lossN l2) from by unfold g3; rw [HT.out]; exact if_pos ⟨h4, .inl hX⟩)
              have d4 : decide (4 ≤ q.size) = true := decide_eq_true h4
              have d4' : decide ((4 : Int) ≤ (q.size : Int)) = true := decide_eq_true (by omega)
              have e0 := byteAt_of q 0 (by omega)
              have e3 := byteAt_of q 3 (by omega)
              generalize byteAt q 0 = X at *
              generalize byteAt q 3 = Y at *
              have d1 : decide ((15 : Int) < (X : Int)) = true := decide_eq_true (by omega)
              have d2 : decide (15 < X) = true := decide_eq_true hX
              clear hX hz hok
              go_wp2_with fail
              refine (lose_spec c ((co + 1) % 256) b2 q l2 HL2.out _).mono ?_
              rintro e w10 ⟨rfl, hb10⟩
              have QX := Lib.hid (Q9.out.more hb10)
              have OX := Lib.hid (OwnR.more O9.out hb10)
              have QZ := Lib.hid (show QP w (w10.setCells w.heap.size 0 (unL c ((co + 1) % 256) false ⟨#[]⟩ (lossN l2))) (unL c ((co + 1) % 256) (g3 (b2, r2, l2)).1 (g3 (b2, r2, l2)).2.1 (g3 (b2, r2, l2)).2.2) (frL ch co fi d) (unL 0 0 false ⟨#[]⟩ 0) from by rw [HG.out]; exact QX.out.allP rfl)
              have OZ := Lib.hid (OwnR.cellsAway (g := w.heap.size) (fun e => by have := (OwnR.upto OX.out _ e).1; omega) (unL c ((co + 1) % 256) false ⟨#[]⟩ (lossN l2)) 0 _ OX.out)
              clear a0 a1 a2 a3 a4 ai
              obtain ⟨a0, a1, a2, a3, a4⟩ := QX.out.bp.five
              have ai := QX.out.bp.ice
              go_upto_region 19 with fail
              clear a0 a1 a2 a3 a4 ai
              (change Code.wp Try.prog _ _ _ (w10.setCells w.heap.size 0 (unL c ((co + 1) % 256) false ⟨#[]⟩ (lossN l2))))
              generalize w10.setCells w.heap.size 0 (unL c ((co + 1) % 256) false ⟨#[]⟩ (lossN l2)) = WZ at *
            case' inr.inl =>
              have HG := Lib.hid (show g3 (b2, r2, l2) = (false, ⟨#[]⟩, lossN l2) from by unfold g3; rw [HT.out]; exact if_pos ⟨h4, .inr hY⟩)
              have d4 : decide (4 ≤ q.size) = true := decide_eq_true h4
              have d4' : decide ((4 : Int) ≤ (q.size : Int)) = true := decide_eq_true (by omega)
              have e0 := byteAt_of q 0 (by omega)
              have e3 := byteAt_of q 3 (by omega)
              generalize byteAt q 0 = X at *
              generalize byteAt q 3 = Y at *
              have d1 : decide ((15 : Int) < (X : Int)) = false := decide_eq_false (by omega)
              have d2 : decide (15 < X) = false := decide_eq_false hX
              have d3 : decide ((40 : Int) < (Y : Int)) = true := decide_eq_true (by omega)
              have d5 : decide (40 < Y) = true := decide_eq_true hY
              clear hX hY hz hok
              go_wp2_with fail
              refine (lose_spec c ((co + 1) % 256) b2 q l2 HL2.out _).mono ?_
              rintro e w10 ⟨rfl, hb10⟩
              have QX := Lib.hid (Q9.out.more hb10)
              have OX := Lib.hid (OwnR.more O9.out hb10)
              have QZ := Lib.hid (show QP w (w10.setCells w.heap.size 0 (unL c ((co + 1) % 256) false ⟨#[]⟩ (lossN l2))) (unL c ((co + 1) % 256) (g3 (b2, r2, l2)).1 (g3 (b2, r2, l2)).2.1 (g3 (b2, r2, l2)).2.2) (frL ch co fi d) (unL 0 0 false ⟨#[]⟩ 0) from by rw [HG.out]; exact QX.out.allP rfl)
              have OZ := Lib.hid (OwnR.cellsAway (g := w.heap.size) (fun e => by have := (OwnR.upto OX.out _ e).1; omega) (unL c ((co + 1) % 256) false ⟨#[]⟩ (lossN l2)) 0 _ OX.out)
              clear a0 a1 a2 a3 a4 ai
              obtain ⟨a0, a1, a2, a3, a4⟩ := QX.out.bp.five
              have ai := QX.out.bp.ice
              go_upto_region 19 with fail
              clear a0 a1 a2 a3 a4 ai
              (change Code.wp Try.prog _ _ _ (w10.setCells w.heap.size 0 (unL c ((co + 1) % 256) false ⟨#[]⟩ (lossN l2))))
              generalize w10.setCells w.heap.size 0 (unL c ((co + 1) % 256) false ⟨#[]⟩ (lossN l2)) = WZ at *
            case' inr.inr.inl =>
              have HG := Lib.hid (show g3 (b2, r2, l2) = (b2, q, l2) from by unfold g3; rw [HT.out]; exact if_neg (fun h => h.2.elim hX hY))
              have d4 : decide (4 ≤ q.size) = true := decide_eq_true h4
              have d4' : decide ((4 : Int) ≤ (q.size : Int)) = true := decide_eq_true (by omega)
              have e0 := byteAt_of q 0 (by omega)
              have e3 := byteAt_of q 3 (by omega)
              generalize byteAt q 0 = X at *
              generalize byteAt q 3 = Y at *
              have d1 : decide ((15 : Int) < (X : Int)) = false := decide_eq_false (by omega)
              have d2 : decide (15 < X) = false := decide_eq_false hX
              have d3 : decide ((40 : Int) < (Y : Int)) = false := decide_eq_false (by omega)
              have d5 : decide (40 < Y) = false := decide_eq_false hY
              clear hX hY hz hok
              have QZ := Lib.hid (show QP w W9 (unL c ((co + 1) % 256) (g3 (b2, r2, l2)).1 (g3 (b2, r2, l2)).2.1 (g3 (b2, r2, l2)).2.2) (frL ch co fi d) (unL 0 0 false ⟨#[]⟩ 0) from by rw [HG.out]; exact Q9.out)
              have OZ := Lib.hid O9.out
              go_upto_region 19 with fail
              clear a0 a1 a2 a3 a4 ai
              generalize W9 = WZ at *
            case' inr.inr.inr =>
              have HG := Lib.hid (show g3 (b2, r2, l2) = (b2, q, l2) from by unfold g3; rw [HT.out]; exact if_neg (fun h => h4 h.1))
              have d4 : decide (4 ≤ q.size) = false := decide_eq_false h4
              have d4' : decide ((4 : Int) ≤ (q.size : Int)) = false := decide_eq_false (by omega)
              clear hz hok
              have QZ := Lib.hid (show QP w W9 (unL c ((co + 1) % 256) (g3 (b2, r2, l2)).1 (g3 (b2, r2, l2)).2.1 (g3 (b2, r2, l2)).2.2) (frL ch co fi d) (unL 0 0 false ⟨#[]⟩ 0) from by rw [HG.out]; exact Q9.out)
              have OZ := Lib.hid O9.out
              go_upto_region 19 with fail
              clear a0 a1 a2 a3 a4 ai
              generalize W9 = WZ at *
            all_goals
              obtain ⟨s3, hS3⟩ : ∃ s3, s3 = g3 (b2, r2, l2) := ⟨_, rfl⟩
              rw [← hS3] at QZ
              have hL' : L = (takeP r2).1 := by rw [HT.out]
              have HFIN := Lib.hid (fun (W : World) (ho : OwnP W w.heap.size u6 L) (hb : Below w.heap.size w W) => PushEnd.yes (s3 := s3) HV.out (by rw [hS3, HS2.out]) (by rw [hL']; show (takeP (b2, r2, l2).2.1).1 = _; rw [HS2.out]) ho hb)
              clear hS3 hL'
              obtain ⟨b3, r3, l3⟩ := s3
              replace QZ : Hid (QP w WZ (unL c ((co + 1) % 256) b3 r3 l3) (frL ch co fi d) (unL 0 0 false ⟨#[]⟩ 0)) := QZ
              obtain ⟨a0, a1, a2, a3, a4⟩ := QZ.out.bp.five
              obtain ⟨m0, m1, m2, m3, m4⟩ := QZ.out.br.five
              have mi := QZ.out.br.ice
              have BF := Lib.hid (QZ.out.br.all (us := unL c ((co + 1) % 256) b3 r3 l3) rfl)
              have OF := Lib.hid (OwnR.lower (OwnR.cellsAway (g := w.heap.size + 2) (fun e => by have := (OwnR.upto OZ.out _ e).1; omega) (unL c ((co + 1) % 256) b3 r3 l3) 0 _ OZ.out) (show w.heap.size ≤ w.heap.size + 3 by omega))
              have BB := Lib.hid (below_setCells (B := w.heap.size) (by omega : w.heap.size ≤ w.heap.size + 2) (unL c ((co + 1) % 256) b3 r3 l3) 0 _ QZ.out.below)
              go_wp2
              show bodyPost Try.prog Try.f30 _ Exit.ret _ (WZ.setCells (w.heap.size + 2) 0 (unL c ((co + 1) % 256) b3 r3 l3))
              generalize WZ.setCells (w.heap.size + 2) 0 (unL c ((co + 1) % 256) b3 r3 l3) = WE at *
              obtain ⟨d0, d1', d2', d3', d4''⟩ := BF.out.five
              refine bodyPost_ret_by (v := .tuple #[unV c ((co + 1) % 256) b3 r3 l3, u6]) ?_ rfl (HFIN.out _ OF.out BB.out)
              simp [results, Try.f30, go_sem, d0, d1', d2', d3', d4'']
  · have HN := Lib.hid hP
    have tri : ¬ UpOk c n b r l ∨ (UpOk c n b r l ∧ ¬ FrOk ch co fi d) ∨ (UpOk c n b r l ∧ FrOk ch co fi d ∧ c ≠ ch) := by
      by_cases h1 : UpOk c n b r l
      · by_cases h2 : FrOk ch co fi d
        · exact .inr (.inr ⟨h1, h2, fun h => hP ⟨h1, h2, h⟩⟩)
        · exact .inr (.inl ⟨h1, h2⟩)
      · exact .inl h1
    have hU := up_spec c n b r l W4
    have hF := fun W => fo_spec ch co fi d W
    rcases tri with h1 | ⟨h1, h2⟩ | ⟨h1, h2, h3⟩
    case' inl =>
      rw [decide_eq_false h1] at hU
      clear hF hP h1
      go_wp2_with fail
      refine hU.mono ?_
      rintro e w9 ⟨rfl, hb9⟩
      have Q9 := HQ4.out.more hb9
      have O9 := Lib.hid (OwnR.more HO4.out hb9)
      clear hb9 u0 u1 u2 u3 u4
    case' inr.inl =>
      rw [decide_eq_true h1] at hU
      rw [decide_eq_false h2] at hF
      have HF := Lib.hid hF
      clear hF hP h1 h2
      go_wp2_with fail
      refine hU.mono ?_
      rintro e w4 ⟨rfl, hb4⟩
      have Q4 := Lib.hid (HQ4.out.more hb4)
      have O4 := Lib.hid (OwnR.more HO4.out hb4)
      obtain ⟨f0, f1, f2, f3⟩ := Q4.out.bx.four
      clear hb4 u0 u1 u2 u3 u4
      go_wp2_with fail
      refine (HF.out _).mono ?_
      rintro e w9 ⟨rfl, hb9⟩
      have Q9 := Q4.out.more hb9
      have O9 := Lib.hid (OwnR.more O4.out hb9)
      clear hb9 f0 f1 f2 f3
    case' inr.inr =>
      rw [decide_eq_true h1] at hU
      rw [decide_eq_true h2] at hF
      have HF := Lib.hid hF
      have tc : (c != ch) = true := by simp; exact h3
      clear hF hP h1 h2 h3
      go_wp2_with fail
      refine hU.mono ?_
      rintro e w4 ⟨rfl, hb4⟩
      have Q4 := Lib.hid (HQ4.out.more hb4)
      have O4 := Lib.hid (OwnR.more HO4.out hb4)
      obtain ⟨f0, f1, f2, f3⟩ := Q4.out.bx.four
      clear hb4 u0 u1 u2 u3 u4
      go_wp2_with fail
      refine (HF.out _).mono ?_
      rintro e w9 ⟨rfl, hb9⟩
      have Q9 := Q4.out.more hb9
      have O9 := Lib.hid (OwnR.more O4.out hb9)
      clear hb9 f0 f1 f2 f3
      obtain ⟨f0, f1, f2, f3⟩ := Q9.bx.four
    all_goals
      obtain ⟨u0, u1, u2, u3, u4⟩ := Q9.bp.five
      obtain ⟨m0, m1, m2, m3, m4⟩ := Q9.br.five
      have mi := Q9.br.ice
      have BF := Lib.hid (Q9.br.all (us := unL c n b r l) rfl)
      have OF := Lib.hid (OwnR.lower (OwnR.cellsAway (g := w.heap.size + 2) (fun e => by have := (OwnR.upto O9.out _ e).1; omega) (unL c n b r l) 0 _ O9.out) (show w.heap.size ≤ w.heap.size + 3 by omega))
      have BB := Lib.hid (below_setCells (B := w.heap.size) (by omega : w.heap.size ≤ w.heap.size + 2) (unL c n b r l) 0 _ Q9.below)
      clear Q9
      go_wp2
      show bodyPost Try.prog Try.f30 _ Exit.ret _ (w9.setCells (w.heap.size + 2) 0 (unL c n b r l))
      generalize w9.setCells (w.heap.size + 2) 0 (unL c n b r l) = WE at *
      obtain ⟨d0, d1, d2, d3, d4⟩ := BF.out.five
      refine bodyPost_ret_by (v := .tuple #[unV c n b r l, v6]) ?_ rfl (PushEnd.no HN.out OF.out BB.out)
      simp [results, Try.f30, go_sem, d0, d1, d2, d3, d4]
end Go.Proofs.Ytegahdlfjdjcaab
