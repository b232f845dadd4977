/- What this text proves: the parts IPu2 of the proof, each under its own words. -/
import Derived.Test.YtegahdlfjdjcaaaV35
import Derived.Test.YtegahdlfjdjcaaaV11
/- What this text proves: what a frame put into an unpacker at work makes of it. -/
namespace Go.Proofs.Ytegahdlfjdjcaaa
open Go.ChangeShapes Go.WideShapes Go.ChangeAt Go.RowKit
set_option linter.unusedVariables false

/-- The boxes of a walk over an unpacker at work at g, with a variable at gf; nothing else has changed since w. -/
structure YB (w W : World) (g gf : Nat) (ks fs : List Value) : Prop where
  bk : Box W g ks
  bf : Box W gf fs
  gr : w.grownBy W (some g)
  ne : g ≠ gf
theorem YB.more {w W W' : World} {g gf : Nat} {ks fs : List Value} (h : YB w W g gf ks fs) (hb : Below W.heap.size W W') : YB w W' g gf ks fs := ⟨h.bk.more hb, h.bf.more hb, grown_trans h.gr (grown_of hb _), h.ne⟩
theorem YB.step {w W W' : World} {g gf : Nat} {ks ks' fs : List Value} (h : YB w W g gf ks fs) (hb : Box W' g ks') (hg : W.grownBy W' (some g)) : YB w W' g gf ks' fs := ⟨hb, h.bf.grown hg (fun e => h.ne (by injection e)), grown_trans h.gr hg, h.ne⟩
theorem g1_sync {n co : Int} {s : Bool × ByteArray × Int} (h : s.1 = true ∨ s.2.1.size = 0) : (g1 n co s).1 = true ∨ (g1 n co s).2.1.size = 0 := by unfold g1; split; exact .inr rfl; exact h
theorem YB.put {w W : World} {g gf : Nat} {ks fs : List Value} (h : YB w W g gf ks fs) (j : Nat) (hj : j < ks.length) (u : Value) : YB w (W.setCell ⟨g, j, none⟩ u) g gf (ks.set j u) fs := h.step (h.bk.set j hj u) (grown_one u)

set_option maxRecDepth 8000 in
set_option maxHeartbeats 4000000 in
theorem put_frame (c n : Int) (s : Bool × ByteArray × Int) (ch co fi : Int) (d : ByteArray) (hl : 0 ≤ s.2.2 ∧ s.2.2 ≤ 1000000) (hr : s.2.1.size ≤ 1048576) (hsy : s.1 = true ∨ s.2.1.size = 0) (hf : FrOk ch co fi d) (g : Nat) (w : World) (hb : Box w g (yL c n s)) :
    Calls Try.prog 90 #[ptr g, frV ch co fi d] w fun e w' => e = .returned (.tuple #[]) ∧ Box w' g (yL c ((co + 1) % 256) (g2 fi d (g1 n co s))) ∧ w.grownBy w' (some g) := by
  obtain ⟨b, r, l⟩ := s
  have hlt := hb.lt
  have Y1 : YB w (w.alloc (.cells #[.int .i64 ch, .int .i64 co, .int .i64 fi, .string d] 39)) g w.heap.size (yL c n (b, r, l)) (frL ch co fi d) := ⟨hb.alloc _, Box.made w (frL ch co fi d) _ _ rfl, grown_of ((Below.refl _ _).alloc (Nat.le_refl _) _) _, Nat.ne_of_lt hlt⟩
  have HY1 := Lib.hid Y1
  have hd24 := hf.2.2.2
  have HFI := Lib.hid hf.2.2.1
  have HCO := Lib.hid hf.2.1
  have hg1l := g1_in (n := n) (co := co) (s := (b, r, l)) hl
  have hg1r := g1_size (n := n) (co := co) (s := (b, r, l))
  have hg1s := g1_sync (n := n) (co := co) (s := (b, r, l)) hsy
  have HLL := Lib.hid hl
  clear hb Y1 hlt hf hl hsy
  go_enter Try.func90, Try.ntmps90
  go_upto_region 1 with fail
  generalize w.alloc (.cells #[.int .i64 ch, .int .i64 co, .int .i64 fi, .string d] 39) = W1 at *
  generalize w.heap.size = gf at *
  have YD := Lib.hid (HY1.out.more (Below.refl _ _).drew)
  obtain ⟨k0, k1, k2, k3, k4⟩ := HY1.out.bk.five
  obtain ⟨f0, f1, f2, f3⟩ := HY1.out.bf.four
  obtain ⟨p0, p1, p2, p3, p4⟩ := YD.out.bk.five
  obtain ⟨q0, q1, q2, q3⟩ := YD.out.bf.four
  have tri : n = -1 ∨ (n ≠ -1 ∧ n = co) ∨ (n ≠ -1 ∧ n ≠ co) := by omega
  rcases tri with h1 | ⟨h1, h2⟩ | ⟨h1, h2⟩
  case' inl =>
    have hG : g1 n co (b, r, l) = (b, r, l) := if_neg (fun h => h.1 h1)
    have t1 : (n != -1) = false := by simp; exact h1
    have HY3 := Lib.hid (show YB w W1.drew g gf (yL c n (g1 n co (b, r, l))) (frL ch co fi d) from by rw [hG]; exact YD.out)
    clear hG h1
    go_wp2
    go_region
    go_upto_region 3 with fail
    clear k0 k1 k2 k3 k4 f0 f1 f2 f3 p0 p1 p2 p3 p4 q0 q1 q2 q3 YD HY1 t1
    generalize W1.drew = W3 at *
  case' inr.inl =>
    have hG : g1 n co (b, r, l) = (b, r, l) := if_neg (fun h => h.2 h2)
    have t1 : (n != -1) = true := by simp; exact h1
    have t2 : (n != co) = false := by simp; exact h2
    have HY3 := Lib.hid (show YB w W1.drew g gf (yL c n (g1 n co (b, r, l))) (frL ch co fi d) from by rw [hG]; exact YD.out)
    clear hG h1 h2
    go_wp2
    go_region
    go_upto_region 3 with fail
    clear k0 k1 k2 k3 k4 f0 f1 f2 f3 p0 p1 p2 p3 p4 q0 q1 q2 q3 YD HY1 t1 t2
    generalize W1.drew = W3 at *
  case' inr.inr =>
    have hG : g1 n co (b, r, l) = (false, ⟨#[]⟩, lossN l) := if_pos ⟨h1, h2⟩
    have t1 : (n != -1) = true := by simp; exact h1
    have t2 : (n != co) = true := by simp; exact h2
    have HLP := Lib.hid (lose_part c n b r l HLL.out g W1.drew YD.out.bk)
    have HG := Lib.hid hG
    clear hG h1 h2
    go_wp2
    go_region
    go_wp2_with fail
    refine HLP.out.mono ?_
    rintro e W3 ⟨rfl, hbk, hgr⟩
    have HY3 := Lib.hid (show YB w W3 g gf (yL c n (g1 n co (b, r, l))) (frL ch co fi d) from by rw [HG.out]; exact YD.out.step hbk hgr)
    clear hbk hgr HLP HG
    go_upto_region 3 with fail
    clear k0 k1 k2 k3 k4 f0 f1 f2 f3 p0 p1 p2 p3 p4 q0 q1 q2 q3 YD HY1 t1 t2
  all_goals
    obtain ⟨s1, hs1⟩ : ∃ s1, s1 = g1 n co (b, r, l) := ⟨_, rfl⟩
    rw [← hs1] at HY3 hg1l hg1r hg1s
    have HS1 := Lib.hid hs1
    clear hs1
    obtain ⟨b1, r1, l1⟩ := s1
    obtain ⟨k0, k1, k2, k3, k4⟩ := HY3.out.bk.five
    obtain ⟨f0, f1, f2, f3⟩ := HY3.out.bf.four
    have ki := HY3.out.bk.ice
    go_wp2_with fail
    refine (next_count co HCO.out _).mono ?_
    rintro e w4 ⟨rfl, rfl⟩
    have HY4 := Lib.hid (show YB w (W3.setCell ⟨g, 2, none⟩ (.int .i64 ((co + 1) % 256))) g gf (yL c ((co + 1) % 256) (b1, r1, l1)) (frL ch co fi d) from HY3.out.put 2 (by simp) (.int .i64 ((co + 1) % 256)))
    go_upto_region 4 with fail
    clear k0 k1 k2 k3 k4 f0 f1 f2 f3 ki
    generalize W3.setCell ⟨g, 2, none⟩ (.int .i64 ((co + 1) % 256)) = W4 at *
    have hne := HY4.out.ne
    have YD4 := Lib.hid (HY4.out.more (Below.refl _ _).drew)
    obtain ⟨k0, k1, k2, k3, k4⟩ := HY4.out.bk.five
    obtain ⟨f0, f1, f2, f3⟩ := HY4.out.bf.four
    obtain ⟨q0, q1, q2, q3⟩ := YD4.out.bf.four
    have hr1 : r1.size ≤ 1048576 := Nat.le_trans hg1r hr
    have HSY := Lib.hid (show b1 = true ∨ r1.size = 0 from hg1s)
    clear hg1r hg1s
    cases b1 with
    | true =>
      have HG := Lib.hid (show g2 fi d (g1 n co (b, r, l)) = (true, r1 ++ d, l1) from by rw [← HS1.out]; rfl)
      have HPUT := Lib.hid (put_q r1 d g W4.drew YD4.out.bk.five.1 (YD4.out.bk.ice 0) (by omega))
      go_wp2
      go_region_held3 (fun w' => w'.cell? ⟨gf, 3, none⟩ = some (.string d)) (first | with_reducible exact q3 | go_keep)
        ((go_at_call 85; (with_reducible refine HPUT.out.mono ?_); rintro e w5 ⟨rfl, rfl⟩))
      all_goals
        have HY5 := Lib.hid (show YB w (W4.drew.setCell ⟨g, 0, none⟩ (.string (r1 ++ d))) g gf (yL c ((co + 1) % 256) (true, r1 ++ d, l1)) (frL ch co fi d) from YD4.out.put 0 (by simp) (.string (r1 ++ d)))
        go_wp2
        go_end0
        exact ⟨rfl, by rw [HG.out]; exact HY5.out.bk, HY5.out.gr⟩
    | false =>
      by_cases h255 : fi = 255
      · have t3 : (fi != 255) = false := by simp; exact h255
        have HG := Lib.hid (show g2 fi d (g1 n co (b, r, l)) = (false, r1, l1) from by rw [← HS1.out]; unfold g2; rw [if_neg (by simp), if_neg (fun h => h h255)])
        clear h255
        go_wp2
        go_end0
        exact ⟨rfl, by rw [HG.out]; exact HY4.out.bk, HY4.out.gr⟩
      · have t3 : (fi != 255) = true := by simp; exact h255
        have hfi : 0 ≤ fi ∧ fi ≤ 23 := HFI.out.resolve_right h255
        obtain ⟨F, rfl⟩ := Int.eq_ofNat_of_zero_le hfi.1
        have HG := Lib.hid (show g2 (F : Int) d (g1 n co (b, r, l)) = (true, d.extract F d.size, l1) from by rw [← HS1.out]; unfold g2; rw [if_neg (by simp), if_pos h255]; rfl)
        have hsl : ∀ W : World, (Instr.slice 9 (.string d) (some (.int .i64 (F : Int))) none none).run Try.prog W = .ok (.string (d.extract F d.size)) W := fun W => by
          have h := run_slice_string_from_if W 9 d .i64 (F : Int) Try.underlying9
          rw [if_pos (by omega)] at h
          exact h
        have hzz : (d.extract F d.size).size ≤ 24 := by rw [ByteArray.size_extract]; omega
        have hr0 : r1 = ⟨#[]⟩ := empty_text r1 (HSY.out.resolve_left (by simp))
        have HPUT := Lib.hid (put_q r1 (d.extract F d.size) g W4.drew YD4.out.bk.five.1 (YD4.out.bk.ice 0) (by omega))
        have hcat : r1 ++ d.extract F d.size = d.extract F d.size := by rw [hr0]; exact ByteArray.ext (by simp)
        rw [hcat] at HPUT
        have HY5 := Lib.hid (show YB w (W4.drew.setCell ⟨g, 0, none⟩ (.string (d.extract F d.size))) g gf (yL c ((co + 1) % 256) (false, d.extract F d.size, l1)) (frL ch co F d) from YD4.out.put 0 (by simp) (.string (d.extract F d.size)))
        have HY6 := Lib.hid (show YB w ((W4.drew.setCell ⟨g, 0, none⟩ (.string (d.extract F d.size))).setCell ⟨g, 3, none⟩ (.bool true)) g gf (yL c ((co + 1) % 256) (true, d.extract F d.size, l1)) (frL ch co F d) from HY5.out.put 3 (by simp) (.bool true))
        have YN := HY4.out.put 0 (by simp) (.string (d.extract F d.size))
        obtain ⟨y0, y1, y2, y3, y4⟩ := YN.bk.five
        have yi := YN.bk.ice
        obtain ⟨x0, x1, x2, x3, x4⟩ := HY5.out.bk.five
        have xi := HY5.out.bk.ice
        clear YN
        clear h255 hr0 hcat
        generalize d.extract F d.size = D at *
        go_wp2
        go_region_held3 (fun w' => w'.cell? ⟨gf, 2, none⟩ = some (.int .i64 (F : Int)) ∧ w'.cell? ⟨gf, 3, none⟩ = some (.string d)) (first | with_reducible exact ⟨q2, q3⟩ | go_keep)
          ((go_at_call 85; (with_reducible refine HPUT.out.mono ?_); rintro e w5 ⟨rfl, rfl⟩))
        all_goals
          go_wp2
          go_end0
          exact ⟨rfl, by rw [HG.out]; exact HY6.out.bk, HY6.out.gr⟩
end Go.Proofs.Ytegahdlfjdjcaaa
