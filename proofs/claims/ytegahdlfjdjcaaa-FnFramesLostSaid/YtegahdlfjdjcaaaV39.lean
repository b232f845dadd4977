/- What this text proves: the parts ITs of the proof, each under its own words. -/
import Derived.Test.YtegahdlfjdjcaaaV34
import Derived.Test.YtegahdlfjdjcaaaV30
import Derived.Test.YtegahdlfjdjcaaaV38
import Derived.Deep.LoopGhost
/- What this text proves: the contract of the program's TakeFrames. -/
namespace Go.Proofs.Ytegahdlfjdjcaaa
open Go.ChangeShapes Go.WideShapes Go.ChangeAt Go.RowKit
set_option linter.unusedVariables false

/-- What one call answers, in any world. -/
theorem take_impl3 (c : Int) (s : Pa3) (A : Option Addr) (k0 : Nat) (hl : s.2.2.length ≤ 1048576) (hr : s.2.1.size ≤ 1048576) (w : World) (h : IntsAt w w.heap.size A s.2.2) :
    Calls Try.prog 22 #[paV c s.1 s.2.1 (.slice A s.2.2.length k0)] w fun e w' => ∃ A' c', e = .returned (.tuple #[paV c (oneT c s).1 (oneT c s).2.1 (.slice A' (oneT c s).2.2.length c'), frW (oneF c s), .bool (oneB c s)]) ∧ OwnI w' w.heap.size (.slice A' (oneT c s).2.2.length c') (oneT c s).2.2 ∧ Below w.heap.size w w' :=
  (take_impl c s.1 s.2.1 A s.2.2 k0 hl hr w h).mono fun e w' hh => by
    obtain ⟨v, h1, h2, h3⟩ := hh
    obtain ⟨A', c', rfl⟩ := h2.form
    exact ⟨A', c', h1, h2, h3⟩

set_option maxRecDepth 8000 in
set_option maxHeartbeats 8000000 in
theorem takes_impl (c n : Int) (r : ByteArray) (A : Option Addr) (l : List Int) (k0 K : Nat) (hl : l.length ≤ 1048576) (hr : r.size ≤ 1048576) (hK : Runs c (n, r, l) K) (hKb : K ≤ 1000000) (w : World) (h : IntsAt w w.heap.size A l) :
    Calls Try.prog 29 #[paV c n r (.slice A l.length k0)] w (TakesEnd c (n, r, l) K w) := by
  have B3 : Below w.heap.size w (((w.alloc (.cells #[.int .i64 c, .int .i64 n, .string r, .slice A l.length k0] 34)).alloc (.cells #[.int .i64 0, .int .i64 0, .string ⟨#[]⟩, .slice none 0 0] 34)).alloc (.cells #[] 39)) :=
    (((Below.refl _ w).alloc (Nat.le_refl _) _).alloc (by simp) _).alloc (by simp; omega) _
  have P3 := Lib.hid (show Box (((w.alloc (.cells #[.int .i64 c, .int .i64 n, .string r, .slice A l.length k0] 34)).alloc (.cells #[.int .i64 0, .int .i64 0, .string ⟨#[]⟩, .slice none 0 0] 34)).alloc (.cells #[] 39)) w.heap.size (paL c n r (.slice A l.length k0)) from ((Box.made w (paL c n r (.slice A l.length k0)) 34 _ rfl).alloc _).alloc _)
  have R3 := Lib.hid (show Box (((w.alloc (.cells #[.int .i64 c, .int .i64 n, .string r, .slice A l.length k0] 34)).alloc (.cells #[.int .i64 0, .int .i64 0, .string ⟨#[]⟩, .slice none 0 0] 34)).alloc (.cells #[] 39)) (w.heap.size + 1) (paL 0 0 ⟨#[]⟩ (.slice none 0 0)) from (Box.made (w.alloc (.cells (paL c n r (.slice A l.length k0)).toArray 34)) (paL 0 0 ⟨#[]⟩ (.slice none 0 0)) 34 (w.heap.size + 1) (by simp)).alloc _)
  have O3 := Lib.hid (show OwnF (((w.alloc (.cells #[.int .i64 c, .int .i64 n, .string r, .slice A l.length k0] 34)).alloc (.cells #[.int .i64 0, .int .i64 0, .string ⟨#[]⟩, .slice none 0 0] 34)).alloc (.cells #[] 39)) (w.heap.size + 2) (.slice (some ⟨w.heap.size + 2, 0, none⟩) 0 0) [] from by
    have := OwnR.empty (E := 39) (sz := 4) ((w.alloc (.cells #[.int .i64 c, .int .i64 n, .string r, .slice A l.length k0] 34)).alloc (.cells #[.int .i64 0, .int .i64 0, .string ⟨#[]⟩, .slice none 0 0] 34)) (w.heap.size + 2) (by simp)
    rw [show ((w.alloc (.cells #[.int .i64 c, .int .i64 n, .string r, .slice A l.length k0] 34)).alloc (.cells #[.int .i64 0, .int .i64 0, .string ⟨#[]⟩, .slice none 0 0] 34)).heap.size = w.heap.size + 2 by simp] at this
    exact this)
  have Z3 : w.heap.size + 3 = (((w.alloc (.cells #[.int .i64 c, .int .i64 n, .string r, .slice A l.length k0] 34)).alloc (.cells #[.int .i64 0, .int .i64 0, .string ⟨#[]⟩, .slice none 0 0] 34)).alloc (.cells #[] 39)).heap.size := by simp
  have H3 := Lib.hid ((h.more B3).raise B3.size)
  have HB3 := Lib.hid B3
  clear h B3
  obtain ⟨ip, hip, hp0, hp1, hp2⟩ := info_parts info_frm
  have HIP := Lib.hid (And.intro hip (And.intro hp0 (And.intro hp1 hp2)))
  clear hip hp0 hp1 hp2
  go_enter Try.func29, Try.ntmps29
  go_upto_region 2 with fail
  generalize ((w.alloc (.cells #[.int .i64 c, .int .i64 n, .string r, .slice A l.length k0] 34)).alloc (.cells #[.int .i64 0, .int .i64 0, .string ⟨#[]⟩, .slice none 0 0] 34)).alloc (.cells #[] 39) = W3 at *
  obtain ⟨p0, p1, p2, p3⟩ := P3.out.fourP
  have pi := P3.out.ice
  go_wp2_with fail
  refine (take_impl3 c (n, r, l) A k0 hl hr W3 H3.out).mono ?_
  rintro e w4 ⟨A4, c4, rfl, o4, b4⟩
  have hz4 : w.heap.size + 3 ≤ w4.heap.size := by have := b4.size; omega
  have T4 : TL w (w4.alloc (.cells #[.int .i64 0, .int .i64 0, .int .i64 0, .string ⟨#[]⟩] 39)) w4.heap.size (paL c n r (.slice A l.length k0)) (paL 0 0 ⟨#[]⟩ (.slice none 0 0)) (frL 0 0 0 ⟨#[]⟩) (.slice A4 (oneT c (n, r, l)).2.2.length c4) (.slice (some ⟨w.heap.size + 2, 0, none⟩) 0 0) (oneT c (n, r, l)).2.2 [] :=
    ⟨(HB3.out.trans (b4.mono HB3.out.size)).alloc (by omega) _, (P3.out.more b4).alloc _, (R3.out.more b4).alloc _, Box.made w4 (frL 0 0 0 ⟨#[]⟩) _ _ rfl, (o4.lower (by omega)).more ((Below.refl _ _).alloc (Nat.le_refl _) _), OwnR.more (OwnR.more O3.out b4) ((Below.refl _ _).alloc (Nat.le_refl _) _), by omega, fun e => by have := (World.ownsRow.lt o4 _ e).2; omega, fun e => by
      have e2 : w.heap.size + 2 = w4.heap.size := by simpa [Value.ownBlock] using e
      omega⟩
  have T5 := Lib.hid ((T4.putP (paL c (oneT c (n, r, l)).1 (oneT c (n, r, l)).2.1 (.slice A4 (oneT c (n, r, l)).2.2.length c4)) rfl).putX (frC (oneF c (n, r, l))) rfl)
  clear p0 p1 p2 p3 pi
  obtain ⟨p0, p1, p2, p3⟩ := T4.bp.fourP
  have pi := T4.bp.ice
  obtain ⟨f0, f1, f2, f3⟩ := T4.bx.four
  have fi := T4.bx.ice
  have hn1 : w.heap.size ≠ w4.heap.size := by omega
  have hn2 : w4.heap.size ≠ w.heap.size := by omega
  clear T4 P3 R3 O3 H3 o4 b4
  obtain ⟨S1, hS1⟩ : ∃ S1, oneT c (n, r, l) = S1 := ⟨_, rfl⟩
  obtain ⟨F1, hF1⟩ : ∃ F1, oneF c (n, r, l) = F1 := ⟨_, rfl⟩
  obtain ⟨B1, hB1⟩ : ∃ B1, oneB c (n, r, l) = B1 := ⟨_, rfl⟩
  rw [hS1, hF1] at T5
  rw [hS1, hF1, hB1]
  have HS1 := Lib.hid hS1
  have HF1 := Lib.hid hF1
  have HB1 := Lib.hid hB1
  clear hS1 hF1 hB1
  go_upto_region 3 with fail
  have T5' := Lib.hid (show TL w ((((((((((w4.alloc (.cells #[.int .i64 0, .int .i64 0, .int .i64 0, .string ⟨#[]⟩] 39)).setCell ⟨w.heap.size, 0, none⟩ (.int .i64 c)).setCell ⟨w.heap.size, 1, none⟩ (.int .i64 S1.1)).setCell ⟨w.heap.size, 2, none⟩ (.string S1.2.1)).setCell ⟨w.heap.size, 3, none⟩ (.slice A4 S1.2.2.length c4)).setCell ⟨w4.heap.size, 0, none⟩ (.int .i64 F1.1)).setCell ⟨w4.heap.size, 1, none⟩ (.int .i64 F1.2.1)).setCell ⟨w4.heap.size, 2, none⟩ (.int .i64 F1.2.2.1)).setCell ⟨w4.heap.size, 3, none⟩ (.string F1.2.2.2))) w4.heap.size (paL c S1.1 S1.2.1 (.slice A4 S1.2.2.length c4)) (paL 0 0 ⟨#[]⟩ (.slice none 0 0)) (frC F1) (.slice A4 S1.2.2.length c4) (.slice (some ⟨w.heap.size + 2, 0, none⟩) 0 0) S1.2.2 [] from T5.out)
  generalize (((((((((w4.alloc (.cells #[.int .i64 0, .int .i64 0, .int .i64 0, .string ⟨#[]⟩] 39)).setCell ⟨w.heap.size, 0, none⟩ (.int .i64 c)).setCell ⟨w.heap.size, 1, none⟩ (.int .i64 S1.1)).setCell ⟨w.heap.size, 2, none⟩ (.string S1.2.1)).setCell ⟨w.heap.size, 3, none⟩ (.slice A4 S1.2.2.length c4)).setCell ⟨w4.heap.size, 0, none⟩ (.int .i64 F1.1)).setCell ⟨w4.heap.size, 1, none⟩ (.int .i64 F1.2.1)).setCell ⟨w4.heap.size, 2, none⟩ (.int .i64 F1.2.2.1)).setCell ⟨w4.heap.size, 3, none⟩ (.string F1.2.2.2)) = W5 at *
  clear T5 p0 p1 p2 p3 pi f0 f1 f2 f3 fi hn1 hn2
  have hg4 : w.heap.size + 3 ≤ w4.heap.size := hz4
  generalize w4.heap.size = g5 at *
  have HS0 := Lib.hid (show (n, r, l).2.1.size ≤ 1048576 ∧ (n, r, l).2.2.length ≤ 1048576 from ⟨hr, hl⟩)
  obtain ⟨s0, hs0⟩ : ∃ s0 : Pa3, (n, r, l) = s0 := ⟨_, rfl⟩
  rw [hs0] at HS0 HS1 HF1 HB1 hK
  rw [hs0]
  have HS00 := Lib.hid hs0
  clear hs0
  have HK := Lib.hid hK
  have HT5 := Lib.hid (show B1 = oneB c (itT c s0 0) ∧ S1 = itT c s0 1 ∧ F1 = oneF c (itT c s0 0) from ⟨HB1.out.symm, HS1.out.symm, HF1.out.symm⟩)
  clear hK HS1 HF1 HB1
  go_loopg [4, 6] K (fun gh v4 v6 wx => ∃ (k : Nat) (A' : Option Addr) (c' : Nat), k ≤ K ∧ gh = K - k ∧ v6 = .bool (oneB c (itT c s0 k)) ∧ TL w wx g5 (paL c (itT c s0 (k + 1)).1 (itT c s0 (k + 1)).2.1 (.slice A' (itT c s0 (k + 1)).2.2.length c')) (paL 0 0 ⟨#[]⟩ (.slice none 0 0)) (frC (oneF c (itT c s0 k))) (.slice A' (itT c s0 (k + 1)).2.2.length c') v4 (itT c s0 (k + 1)).2.2 (flT c s0 k))
  case atStart =>
    refine ⟨0, A4, c4, by omega, rfl, by rw [HT5.out.1], ?_⟩
    have h := T5'.out
    rw [HT5.out.2.1, HT5.out.2.2] at h
    exact h
  case round =>
    obtain ⟨k, A6, c6, hk, rfl, rfl, hT⟩ := hrel
    have T6 := Lib.hid hT
    obtain ⟨p0, p1, p2, p3⟩ := hT.bp.fourP
    obtain ⟨f0, f1, f2, f3⟩ := hT.bx.four
    clear hT HT5 T5'
    by_cases hlt : k < K
    · have hB : oneB c (itT c s0 k) = true := HK.out.1 k hlt
      rw [hB]
      have hll : (flT c s0 k).length + [frC (oneF c (itT c s0 k))].length ≤ 1099511 := by rw [flT_len]; simp only [List.length_cons, List.length_nil]; omega
      have hlt4 : (itT c s0 (k + 1)).2.1.size ≤ 1048576 ∧ (itT c s0 (k + 1)).2.2.length ≤ 1048576 := ⟨Nat.le_trans (itT_le c s0 (k + 1)).1 HS0.out.1, Nat.le_trans (itT_le c s0 (k + 1)).2 HS0.out.2⟩
      have HLT := Lib.hid hlt4
      have HNX := Lib.hid (show itT c s0 (k + 1 + 1) = oneT c (itT c s0 (k + 1)) from rfl)
      have HFL := Lib.hid (show flT c s0 (k + 1) = flT c s0 k ++ [oneF c (itT c s0 k)] from rfl)
      have HFX := Lib.hid (show itT c s0 (k + 1 + 1) = itT c s0 (k + 1 + 1) from rfl)
      obtain ⟨S8, hS8⟩ : ∃ S8, itT c s0 (k + 1 + 1) = S8 := ⟨_, rfl⟩
      rw [hS8] at HNX
      replace HFX := Lib.hid hS8
      clear hS8
      obtain ⟨fl8, hfl8⟩ : ∃ fl8, flT c s0 (k + 1) = fl8 := ⟨_, rfl⟩
      rw [hfl8] at HFL
      have HF8 := Lib.hid hfl8
      clear hfl8
      obtain ⟨S6, hS6⟩ : ∃ S6, itT c s0 (k + 1) = S6 := ⟨_, rfl⟩
      have HS6 := Lib.hid hS6
      rw [hS6] at T6 p1 p2 p3 HLT HNX
      clear hS6 hlt4 hB
      generalize oneF c (itT c s0 k) = F6 at *
      generalize flT c s0 k = fl6 at *
      have T7 := Lib.hid (T6.out.more ((Below.refl _ _).alloc (Nat.le_refl _) (.cells #[.int .i64 F6.1, .int .i64 F6.2.1, .int .i64 F6.2.2.1, .string F6.2.2.2] 39)))
      have HAT := Lib.hid (show RowsAt (wr.alloc (.cells #[.int .i64 F6.1, .int .i64 F6.2.1, .int .i64 F6.2.2.1, .string F6.2.2.2] 39)) (some ⟨wr.heap.size, 0, none⟩) [frC F6] from .inr ⟨wr.heap.size, 0, rfl, fun j u hu => by
        rw [Nat.zero_add, World.cell?_alloc_at _ _ _ _ rfl]
        simpa using hu⟩)
      have hwz : w.heap.size + 2 ≤ (wr.alloc (.cells #[.int .i64 F6.1, .int .i64 F6.2.1, .int .i64 F6.2.2.1, .string F6.2.2.2] 39)).heap.size := T7.out.far
      go_wp2_with (at_builtin; go_loud (refine app_rows 39 51 4 40 (frV 0 0 0 ⟨#[]⟩) ip _ rfl _ _ rfl Try.underlying51 HIP.out.1 HIP.out.2.1 HIP.out.2.2.1 HIP.out.2.2.2 rfl (by decide) (by decide) (w.heap.size + 2) u4 (fl6.map frC) rfl T7.out.ow (some ⟨wr.heap.size, 0, none⟩) [frC F6] 1 rfl (by intro x hx; rw [List.mem_singleton.1 hx]; rfl) (by intro x hx u hu; rw [List.mem_singleton.1 hx] at hu; simp at hu; rcases hu with rfl | rfl | rfl | rfl <;> rfl) HAT.out (by simpa using hll) hwz ?_))
      intro v8 w8 hown8 hg8 hor8
      have T8 := Lib.hid (T7.out.app (fs' := fl8) (by
        show OwnR _ _ _ _ _ (fl8.map frC)
        rw [HFL.out, List.map_append]
        exact hown8) hg8 (by simpa using hor8))
      clear hown8 hg8 hor8 T7 HAT hwz T6 p0 p1 p2 p3 f0 f1 f2 f3 hll
      obtain ⟨p0, p1, p2, p3⟩ := T8.out.bp.fourP
      go_wp2_with fail
      refine (take_impl3 c S6 A6 c6 HLT.out.2 HLT.out.1 w8 T8.out.oi.ints).mono ?_
      rintro e w9 ⟨A9, c9, rfl, o9, b9⟩
      have T9 := T8.out.fresh b9 o9
      clear p0 p1 p2 p3 o9 b9
      have T9f := Lib.hid ((T9.putP (paL c (oneT c S6).1 (oneT c S6).2.1 (.slice A9 (oneT c S6).2.2.length c9)) rfl).putX (frC (oneF c S6)) rfl)
      obtain ⟨p0, p1, p2, p3⟩ := T9.bp.fourP
      have pi := T9.bp.ice
      obtain ⟨f0, f1, f2, f3⟩ := T9.bx.four
      have fi := T9.bx.ice
      have hn1 : w.heap.size ≠ g5 := by omega
      have hn2 : g5 ≠ w.heap.size := by omega
      clear T9
      rw [← HNX.out] at T9f
      rw [← HNX.out]
      have HBF := Lib.hid (show oneB c S6 = oneB c (itT c s0 (k + 1)) ∧ oneF c S6 = oneF c (itT c s0 (k + 1)) from by rw [HS6.out]; exact ⟨rfl, rfl⟩)
      generalize oneB c S6 = B9 at *
      generalize oneF c S6 = F9 at *
      go_wp2
      go_roundg (K - (k + 1))
      case measure => omega
      case rel =>
        refine ⟨k + 1, A9, c9, by omega, rfl, by rw [HBF.out.1], ?_⟩
        rw [HFX.out, HF8.out, ← HBF.out.2]
        exact T9f.out
    · obtain rfl : k = K := by omega
      have hB : oneB c (itT c s0 k) = false := HK.out.2
      have hE : itT c s0 (k + 1) = itT c s0 k := oneT_no hB
      rw [hE] at T6 p1 p2 p3
      rw [hB]
      have TF := Lib.hid (T6.out.fin (paL c (itT c s0 k).1 (itT c s0 k).2.1 (.slice A6 (itT c s0 k).2.2.length c6)) rfl)
      obtain ⟨r0, r1, r2, r3⟩ := T6.out.br.fourP
      have ri := T6.out.br.ice
      have HEND := Lib.hid (fun W (ho : OwnI W w.heap.size (.slice A6 (itT c s0 k).2.2.length c6) (itT c s0 k).2.2) (hf : OwnF W w.heap.size u4 (flT c s0 k)) (hb : Below w.heap.size w W) => show TakesEnd c s0 k w (.returned (.tuple #[paV c (itT c s0 k).1 (itT c s0 k).2.1 (.slice A6 (itT c s0 k).2.2.length c6), u4])) W from ⟨_, _, rfl, ho, hf, hb⟩)
      clear hE hB T6
      generalize itT c s0 k = S6 at *
      generalize oneF c S6 = F6 at *
      go_wp2
      show bodyPost Try.prog Try.f29 _ Exit.ret _ (wr.setCells (w.heap.size + 1) 0 (paL c S6.1 S6.2.1 (.slice A6 S6.2.2.length c6)))
      generalize wr.setCells (w.heap.size + 1) 0 (paL c S6.1 S6.2.1 (.slice A6 S6.2.2.length c6)) = WE at *
      obtain ⟨b1, ho, hf, hb⟩ := TF.out
      obtain ⟨d0, d1, d2, d3⟩ := b1.fourP
      refine bodyPost_ret_by (v := .tuple #[paV c S6.1 S6.2.1 (.slice A6 S6.2.2.length c6), u4]) ?_ rfl (by rw [HS00.out]; exact HEND.out _ ho hf hb)
      simp [results, Try.f29, go_sem, d0, d1, d2, d3]
end Go.Proofs.Ytegahdlfjdjcaaa
