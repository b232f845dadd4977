/- What this text proves: the contract of the model's TakeFrames. -/
import Derived.Test.YtcjeaahlhfoccabSTf
import Derived.Test.YtcjeaahlhfoccabTakN
import Derived.Test.YtcjeaahlhfoccabIPu3
import Derived.Deep.LoopGhost
namespace Go.Proofs.Ytcjeaahlhfoccab
open Go.ChangeShapes Go.WideShapes Go.ChangeAt Go.RowKit
set_option linter.unusedVariables false

/-- What one call answers, in any world. -/
theorem take_spec3 (c : Int) (s : Pa3) (A : Option Addr) (k0 : Nat) (hl : s.2.2.length ≤ 1048576) (hr : s.2.1.size ≤ 1048576) (w : World) (h : IntsAt w w.heap.size A s.2.2) :
    Calls Try.prog 22 #[paV c s.1 s.2.1 (.slice A s.2.2.length k0)] w fun e w' => ∃ A' c', e = .returned (.tuple #[paV c (oneT c s).1 (oneT c s).2.1 (.slice A' (oneT c s).2.2.length c'), frW (oneF c s), .bool (oneB c s)]) ∧ OwnI w' w.heap.size (.slice A' (oneT c s).2.2.length c') (oneT c s).2.2 ∧ Below w.heap.size w w' :=
  (take_spec c s.1 s.2.1 A s.2.2 k0 hl hr w h).mono fun e w' hh => by
    obtain ⟨v, h1, h2, h3⟩ := hh
    obtain ⟨A', c', rfl⟩ := h2.form
    exact ⟨A', c', h1, h2, h3⟩

set_option maxRecDepth 8000 in
set_option maxHeartbeats 8000000 in
theorem takes_spec (c n : Int) (r : ByteArray) (A : Option Addr) (l : List Int) (k0 K : Nat) (hl : l.length ≤ 1048576) (hr : r.size ≤ 1048576) (hK : Runs c (n, r, l) K) (hKb : K ≤ 1000000) (w : World) (h : IntsAt w w.heap.size A l) :
    Calls Try.prog 25 #[paV c n r (.slice A l.length k0)] w (TakesEnd c (n, r, l) K w) := by
  have B3 : Below w.heap.size w ((w.alloc (.cells #[.int .i64 c, .int .i64 n, .string r, .slice A l.length k0] 29)).alloc (.cells #[.int .i64 0, .int .i64 0, .string ⟨#[]⟩, .slice none 0 0] 29)) :=
    ((Below.refl _ w).alloc (Nat.le_refl _) _).alloc (by simp) _
  have P3 := Lib.hid (show Box ((w.alloc (.cells #[.int .i64 c, .int .i64 n, .string r, .slice A l.length k0] 29)).alloc (.cells #[.int .i64 0, .int .i64 0, .string ⟨#[]⟩, .slice none 0 0] 29)) w.heap.size (paL c n r (.slice A l.length k0)) from (Box.made w (paL c n r (.slice A l.length k0)) 29 _ rfl).alloc _)
  have R3 := Lib.hid (show Box ((w.alloc (.cells #[.int .i64 c, .int .i64 n, .string r, .slice A l.length k0] 29)).alloc (.cells #[.int .i64 0, .int .i64 0, .string ⟨#[]⟩, .slice none 0 0] 29)) (w.heap.size + 1) (paL 0 0 ⟨#[]⟩ (.slice none 0 0)) from Box.made (w.alloc (.cells (paL c n r (.slice A l.length k0)).toArray 29)) (paL 0 0 ⟨#[]⟩ (.slice none 0 0)) 29 (w.heap.size + 1) (by simp))
  have Z3 : w.heap.size + 2 = ((w.alloc (.cells #[.int .i64 c, .int .i64 n, .string r, .slice A l.length k0] 29)).alloc (.cells #[.int .i64 0, .int .i64 0, .string ⟨#[]⟩, .slice none 0 0] 29)).heap.size := by simp
  have H3 := Lib.hid ((h.more B3).raise B3.size)
  have HB3 := Lib.hid B3
  clear h B3
  obtain ⟨ip, hip, hp0, hp1, hp2⟩ := info_parts info_frm
  have HIP := Lib.hid (And.intro hip (And.intro hp0 (And.intro hp1 hp2)))
  clear hip hp0 hp1 hp2
  go_enter Try.func25, Try.ntmps25
  go_upto_region 1 with fail
  generalize (w.alloc (.cells #[.int .i64 c, .int .i64 n, .string r, .slice A l.length k0] 29)).alloc (.cells #[.int .i64 0, .int .i64 0, .string ⟨#[]⟩, .slice none 0 0] 29) = W3 at *
  obtain ⟨p0, p1, p2, p3⟩ := P3.out.fourP
  have pi := P3.out.ice
  go_wp2_with fail
  refine (copy_pak c n r A l k0 (by omega) W3 H3.out).mono ?_
  rintro e w4 ⟨v4, rfl, o4, b4⟩
  obtain ⟨A4, c4, rfl⟩ := o4.form
  have hz4 : w.heap.size + 2 ≤ w4.heap.size := by have := b4.size; omega
  have T5 := Lib.hid (show TL w ((w4.alloc (.cells #[.int .i64 c, .int .i64 n, .string r, .slice A4 l.length c4] 29)).alloc (.cells #[] 41)) w4.heap.size (paL c n r (.slice A l.length k0)) (paL 0 0 ⟨#[]⟩ (.slice none 0 0)) (paL c n r (.slice A4 l.length c4)) (.slice A4 l.length c4) (.slice (some ⟨w4.heap.size + 1, 0, none⟩) 0 0) l [] from
    ⟨((HB3.out.trans (b4.mono HB3.out.size)).alloc (by omega) _).alloc (by simp; omega) _, ((P3.out.more b4).alloc _).alloc _, ((R3.out.more b4).alloc _).alloc _, (Box.made w4 (paL c n r (.slice A4 l.length c4)) _ _ rfl).alloc _, ((o4.lower (by omega)).more ((Below.refl _ _).alloc (Nat.le_refl _) _)).more ((Below.refl _ _).alloc (Nat.le_refl _) _), by
      have h := OwnR.empty (E := 41) (sz := 4) (w4.alloc (.cells #[.int .i64 c, .int .i64 n, .string r, .slice A4 l.length c4] 29)) (w.heap.size + 2) (by simp; omega)
      rw [show (w4.alloc (.cells #[.int .i64 c, .int .i64 n, .string r, .slice A4 l.length c4] 29)).heap.size = w4.heap.size + 1 by simp] at h
      exact h, by omega, fun e => by have := (World.ownsRow.lt o4 _ e).2; omega, fun e => by
      simp [Value.ownBlock] at e⟩)
  clear p0 p1 p2 p3 pi P3 R3 H3 o4 b4 Z3
  go_upto_region 3 with fail
  generalize (w4.alloc (.cells #[.int .i64 c, .int .i64 n, .string r, .slice A4 l.length c4] 29)).alloc (.cells #[] 41) = W5 at *
  generalize w4.heap.size = g5 at *
  have HS0 := Lib.hid (show (n, r, l).2.1.size ≤ 1048576 ∧ (n, r, l).2.2.length ≤ 1048576 from ⟨hr, hl⟩)
  have HT5 := Lib.hid (show ∃ A' c', TL w W5 g5 (paL c n r (.slice A l.length k0)) (paL 0 0 ⟨#[]⟩ (.slice none 0 0)) (paL c (n, r, l).1 (n, r, l).2.1 (.slice A' (n, r, l).2.2.length c')) (.slice A' (n, r, l).2.2.length c') (.slice (some ⟨g5 + 1, 0, none⟩) 0 0) (n, r, l).2.2 [] from ⟨A4, c4, T5.out⟩)
  clear T5
  obtain ⟨s0, hs0⟩ : ∃ s0 : Pa3, (n, r, l) = s0 := ⟨_, rfl⟩
  rw [hs0] at HS0 HT5 hK
  rw [hs0]
  have HS00 := Lib.hid hs0
  clear hs0
  have HK := Lib.hid hK
  clear hK
  go_loopg [5] K (fun gh v5 wx => ∃ (k : Nat) (A' : Option Addr) (c' : Nat), k ≤ K ∧ gh = K - k ∧ TL w wx g5 (paL c n r (.slice A l.length k0)) (paL 0 0 ⟨#[]⟩ (.slice none 0 0)) (paL c (itT c s0 k).1 (itT c s0 k).2.1 (.slice A' (itT c s0 k).2.2.length c')) (.slice A' (itT c s0 k).2.2.length c') v5 (itT c s0 k).2.2 (flT c s0 k))
  case atStart =>
    obtain ⟨A', c', h⟩ := HT5.out
    exact ⟨0, A', c', by omega, rfl, h⟩
  case round =>
    obtain ⟨k, A6, c6, hk, rfl, hT⟩ := hrel
    have T6 := Lib.hid hT
    obtain ⟨f0, f1, f2, f3⟩ := hT.bx.fourP
    clear hT HT5
    have HLT := Lib.hid (show (itT c s0 k).2.1.size ≤ 1048576 ∧ (itT c s0 k).2.2.length ≤ 1048576 from ⟨Nat.le_trans (itT_le c s0 k).1 HS0.out.1, Nat.le_trans (itT_le c s0 k).2 HS0.out.2⟩)
    have HNX := Lib.hid (show itT c s0 (k + 1) = oneT c (itT c s0 k) from rfl)
    have HFL := Lib.hid (show flT c s0 (k + 1) = flT c s0 k ++ [oneF c (itT c s0 k)] from rfl)
    have hll : (flT c s0 k).length + [frC (oneF c (itT c s0 k))].length ≤ 1099511 := by rw [flT_len]; simp only [List.length_cons, List.length_nil]; omega
    by_cases hlt : k < K
    case' pos => have hB : oneB c (itT c s0 k) = true := HK.out.1 k hlt
    case' neg =>
      obtain rfl : k = K := by omega
      have hB : oneB c (itT c s0 k) = false := HK.out.2
      have HEND := Lib.hid (fun W (ho : OwnI W w.heap.size (.slice A6 (itT c s0 k).2.2.length c6) (itT c s0 k).2.2) (hf : OwnF W w.heap.size u5 (flT c s0 k)) (hb : Below w.heap.size w W) => show TakesEnd c s0 k w (.returned (.tuple #[paV c (itT c s0 k).1 (itT c s0 k).2.1 (.slice A6 (itT c s0 k).2.2.length c6), u5])) W from ⟨_, _, rfl, ho, hf, hb⟩)
    all_goals
      have HT3 := Lib.hid (take_spec3 c (itT c s0 k) A6 c6 HLT.out.2 HLT.out.1 wr T6.out.oi.ints)
      rw [hB] at HT3
      clear hB HLT
      obtain ⟨S8, hS8⟩ : ∃ S8, itT c s0 (k + 1) = S8 := ⟨_, rfl⟩
      have HFX := Lib.hid hS8
      rw [← HNX.out, hS8] at HT3
      obtain ⟨fl8, hfl8⟩ : ∃ fl8, flT c s0 (k + 1) = fl8 := ⟨_, rfl⟩
      rw [hfl8] at HFL
      have HF8 := Lib.hid hfl8
      clear hfl8 hS8 HNX
      generalize oneF c (itT c s0 k) = F6 at *
      generalize itT c s0 k = S6 at *
      generalize flT c s0 k = fl6 at *
      go_wp2_with fail
      refine HT3.out.mono ?_
      rintro e w7 ⟨A9, c9, rfl, o7, b7⟩
      have T7 := Lib.hid (((T6.out.more b7).more ((Below.refl _ _).alloc (Nat.le_refl _) (.cells #[.int .i64 c, .int .i64 S8.1, .string S8.2.1, .slice A9 S8.2.2.length c9] 29))).more ((Below.refl _ _).alloc (Nat.le_refl _) (.cells #[.int .i64 F6.1, .int .i64 F6.2.1, .int .i64 F6.2.2.1, .string F6.2.2.2] 41)))
      have X7 := Lib.hid (show Box ((w7.alloc (.cells #[.int .i64 c, .int .i64 S8.1, .string S8.2.1, .slice A9 S8.2.2.length c9] 29)).alloc (.cells #[.int .i64 F6.1, .int .i64 F6.2.1, .int .i64 F6.2.2.1, .string F6.2.2.2] 41)) w7.heap.size (paL c S8.1 S8.2.1 (.slice A9 S8.2.2.length c9)) from (Box.made w7 (paL c S8.1 S8.2.1 (.slice A9 S8.2.2.length c9)) 29 _ rfl).alloc _)
      have Y7 := Lib.hid (show Box ((w7.alloc (.cells #[.int .i64 c, .int .i64 S8.1, .string S8.2.1, .slice A9 S8.2.2.length c9] 29)).alloc (.cells #[.int .i64 F6.1, .int .i64 F6.2.1, .int .i64 F6.2.2.1, .string F6.2.2.2] 41)) (w7.heap.size + 1) (frC F6) from Box.made (w7.alloc (.cells (paL c S8.1 S8.2.1 (.slice A9 S8.2.2.length c9)).toArray 29)) (frC F6) 41 _ (by simp))
      have O7 := Lib.hid (show OwnI ((w7.alloc (.cells #[.int .i64 c, .int .i64 S8.1, .string S8.2.1, .slice A9 S8.2.2.length c9] 29)).alloc (.cells #[.int .i64 F6.1, .int .i64 F6.2.1, .int .i64 F6.2.2.1, .string F6.2.2.2] 41)) (w.heap.size + 2) (.slice A9 S8.2.2.length c9) S8.2.2 ∧ (Value.slice A9 S8.2.2.length c9).ownBlock ≠ some g5 from
        ⟨((o7.lower T6.out.far).more ((Below.refl _ _).alloc (Nat.le_refl _) _)).more ((Below.refl _ _).alloc (Nat.le_refl _) _), fun e => by have := (World.ownsRow.lt o7 _ e).1; have := T6.out.bx.lt; omega⟩)
      have hg57 : g5 ≠ w7.heap.size ∧ g5 ≠ w7.heap.size + 1 := by have := (T6.out.more b7).bx.lt; omega
      clear f0 f1 f2 f3 b7 o7 T6 HT3
      go_upto_region 4 with fail
      generalize (w7.alloc (.cells #[.int .i64 c, .int .i64 S8.1, .string S8.2.1, .slice A9 S8.2.2.length c9] 29)).alloc (.cells #[.int .i64 F6.1, .int .i64 F6.2.1, .int .i64 F6.2.2.1, .string F6.2.2.2] 41) = W8 at *
      generalize w7.heap.size = g7 at *
    · obtain ⟨q0, q1, q2, q3⟩ := T7.out.bx.fourP
      obtain ⟨r0, r1, r2, r3⟩ := T7.out.br.fourP
      have ri := T7.out.br.ice
      have TF := Lib.hid (T7.out.fin (paL c S6.1 S6.2.1 (.slice A6 S6.2.2.length c6)) rfl)
      clear T7 X7 Y7 O7
      go_wp2
      show bodyPost Try.prog Try.f25 _ Exit.ret _ (W8.setCells (w.heap.size + 1) 0 (paL c S6.1 S6.2.1 (.slice A6 S6.2.2.length c6)))
      generalize W8.setCells (w.heap.size + 1) 0 (paL c S6.1 S6.2.1 (.slice A6 S6.2.2.length c6)) = WE at *
      obtain ⟨b1, ho, hf, hb⟩ := TF.out
      obtain ⟨d0, d1, d2, d3⟩ := b1.fourP
      refine bodyPost_ret_by (v := .tuple #[paV c S6.1 S6.2.1 (.slice A6 S6.2.2.length c6), u5]) ?_ rfl (by first | exact HEND.out _ ho hf hb | (rw [HS00.out]; exact HEND.out _ ho hf hb))
      simp [results, Try.f25, go_sem, d0, d1, d2, d3]
    · obtain ⟨x0, x1, x2, x3⟩ := X7.out.fourP
      obtain ⟨q0, q1, q2, q3⟩ := T7.out.bx.fourP
      have qi := T7.out.bx.ice
      have h := T7.out.putX (paL c S8.1 S8.2.1 (.slice A9 S8.2.2.length c9)) rfl
      have T9 := Lib.hid (show TL w (W8.setCells g5 0 (paL c S8.1 S8.2.1 (.slice A9 S8.2.2.length c9))) g5 (paL c n r (.slice A l.length k0)) (paL 0 0 ⟨#[]⟩ (.slice none 0 0)) (paL c S8.1 S8.2.1 (.slice A9 S8.2.2.length c9)) (.slice A9 S8.2.2.length c9) u5 S8.2.2 fl6 from
        ⟨h.below, h.bp, h.br, h.bx, O7.out.1.cellsAway O7.out.2 _, h.ow, h.fx, O7.out.2, h.no⟩)
      have Y9 := Lib.hid (Box.allOther (W := W8) hg57.2 (paL c S8.1 S8.2.1 (.slice A9 S8.2.2.length c9)) 0 _ Y7.out)
      clear h T7 X7 Y7 O7
      go_upto_region 7 with fail
      have T9' := Lib.hid (show TL w ((((W8.setCell ⟨g5, 0, none⟩ (.int .i64 c)).setCell ⟨g5, 1, none⟩ (.int .i64 S8.1)).setCell ⟨g5, 2, none⟩ (.string S8.2.1)).setCell ⟨g5, 3, none⟩ (.slice A9 S8.2.2.length c9)) g5 (paL c n r (.slice A l.length k0)) (paL 0 0 ⟨#[]⟩ (.slice none 0 0)) (paL c S8.1 S8.2.1 (.slice A9 S8.2.2.length c9)) (.slice A9 S8.2.2.length c9) u5 S8.2.2 fl6 from T9.out)
      have Y9' := Lib.hid (show Box ((((W8.setCell ⟨g5, 0, none⟩ (.int .i64 c)).setCell ⟨g5, 1, none⟩ (.int .i64 S8.1)).setCell ⟨g5, 2, none⟩ (.string S8.2.1)).setCell ⟨g5, 3, none⟩ (.slice A9 S8.2.2.length c9)) (g7 + 1) (frC F6) from Y9.out)
      clear T9 Y9 x0 x1 x2 x3 q0 q1 q2 q3 qi
      generalize (((W8.setCell ⟨g5, 0, none⟩ (.int .i64 c)).setCell ⟨g5, 1, none⟩ (.int .i64 S8.1)).setCell ⟨g5, 2, none⟩ (.string S8.2.1)).setCell ⟨g5, 3, none⟩ (.slice A9 S8.2.2.length c9) = W9 at *
      obtain ⟨y0, y1, y2, y3⟩ := Y9'.out.four
      have T10 := Lib.hid (T9'.out.more ((Below.refl _ _).alloc (Nat.le_refl _) (.cells #[.int .i64 F6.1, .int .i64 F6.2.1, .int .i64 F6.2.2.1, .string F6.2.2.2] 41)))
      have HAT := Lib.hid (show RowsAt (W9.alloc (.cells #[.int .i64 F6.1, .int .i64 F6.2.1, .int .i64 F6.2.2.1, .string F6.2.2.2] 41)) (some ⟨W9.heap.size, 0, none⟩) [frC F6] from .inr ⟨W9.heap.size, 0, rfl, fun j u hu => by
        rw [Nat.zero_add, World.cell?_alloc_at _ _ _ _ rfl]
        simpa using hu⟩)
      have hwz : w.heap.size + 2 ≤ (W9.alloc (.cells #[.int .i64 F6.1, .int .i64 F6.2.1, .int .i64 F6.2.2.1, .string F6.2.2.2] 41)).heap.size := T10.out.far
      go_wp2_with (at_builtin; go_loud (refine app_rows 41 45 4 40 (frV 0 0 0 ⟨#[]⟩) ip _ rfl _ _ rfl Try.underlying45 HIP.out.1 HIP.out.2.1 HIP.out.2.2.1 HIP.out.2.2.2 rfl (by decide) (by decide) (w.heap.size + 2) u5 (fl6.map frC) rfl T10.out.ow (some ⟨W9.heap.size, 0, none⟩) [frC F6] 1 rfl (by intro x hx; rw [List.mem_singleton.1 hx]; rfl) (by intro x hx u hu; rw [List.mem_singleton.1 hx] at hu; simp at hu; rcases hu with rfl | rfl | rfl | rfl <;> rfl) HAT.out (by simpa using hll) hwz ?_))
      intro v8 w8 hown8 hg8 hor8
      have T11 := Lib.hid (T10.out.app (fs' := fl8) (by
        show OwnR _ _ _ _ _ (fl8.map frC)
        rw [HFL.out, List.map_append]
        exact hown8) hg8 (by simpa using hor8))
      clear hown8 hg8 hor8 T10 HAT hwz T9' Y9' y0 y1 y2 y3 hll
      go_wp2
      go_roundg (K - (k + 1))
      case measure => omega
      case rel =>
        refine ⟨k + 1, A9, c9, by omega, rfl, ?_⟩
        rw [HFX.out, HF8.out]
        exact T11.out
end Go.Proofs.Ytcjeaahlhfoccab
