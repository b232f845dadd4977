/- What this text proves: the parts IPs of the proof, each under its own words. -/
import Derived.Test.YtegahdlfjdjcaaaV41
import Derived.Test.YtegahdlfjdjcaaaV30
import Derived.Deep.LoopGhost
/- What this text proves: the contract of the program's PushFrames. -/
namespace Go.Proofs.Ytegahdlfjdjcaaa
open Go.ChangeShapes Go.WideShapes Go.ChangeAt Go.RowKit
set_option linter.unusedVariables false

/-- What one call answers, in any world. -/
theorem push_impl4 (c : Int) (t : Un4) (f : Fr4) (w : World) :
    Calls Try.prog 67 #[unW c t.1 t.2, frV f.1 f.2.1 f.2.2.1 f.2.2.2] w fun e w' => ∃ A k, e = .returned (.tuple #[unW c (oneS c t f).1 (oneS c t f).2, .slice A (puL c t.1 t.2 f).length k]) ∧ OwnP w' w.heap.size (.slice A (puL c t.1 t.2 f).length k) (puL c t.1 t.2 f) ∧ Below w.heap.size w w' :=
  (push_impl c t.1 t.2.1 t.2.2.1 t.2.2.2 f.1 f.2.1 f.2.2.1 f.2.2.2 w).mono fun e w' hh => by
    obtain ⟨v, h1, h2, h3⟩ := hh
    obtain ⟨A, k, hv⟩ := h2.form
    rw [List.length_map] at hv
    subst hv
    exact ⟨A, k, h1, h2, h3⟩

set_option maxRecDepth 8000 in
set_option maxHeartbeats 8000000 in
theorem pushes_impl (c n : Int) (b : Bool) (r : ByteArray) (l : Int) (fs : List Fr4) (v : Value) (base : Nat) (hT : r.size + totD fs fs.length ≤ 1048576) (hF : fs.length ≤ 1048576) (w : World) (h : OwnF w base v fs) :
    Calls Try.prog 30 #[unV c n b r l, v] w (PushesEnd c (n, b, r, l) fs w) := by
  obtain ⟨A, k0, hv⟩ := h.form
  rw [List.length_map] at hv
  subst hv
  have HA := Lib.hid (fun (k : Nat) (hk : k < fs.length) => show ∃ g, A = some ⟨g, 0, none⟩ ∧ g < w.heap.size ∧ w.cell? ⟨g, k * 4, none⟩ = some (.int .i64 fs[k].1) ∧ w.cell? ⟨g, k * 4 + 1, none⟩ = some (.int .i64 fs[k].2.1) ∧ w.cell? ⟨g, k * 4 + 2, none⟩ = some (.int .i64 fs[k].2.2.1) ∧ w.cell? ⟨g, k * 4 + 3, none⟩ = some (.string fs[k].2.2.2) from by
    obtain ⟨g, cap, h1, _, h2, h3, _⟩ := OwnF.rows h (by omega)
    injection h1 with hA
    exact ⟨g, hA, h2, h3 k hk⟩)
  have T3 := Lib.hid (show TP w (((w.alloc (.cells #[.int .i64 c, .int .i64 n, .bool b, .string r, .int .i64 l] 49)).alloc (.cells #[.int .i64 0, .int .i64 0, .bool false, .string ⟨#[]⟩, .int .i64 0] 49)).alloc (.cells #[] 28)) (unL c n b r l) (unL 0 0 false ⟨#[]⟩ 0) (.slice (some ⟨w.heap.size + 2, 0, none⟩) 0 0) [] from
    ⟨(((Below.refl _ w).alloc (Nat.le_refl _) _).alloc (by simp) _).alloc (by simp; omega) _, ((Box.made w (unL c n b r l) 49 _ rfl).alloc _).alloc _,
     (Box.made (w.alloc (.cells (unL c n b r l).toArray 49)) (unL 0 0 false ⟨#[]⟩ 0) 49 (w.heap.size + 1) (by simp)).alloc _, by
      have h := OwnR.empty (E := 28) (sz := 3) ((w.alloc (.cells #[.int .i64 c, .int .i64 n, .bool b, .string r, .int .i64 l] 49)).alloc (.cells #[.int .i64 0, .int .i64 0, .bool false, .string ⟨#[]⟩, .int .i64 0] 49)) (w.heap.size + 2) (by simp)
      rw [show ((w.alloc (.cells #[.int .i64 c, .int .i64 n, .bool b, .string r, .int .i64 l] 49)).alloc (.cells #[.int .i64 0, .int .i64 0, .bool false, .string ⟨#[]⟩, .int .i64 0] 49)).heap.size = w.heap.size + 2 by simp] at h
      exact h⟩)
  clear h
  obtain ⟨ip, hip, hp0, hp1, hp2⟩ := info_parts info_pkt
  have HIP := Lib.hid (And.intro hip (And.intro hp0 (And.intro hp1 hp2)))
  clear hip hp0 hp1 hp2
  have HLN := Lib.hid (fun (k : Nat) (hk : k < fs.length) => show (plP c (n, b, r, l) fs k).length + (puL c (stP c (n, b, r, l) fs k).1 (stP c (n, b, r, l) fs k).2 (fs.getD k fr0)).length ≤ 1048576 from by
    have h1 := plP_len c (n, b, r, l) fs (k + 1)
    have h2 := totD_le fs (show k + 1 ≤ fs.length from hk)
    simp only [plP, List.length_append] at h1
    have h3 : (n, b, r, l).2.2.1.size = r.size := rfl
    omega)
  clear hT
  obtain ⟨t0, ht0⟩ : ∃ t0 : Un4, (n, b, r, l) = t0 := ⟨_, rfl⟩
  rw [ht0] at HLN
  have HT3 := Lib.hid (show TP w (((w.alloc (.cells #[.int .i64 c, .int .i64 n, .bool b, .string r, .int .i64 l] 49)).alloc (.cells #[.int .i64 0, .int .i64 0, .bool false, .string ⟨#[]⟩, .int .i64 0] 49)).alloc (.cells #[] 28)) (unL c t0.1 t0.2.1 t0.2.2.1 t0.2.2.2) (unL 0 0 false ⟨#[]⟩ 0) (.slice (some ⟨w.heap.size + 2, 0, none⟩) 0 0) [] from by rw [← ht0]; exact T3.out)
  have HT0 := Lib.hid ht0
  clear ht0 T3
  go_enter Try.func30, Try.ntmps30
  go_upto_region 3 with fail
  generalize ((w.alloc (.cells #[.int .i64 c, .int .i64 n, .bool b, .string r, .int .i64 l] 49)).alloc (.cells #[.int .i64 0, .int .i64 0, .bool false, .string ⟨#[]⟩, .int .i64 0] 49)).alloc (.cells #[] 28) = W3 at *
  go_loopg [6, 14] fs.length (fun gh v6 v14 wx => ∃ k : Nat, k ≤ fs.length ∧ gh = fs.length - k ∧ v14 = .int .i64 (k : Int) ∧ TP w wx (unL c (stP c t0 fs k).1 (stP c t0 fs k).2.1 (stP c t0 fs k).2.2.1 (stP c t0 fs k).2.2.2) (unL 0 0 false ⟨#[]⟩ 0) v6 (plP c t0 fs k))
  case atStart => exact ⟨0, by omega, rfl, rfl, HT3.out⟩
  case round =>
    obtain ⟨k, hk, rfl, rfl, hT⟩ := hrel
    have T4 := Lib.hid hT
    obtain ⟨p0, p1, p2, p3, p4⟩ := hT.bp.five
    clear hT HT3
    by_cases hlt : k < fs.length
    · have hd : decide (k < fs.length) = true := by simp; omega
      obtain ⟨g, hA, hg, d0, d1, d2, d3⟩ := HA.out k hlt
      subst hA
      have c0 := (T4.out.below.cell (p := ⟨g, k * 4, none⟩) hg).trans d0
      have c1 := (T4.out.below.cell (p := ⟨g, k * 4 + 1, none⟩) hg).trans d1
      have c2 := (T4.out.below.cell (p := ⟨g, k * 4 + 2, none⟩) hg).trans d2
      have c3 := (T4.out.below.cell (p := ⟨g, k * 4 + 3, none⟩) hg).trans d3
      have hll := HLN.out k hlt
      rw [getD_at hlt] at hll
      have HNX := Lib.hid (show stP c t0 fs (k + 1) = oneS c (stP c t0 fs k) fs[k] from by rw [← getD_at hlt]; rfl)
      have HPL := Lib.hid (show plP c t0 fs (k + 1) = plP c t0 fs k ++ puL c (stP c t0 fs k).1 (stP c t0 fs k).2 fs[k] from by rw [← getD_at hlt]; rfl)
      clear d0 d1 d2 d3
      generalize fs[k] = F at *
      obtain ⟨S8, hS8⟩ : ∃ S8, stP c t0 fs (k + 1) = S8 := ⟨_, rfl⟩
      obtain ⟨P8, hP8⟩ : ∃ P8, plP c t0 fs (k + 1) = P8 := ⟨_, rfl⟩
      rw [hS8] at HNX
      rw [hP8] at HPL
      have HS8 := Lib.hid hS8
      have HP8 := Lib.hid hP8
      clear hS8 hP8
      generalize stP c t0 fs k = S4 at *
      generalize plP c t0 fs k = P4 at *
      have HPU := Lib.hid (fun W => push_impl4 c S4 F W)
      rw [← HNX.out] at HPU
      generalize puL c S4.1 S4.2 F = L4 at *
      have T5 := Lib.hid (T4.out.more ((Below.refl _ _).alloc (Nat.le_refl _) (.cells #[.int .i64 F.1, .int .i64 F.2.1, .int .i64 F.2.2.1, .string F.2.2.2] 39)))
      have X5 := Lib.hid (show Box (wr.alloc (.cells #[.int .i64 F.1, .int .i64 F.2.1, .int .i64 F.2.2.1, .string F.2.2.2] 39)) wr.heap.size (frC F) from Box.made wr (frC F) _ _ rfl)
      go_upto_region 5 with fail
      clear c0 c1 c2 c3 p0 p1 p2 p3 p4 T4
      generalize wr.alloc (.cells #[.int .i64 F.1, .int .i64 F.2.1, .int .i64 F.2.2.1, .string F.2.2.2] 39) = W5 at *
      generalize wr.heap.size = g5 at *
      obtain ⟨p0, p1, p2, p3, p4⟩ := T5.out.bp.five
      obtain ⟨x0, x1, x2, x3⟩ := X5.out.four
      go_wp2_with fail
      refine (HPU.out _).mono ?_
      rintro e w6 ⟨A6, c6, rfl, o6, b6⟩
      have T7 := Lib.hid ((T5.out.more b6).more ((Below.refl _ _).alloc (Nat.le_refl _) (.cells #[.int .i64 c, .int .i64 S8.1, .bool S8.2.1, .string S8.2.2.1, .int .i64 S8.2.2.2] 49)))
      have X7 := Lib.hid (show Box (w6.alloc (.cells #[.int .i64 c, .int .i64 S8.1, .bool S8.2.1, .string S8.2.2.1, .int .i64 S8.2.2.2] 49)) w6.heap.size (unL c S8.1 S8.2.1 S8.2.2.1 S8.2.2.2) from Box.made w6 (unL c S8.1 S8.2.1 S8.2.2.1 S8.2.2.2) _ _ rfl)
      have O7 := Lib.hid (show OwnP (w6.alloc (.cells #[.int .i64 c, .int .i64 S8.1, .bool S8.2.1, .string S8.2.2.1, .int .i64 S8.2.2.2] 49)) W5.heap.size (.slice A6 L4.length c6) L4 from OwnR.more o6 ((Below.refl _ _).alloc (Nat.le_refl _) _))
      have hfar := T5.out.far
      clear b6 o6 p0 p1 p2 p3 p4 x0 x1 x2 x3 T5 X5
      go_upto_region 6 with fail
      generalize w6.alloc (.cells #[.int .i64 c, .int .i64 S8.1, .bool S8.2.1, .string S8.2.2.1, .int .i64 S8.2.2.2] 49) = W7 at *
      generalize w6.heap.size = g7 at *
      obtain ⟨p0, p1, p2, p3, p4⟩ := T7.out.bp.five
      have pi := T7.out.bp.ice
      obtain ⟨x0, x1, x2, x3, x4⟩ := X7.out.five
      have T8 := Lib.hid (show TP w (((((W7.setCell ⟨w.heap.size, 0, none⟩ (.int .i64 c)).setCell ⟨w.heap.size, 1, none⟩ (.int .i64 S8.1)).setCell ⟨w.heap.size, 2, none⟩ (.bool S8.2.1)).setCell ⟨w.heap.size, 3, none⟩ (.string S8.2.2.1)).setCell ⟨w.heap.size, 4, none⟩ (.int .i64 S8.2.2.2)) (unL c S8.1 S8.2.1 S8.2.2.1 S8.2.2.2) (unL 0 0 false ⟨#[]⟩ 0) u6 P4 from T7.out.putP (unL c S8.1 S8.2.1 S8.2.2.1 S8.2.2.2) rfl)
      have O8 := Lib.hid (show OwnP (((((W7.setCell ⟨w.heap.size, 0, none⟩ (.int .i64 c)).setCell ⟨w.heap.size, 1, none⟩ (.int .i64 S8.1)).setCell ⟨w.heap.size, 2, none⟩ (.bool S8.2.1)).setCell ⟨w.heap.size, 3, none⟩ (.string S8.2.2.1)).setCell ⟨w.heap.size, 4, none⟩ (.int .i64 S8.2.2.2)) W5.heap.size (.slice A6 L4.length c6) L4 from OwnR.cellsAway (fun e => by have := (OwnR.upto O7.out _ e).1; omega) (unL c S8.1 S8.2.1 S8.2.2.1 S8.2.2.2) 0 _ O7.out)
      clear T7 O7 X7
      go_upto_region 7 with fail
      clear p0 p1 p2 p3 p4 pi x0 x1 x2 x3 x4
      generalize ((((W7.setCell ⟨w.heap.size, 0, none⟩ (.int .i64 c)).setCell ⟨w.heap.size, 1, none⟩ (.int .i64 S8.1)).setCell ⟨w.heap.size, 2, none⟩ (.bool S8.2.1)).setCell ⟨w.heap.size, 3, none⟩ (.string S8.2.2.1)).setCell ⟨w.heap.size, 4, none⟩ (.int .i64 S8.2.2.2) = W8 at *
      have HAT := Lib.hid (show RowsAt W8 A6 (L4.map pkC) from by
        have := O8.out
        exact OwnR.at this)
      have hwz : w.heap.size + 2 ≤ W8.heap.size := T8.out.far
      have hll2 : (P4.map pkC).length + (L4.map pkC).length ≤ 1099511 := by simp only [List.length_map]; omega
      have hone : ∀ x ∈ L4.map pkC, x.length = 3 ∧ ∀ u ∈ x, u.oneCell' = true := by
        intro x hx
        obtain ⟨q, _, rfl⟩ := List.mem_map.1 hx
        refine ⟨rfl, fun u hu => ?_⟩
        simp at hu
        rcases hu with rfl | rfl | rfl <;> rfl
      go_wp2_with (at_builtin; go_loud (refine app_rows 28 24 3 32 (pkV 0 0 ⟨#[]⟩) ip _ rfl _ _ rfl Try.underlying24 HIP.out.1 HIP.out.2.1 HIP.out.2.2.1 HIP.out.2.2.2 rfl (by decide) (by decide) (w.heap.size + 2) u6 (P4.map pkC) rfl T8.out.ow A6 (L4.map pkC) c6 (by rw [List.length_map]; rfl) (fun x hx => (hone x hx).1) (fun x hx => (hone x hx).2) HAT.out hll2 hwz ?_))
      intro v9 w9 hown9 hg9 hor9
      have T9 := Lib.hid (T8.out.app (ps' := P8) (by
        show OwnR _ _ _ _ _ (P8.map pkC)
        rw [HPL.out, List.map_append]
        exact hown9) hg9)
      clear hown9 hg9 hor9 T8 O8 HAT hwz hll2 hone
      go_wp2
      go_roundg (fs.length - (k + 1))
      case measure => omega
      case rel =>
        refine ⟨k + 1, by omega, rfl, by go_num, ?_⟩
        rw [HS8.out, HP8.out]
        exact T9.out
    · have hd : decide (k < fs.length) = false := by simp; omega
      obtain rfl : k = fs.length := by omega
      have TF := Lib.hid (T4.out.fin (unL c (stP c t0 fs fs.length).1 (stP c t0 fs fs.length).2.1 (stP c t0 fs fs.length).2.2.1 (stP c t0 fs fs.length).2.2.2) rfl)
      obtain ⟨r0, r1, r2, r3, r4⟩ := T4.out.br.five
      have ri := T4.out.br.ice
      have HEND := Lib.hid (fun W (ho : OwnP W w.heap.size u6 (plP c t0 fs fs.length)) (hb : Below w.heap.size w W) => show PushesEnd c t0 fs w (.returned (.tuple #[unW c (stP c t0 fs fs.length).1 (stP c t0 fs fs.length).2, u6])) W from ⟨_, rfl, ho, hb⟩)
      clear T4 hlt
      generalize stP c t0 fs fs.length = S4 at *
      go_wp2
      show bodyPost Try.prog Try.f30 _ Exit.ret _ (wr.setCells (w.heap.size + 1) 0 (unL c S4.1 S4.2.1 S4.2.2.1 S4.2.2.2))
      generalize wr.setCells (w.heap.size + 1) 0 (unL c S4.1 S4.2.1 S4.2.2.1 S4.2.2.2) = WE at *
      obtain ⟨b1, ho, hb⟩ := TF.out
      obtain ⟨d0, d1, d2, d3, d4⟩ := b1.five
      refine bodyPost_ret_by (v := .tuple #[unW c S4.1 S4.2, u6]) ?_ rfl (by rw [HT0.out]; exact HEND.out _ ho hb)
      simp [results, Try.f30, go_sem, d0, d1, d2, d3, d4]
end Go.Proofs.Ytegahdlfjdjcaaa
