/- What this text proves: the parts IPf of the proof, each under its own words. -/
import Derived.Test.YtegahdlfjdjcaaaV25
import Derived.Test.YtegahdlfjdjcaaaV19
/- What this text proves: the contract of the program's FillPacker. -/
namespace Go.Proofs.Ytegahdlfjdjcaaa
open Go.ChangeShapes Go.WideShapes Go.ChangeAt Go.RowKit
set_option linter.unusedVariables false

theorem zeros_size (k : Nat) : (zerosT k).size = k := by show (List.replicate k (0 : UInt8)).toArray.size = k; simp
theorem zeros_snoc (k : Nat) : zerosT k ++ ⟨#[0]⟩ = zerosT (k + 1) := by
  apply ByteArray.ext
  rw [ByteArray.data_append]
  apply Array.ext'
  show ((List.replicate k (0 : UInt8)).toArray ++ #[0]).toList = (List.replicate (k + 1) (0 : UInt8)).toArray.toList
  simp [List.replicate_succ']
theorem putS_size_of (n k : Int) (h : PutOk n k) : (putS n k).size = k.toNat := by
  unfold putS
  rw [if_pos h]
  show ((putB n.toNat k.toNat).toArray).size = _
  rw [List.size_toArray, putB_len]
theorem fill_size (k : Nat) (hk : k ≤ 40) : (pkT 15 0 (zerosT k)).size = 4 + k := by
  have hz := zeros_size k
  have h1 : PutOk 15 1 := by refine ⟨by decide, by decide, by decide, by decide⟩
  have h2 : PutOk 0 2 := by refine ⟨by decide, by decide, by decide, by decide⟩
  have h3 : PutOk (((zerosT k).size : Nat) : Int) 1 := by rw [hz]; refine ⟨by decide, by decide, by omega, ?_⟩; show (k : Int) < 256 ^ 1; omega
  unfold pkT
  rw [if_pos ⟨by decide, by decide, by omega⟩]
  simp only [ByteArray.size_append]
  rw [putS_size_of _ _ h1, putS_size_of _ _ h2, putS_size_of _ _ h3, hz]
  show 1 + 2 + 1 + k = 4 + k
  omega

set_option maxRecDepth 8000 in
set_option maxHeartbeats 4000000 in
theorem fill_impl (c n : Int) (r : ByteArray) (A : Option Addr) (l : List Int) (k0 : Nat) (hl : l.length ≤ 1048576) (hr : r.size ≤ 1048576) (w : World) (h : IntsAt w w.heap.size A l) :
    Calls Try.prog 23 #[paV c n r (.slice A l.length k0)] w (FillEnd c n r l w) := by
  have BP := Lib.hid ((Box.made w (paL c n r (.slice A l.length k0)) 34 _ rfl).alloc (.cells (paL 0 0 ⟨#[]⟩ (.slice none 0 0)).toArray 34))
  have BR := Lib.hid (Box.made (w.alloc (.cells (paL c n r (.slice A l.length k0)).toArray 34)) (paL 0 0 ⟨#[]⟩ (.slice none 0 0)) 34 (w.heap.size + 1) (by simp))
  have BB := Lib.hid (((Below.refl _ w).alloc (Nat.le_refl _) (.cells (paL c n r (.slice A l.length k0)).toArray 34)).alloc (by simp) (.cells (paL 0 0 ⟨#[]⟩ (.slice none 0 0)).toArray 34))
  have HI := Lib.hid (fun W (hb : Below w.heap.size w W) => (h.more hb).raise hb.size)
  clear h
  have hmod : Int.tmod (r.size : Int) 24 = ((r.size % 24 : Nat) : Int) := rfl
  go_enter Try.func23, Try.ntmps23
  go_upto_region 1 with fail
  obtain ⟨W2, hW2⟩ : ∃ W2, W2 = (w.alloc (.cells #[.int .i64 c, .int .i64 n, .string r, .slice A l.length k0] 34)).alloc (.cells #[.int .i64 0, .int .i64 0, .string ⟨#[]⟩, .slice none 0 0] 34) := ⟨_, rfl⟩
  have P2 : Box W2 w.heap.size (paL c n r (.slice A l.length k0)) := by rw [hW2]; exact BP.out
  have R2 : Box W2 (w.heap.size + 1) (paL 0 0 ⟨#[]⟩ (.slice none 0 0)) := by rw [hW2]; exact BR.out
  have B2 : Below w.heap.size w W2 := by rw [hW2]; exact BB.out
  have hz2 : W2.heap.size = w.heap.size + 2 := by rw [hW2]; simp
  rw [← hW2]
  clear hW2 BP BR BB
  obtain ⟨p0, p1, p2, p3⟩ := P2.fourP
  by_cases h0 : r.size % 24 = 0
  · have hd0 : decide (((r.size % 24 : Nat) : Int) = 0) = true := by simp; omega
    have hd1 : ((r.size : Int) % 24 == 0) = true := by simp; omega
    have HNO := Lib.hid (show r.size % 24 = 0 ∨ ¬ PaOk c n r l from .inl h0)
    go_wp2_with fail
    refine (copy_impl c n r A l k0 (by omega) W2 (HI.out _ B2)).mono ?_
    rintro e w4 ⟨v4, rfl, ho4, hb4⟩
    obtain ⟨A4, c4, rfl⟩ := ho4.form
    clear p0 p1 p2 p3
    obtain ⟨r0, r1, r2, r3⟩ := (R2.more hb4).fourP
    have ri := (R2.more hb4).ice
    have PD := Lib.hid (out_done (c := c) (n := n) (s := r) (B2.trans (hb4.mono B2.size)) (R2.more hb4) (ho4.lower (by omega)) rfl)
    clear hb4 ho4
    go_wp2
    show bodyPost Try.prog Try.f23 _ Exit.ret _ (w4.setCells (w.heap.size + 1) 0 (paL c n r (.slice A4 l.length c4)))
    generalize w4.setCells (w.heap.size + 1) 0 (paL c n r (.slice A4 l.length c4)) = WE at *
    obtain ⟨⟨d0, d1, d2, d3⟩, ho, hb⟩ := PD.out
    refine bodyPost_ret_by (v := paV c n r (.slice A4 l.length c4)) ?_ rfl (FillEnd.no HNO.out ho hb)
    simp [results, Try.f23, go_sem, d0, d1, d2, d3]
  · have hd0 : decide (((r.size % 24 : Nat) : Int) = 0) = false := by simp; omega
    have hd1 : ((r.size : Int) % 24 == 0) = false := by simp; omega
    have hd2 : ((r.size : Int) % 24 = 0) ↔ False := by simp; omega
    obtain ⟨N, hN⟩ : ∃ N, N = fillN r.size := ⟨_, rfl⟩
    have hN2 : N = if 24 - r.size % 24 < 4 then 24 - r.size % 24 + 20 else 24 - r.size % 24 - 4 := hN
    have hm24 : r.size % 24 < 24 := Nat.mod_lt _ (by decide)
    have hN24 : N ≤ 23 := by rw [hN2]; split <;> omega
    have hnext : ∀ k, k < N → (r.size + (4 + k)) % 24 ≠ 0 := by intro k hk; rw [hN2] at hk; split at hk <;> omega
    have hstop : (r.size + (4 + N)) % 24 = 0 := by rw [hN2]; split <;> omega
    have HN := Lib.hid hN
    have HM := Lib.hid (show r.size % 24 ≠ 0 from h0)
    clear hN hN2
    have Q3 : QP w (W2.alloc (.cells #[.int .i64 15, .int .i64 0, .string ⟨#[]⟩] 28)) (paL c n r (.slice A l.length k0)) (paL 0 0 ⟨#[]⟩ (.slice none 0 0)) (pkL 15 0 (zerosT 0)) :=
      ⟨B2.alloc (by omega) _, P2.alloc _, R2.alloc _, by rw [← hz2]; exact Box.made W2 (pkL 15 0 (zerosT 0)) _ _ rfl⟩
    have HQ3 := Lib.hid Q3
    clear Q3 P2 R2 B2 hmod
    go_wp2
    go_loopg [] N (fun gh wx => ∃ k : Nat, k ≤ N ∧ gh = N - k ∧ QP w wx (paL c n r (.slice A l.length k0)) (paL 0 0 ⟨#[]⟩ (.slice none 0 0)) (pkL 15 0 (zerosT k)))
    case atStart => exact ⟨0, by omega, rfl, HQ3.out⟩
    case round =>
      obtain ⟨k, hk, rfl, hq⟩ := hrel
      have HQ := Lib.hid hq
      have hTs := fill_size k (by omega)
      have hzk := zeros_size k
      have HEN := Lib.hid ((enc_impl 15 0 (zerosT k) (by omega) wr.drew).mono fun e w' hh => (show e = .returned (.string (pkT 15 0 (zerosT k))) ∧ QP w w' (paL c n r (.slice A l.length k0)) (paL 0 0 ⟨#[]⟩ (.slice none 0 0)) (pkL 15 0 (zerosT k)) from ⟨hh.1, (hq.more (Below.refl _ _).drew).more hh.2⟩))
      have HZS := Lib.hid (zeros_snoc k)
      obtain ⟨Z, hZ⟩ : ∃ Z, Z = zerosT k := ⟨_, rfl⟩
      rw [← hZ] at HEN HQ HZS hTs hzk hq
      have HZ := Lib.hid hZ
      obtain ⟨b0, b1, b2, b3⟩ := (hq.more (Below.refl _ _).drew).bp.fourP
      obtain ⟨f0, f1, f2⟩ := (hq.more (Below.refl _ _).drew).br.three
      generalize pkT 15 0 Z = T at *
      clear hZ hq p0 p1 p2 p3 hd0 hd1 hd2 h0
      by_cases hlt : k < N
      · have hmn := hnext k hlt
        have e0 : ((IntKind.i64.wrap ((r.size : Int) + (4 + (k : Int)))).tmod 24 != 0) = true := by
          rw [show IntKind.i64.wrap ((r.size : Int) + (4 + (k : Int))) = (r.size : Int) + (4 + (k : Int)) from IntWalk.i64_in _ (by omega), Int.tmod_eq_emod_of_nonneg (by omega)]
          simp
          omega
        have hb9 : ¬ 9223372036854775807 < Z.size + (⟨#[0]⟩ : ByteArray).size := by rw [hzk]; show ¬ 9223372036854775807 < k + 1; omega
        clear hnext hstop hm24 hmn
        go_wp2
        go_region_held3 (fun w' => w'.cell? ⟨w.heap.size, 2, none⟩ = some (.string r) ∧ w'.cell? ⟨w.heap.size + 2, 0, none⟩ = some (.int .i64 15) ∧ w'.cell? ⟨w.heap.size + 2, 1, none⟩ = some (.int .i64 0) ∧ w'.cell? ⟨w.heap.size + 2, 2, none⟩ = some (.string Z)) (first | exact ⟨b2, f0, f1, f2⟩ | exact ⟨Q2.bp.fourP.2.2.1, Q2.br.three⟩)
          ((go_at_call 17; (with_reducible refine HEN.out.mono ?_); rintro e w2 ⟨rfl, Q2⟩))
        all_goals
          have HQ2 := Lib.hid Q2
          obtain ⟨g0, g1, g2⟩ := Q2.br.three
          have gi := Q2.br.ice
          clear Q2 b0 b1 b2 b3 f0 f1 f2
          go_wp2
          have HQ3 := Lib.hid (show QP w (w2.setCell ⟨w.heap.size + 2, 2, none⟩ (.string (Z ++ ⟨#[0]⟩))) (paL c n r (.slice A l.length k0)) (paL 0 0 ⟨#[]⟩ (.slice none 0 0)) (pkL 15 0 (Z ++ ⟨#[0]⟩)) from
            ⟨HQ2.out.below.setCell (p := ⟨w.heap.size + 2, 2, none⟩) (by simp) _, HQ2.out.bp.other (by omega) 2 _, HQ2.out.bx.other (by omega) 2 _, HQ2.out.br.set 2 (by simp) _⟩)
          go_roundg (N - (k + 1))
          case measure => omega
          case rel => exact ⟨k + 1, by omega, rfl, by rw [← HZS.out]; exact HQ3.out⟩
      · obtain rfl : k = N := by omega
        have e0 : ((IntKind.i64.wrap ((r.size : Int) + (4 + (k : Int)))).tmod 24 != 0) = false := by
          rw [show IntKind.i64.wrap ((r.size : Int) + (4 + (k : Int))) = (r.size : Int) + (4 + (k : Int)) from IntWalk.i64_in _ (by omega), Int.tmod_eq_emod_of_nonneg (by omega)]
          simp
          omega
        have HTZ := Lib.hid (show Z = zerosT (fillN r.size) from by rw [HZ.out, ← HN.out])
        have hZs : Z.size ≤ 1048576 := by omega
        clear hnext hstop hm24
        go_wp2
        go_region_held3 (fun w' => w'.cell? ⟨w.heap.size, 2, none⟩ = some (.string r) ∧ w'.cell? ⟨w.heap.size + 2, 0, none⟩ = some (.int .i64 15) ∧ w'.cell? ⟨w.heap.size + 2, 1, none⟩ = some (.int .i64 0) ∧ w'.cell? ⟨w.heap.size + 2, 2, none⟩ = some (.string Z)) (first | exact ⟨b2, f0, f1, f2⟩ | exact ⟨Q2.bp.fourP.2.2.1, Q2.br.three⟩)
          ((go_at_call 17; (with_reducible refine HEN.out.mono ?_); rintro e w2 ⟨rfl, Q2⟩))
        all_goals
          have HQ2 := Lib.hid Q2
          obtain ⟨g0, g1, g2⟩ := Q2.br.three
          obtain ⟨q0, q1, q2, q3⟩ := Q2.bp.fourP
          clear Q2 b0 b1 b2 b3 f0 f1 f2
          go_wp2_with fail
          refine (pack_impl c n r A l k0 15 0 Z hl hr hZs w2 (HI.out _ HQ2.out.below)).mono ?_
          rintro e w3 ⟨v3, rfl, ho3, hb3⟩
          have Q3 := Lib.hid (HQ2.out.more hb3)
          obtain ⟨A3, c3, rfl⟩ := ho3.form
          have O3 := Lib.hid (ho3.lower HQ2.out.far)
          clear hb3 ho3 g0 g1 g2 q0 q1 q2 q3
          have HFE := Lib.hid (fun (W : World) (v : Value) (ho : OwnI W w.heap.size v (packL c n r l 15 0 Z)) (hb : Below w.heap.size w W) => FillEnd.yes HTZ.out HM.out ho hb)
          generalize packL c n r l 15 0 Z = L3 at *
          generalize packR c n r l 15 0 Z = R3 at *
          generalize packB c n r l 15 0 Z = B3 at *
          have X4 : Box (w3.alloc (.cells #[.int .i64 c, .int .i64 n, .string R3, .slice A3 L3.length c3] 34)) w3.heap.size (paL c n R3 (.slice A3 L3.length c3)) := Box.made w3 (paL c n R3 (.slice A3 L3.length c3)) _ _ rfl
          have Q4 : QP w (w3.alloc (.cells #[.int .i64 c, .int .i64 n, .string R3, .slice A3 L3.length c3] 34)) (paL c n r (.slice A l.length k0)) (paL 0 0 ⟨#[]⟩ (.slice none 0 0)) (pkL 15 0 Z) := Q3.out.more ((Below.refl _ _).alloc (Nat.le_refl _) _)
          have O4 : OwnI (w3.alloc (.cells #[.int .i64 c, .int .i64 n, .string R3, .slice A3 L3.length c3] 34)) (w.heap.size + 2) (.slice A3 L3.length c3) L3 := (O3.out.lower (by omega)).more ((Below.refl _ _).alloc (Nat.le_refl _) _)
          go_upto_region 7 with fail
          generalize w3.alloc (.cells #[.int .i64 c, .int .i64 n, .string R3, .slice A3 L3.length c3] 34) = w4 at *
          generalize w3.heap.size = g4 at *
          obtain ⟨x0, x1, x2, x3⟩ := X4.fourP
          obtain ⟨r0, r1, r2, r3⟩ := Q4.bx.fourP
          have ri := Q4.bx.ice
          have PD := Lib.hid (out_done (c := c) (n := n) (s := R3) Q4.below Q4.bx O4 rfl)
          clear X4 Q4 O4
          go_wp2
          show bodyPost Try.prog Try.f23 _ Exit.ret _ (w4.setCells (w.heap.size + 1) 0 (paL c n R3 (.slice A3 L3.length c3)))
          generalize w4.setCells (w.heap.size + 1) 0 (paL c n R3 (.slice A3 L3.length c3)) = WE at *
          obtain ⟨⟨d0, d1, d2, d3⟩, ho, hb⟩ := PD.out
          refine bodyPost_ret_by (v := paV c n R3 (.slice A3 L3.length c3)) ?_ rfl (HFE.out _ _ ho hb)
          simp [results, Try.f23, go_sem, d0, d1, d2, d3]
end Go.Proofs.Ytegahdlfjdjcaaa
