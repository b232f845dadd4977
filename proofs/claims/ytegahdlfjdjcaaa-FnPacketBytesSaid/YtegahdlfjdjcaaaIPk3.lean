/- What this text proves: what a packet put into a packer at work makes of it. -/
import Derived.Test.YtegahdlfjdjcaaaIPk2
namespace Go.Proofs.Ytegahdlfjdjcaaa
open Go.ChangeShapes Go.WideShapes Go.ChangeAt Go.RowKit
set_option linter.unusedVariables false

set_option maxHeartbeats 2000000 in
theorem put_packet (c n : Int) (r : ByteArray) (l : List Int) (a q : Int) (d : ByteArray) (v : Value) (g b : Nat) (w : World) (hb : Box w g (kL c n r v)) (ho : OwnI w b v l) (hne : v.ownBlock ≠ some g) (hbg : b ≤ g)
    (hl : l.length ≤ 1048577) (hr : r.size ≤ 1048577) (hd : d.size ≤ 1048576) :
    Calls Try.prog 62 #[ptr g, pkV a q d] w fun e w' => e = .returned (.tuple #[]) ∧ ∃ v', Box w' g (kL c n (r ++ pkT a q d) v') ∧ OwnI w' b v' (l ++ [(r.size : Int)]) ∧ v'.ownBlock ≠ some g ∧ Below b w w' ∧ w.heap.size ≤ w'.heap.size := by
  obtain ⟨A, c0, rfl⟩ := ho.form
  have hlt := hb.lt
  have P1 : PG w (w.alloc (.cells #[.int .i64 a, .int .i64 q, .string d] 28)) b g w.heap.size (kL c n r (.slice A l.length c0)) (pkL a q d) (.slice A l.length c0) l :=
    ⟨(Below.refl b w).alloc (by omega) _, hb.alloc _, Box.made w (pkL a q d) _ _ rfl, ho.more ((Below.refl _ w).alloc (Nat.le_refl _) _), hne, fun e => by have := (World.ownsRow.lt ho _ e).2; omega, hbg, by omega, by simp⟩
  have HP1 := Lib.hid P1
  have HEN := Lib.hid (enc_impl a q d hd)
  have hT : (pkT a q d).size ≤ 1048600 := by
    have := putS_four_le a 1
    have := putS_four_le q 2
    have := putS_four_le (d.size : Int) 1
    unfold pkT
    split
    · simp only [ByteArray.size_append]; omega
    · decide
  generalize pkT a q d = T at *
  clear hb ho P1 hlt
  go_enter Try.func62, Try.ntmps62
  go_upto_region 1 with fail
  generalize w.alloc (.cells #[.int .i64 a, .int .i64 q, .string d] 28) = W1 at *
  generalize w.heap.size = gx at *
  obtain ⟨k0, _, _, k3⟩ := (HP1.out.more (Below.refl _ _).drew).bk.fourK
  obtain ⟨_, _, _, a3⟩ := (HP1.out.more ((Below.refl _ _).alloc (Nat.le_refl _) (.cells #[.int .i64 (r.size : Int)] 3))).bk.fourK
  have HS := Lib.hid (size_q r g W1.drew k0)
  clear k0
  have hw1 : b ≤ W1.heap.size := HP1.out.bz
  have hl2 : l.length ≤ 1099511626 := by omega
  go_wp2
  go_region_law ((first
      | (refine step_app_int W1 _ (by first | exact ((Below.refl _ _).alloc (Nat.le_refl _) _).drew | exact (Below.refl _ _).drew.alloc (by simp) _) rfl (.tmp 8) (.tmp 13) rfl b (.slice A l.length c0) l (r.size : Int) rfl W1.heap.size _ rfl HP1.out.own (by first | exact World.cell?_alloc_at _ _ _ _ rfl | simp) hl2 hw1 ?_; intro v2 w2 hown2 hg2 hor2; obtain ⟨l2, hl3⟩ : ∃ l2, l2 = l ++ [(r.size : Int)] := ⟨_, rfl⟩; rw [← hl3] at hown2; have HL3 := Lib.hid hl3; clear hl3; obtain ⟨A2, c2, hv2⟩ := hown2.form; subst hv2; have P2 := PG.app (W' := w2) (HP1.out.more (by first | exact ((Below.refl _ _).alloc (Nat.le_refl _) _).drew | exact (Below.refl _ _).drew.alloc (by simp) _)) hown2 hg2 hor2; have m3 := P2.bk.fourK.2.2.2; have mi := P2.bk.ice 3)
      | (go_simp; go_at_call 84; (with_reducible refine HS.out.mono ?_); rintro e w' ⟨rfl, rfl⟩)))
  all_goals
    have P3 := P2.put 3 (by simp) (.slice A2 l2.length c2)
    have HP3 := Lib.hid (show PG w _ b g gx (kL c n r (.slice A2 l2.length c2)) (pkL a q d) (.slice A2 l2.length c2) l2 from P3)
    clear P3 P2 hown2 hg2 hor2 m3 k3 a3 HS
    go_upto_region 2 with fail
    clear mi
    generalize w2.setCell ⟨g, 3, none⟩ _ = W3 at *
    obtain ⟨x0, x1, x2⟩ := (HP3.out.more (Below.refl _ _).drew).bx.three
    go_wp2
    go_region_law ((first
        | (go_simp; go_at_call 17; (with_reducible refine (HEN.out _).mono ?_); rintro e w4 ⟨rfl, hb4⟩; have P4 := (HP3.out.more (Below.refl _ _).drew).more hb4; have PUT := put_q r T g w4 P4.bk.fourK.1 (P4.bk.ice 0) (by omega))
        | (go_simp; go_at_call 85; (with_reducible refine PUT.mono ?_); rintro e w5 ⟨rfl, rfl⟩)))
  all_goals
    have P5 := Lib.hid (P4.put 0 (by simp) (.string (r ++ T)))
    clear P4 PUT hb4 x0 x1 x2
    go_wp2
    go_end0
    exact ⟨rfl, _, P5.out.bk, by rw [← HL3.out]; exact P5.out.own, P5.out.ne, P5.out.below, by first | exact P5.out.hz | exact Nat.le_of_lt P5.out.bx.lt⟩
end Go.Proofs.Ytegahdlfjdjcaaa
