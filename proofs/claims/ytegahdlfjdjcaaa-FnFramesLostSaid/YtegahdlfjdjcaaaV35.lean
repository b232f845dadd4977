/- What this text proves: the parts IPu1 of the proof, each under its own words. -/
import Derived.Test.YtegahdlfjdjcaaaV12
import Derived.Test.YtegahdlfjdjcaaaV22
import Derived.Test.YtegahdlfjdjcaaaV28
import Derived.Deep.RegionLaw
import Derived.Outline
/- What this text proves: the contracts of an unpacker at work: what it is made of, what it answers, a loss, a broken head, a frame put into it. -/
namespace Go.Proofs.Ytegahdlfjdjcaaa
open Go.ChangeShapes Go.WideShapes Go.ChangeAt Go.RowKit
set_option linter.unusedVariables false

/-- The cells of an unpacker at work: its queue, its channel, its next count, whether it is synced, its losses. -/
abbrev yL (c n : Int) (s : Bool × ByteArray × Int) : List Value := [.string s.2.1, .int .i64 c, .int .i64 n, .bool s.1, .int .i64 s.2.2]
theorem drop_q (g : Nat) (w : World) (x : Value) (h : w.cell? ⟨g, 0, none⟩ = some x) (hi : w.frozen? ⟨g, 0, none⟩ = false) :
    Calls Try.prog 97 #[ptr g] w fun e w' => e = .returned (.tuple #[]) ∧ w' = w.setCell ⟨g, 0, none⟩ (.string ⟨#[]⟩) := by
  go_enter Try.func97, Try.ntmps97
  go_wp2
  go_end0
  exact ⟨rfl, rfl⟩
theorem grown_one {w : World} {g j : Nat} (u : Value) : w.grownBy (w.setCell ⟨g, j, none⟩ u) (some g) := grown_store (grown_of (Below.refl _ _) _) u

theorem lose_part (c n : Int) (b : Bool) (r : ByteArray) (l : Int) (hl : 0 ≤ l ∧ l ≤ 1000000) (g : Nat) (w : World) (hb : Box w g (yL c n (b, r, l))) :
    Calls Try.prog 95 #[ptr g] w fun e w' => e = .returned (.tuple #[]) ∧ Box w' g (yL c n (false, ⟨#[]⟩, lossN l)) ∧ w.grownBy w' (some g) := by
  have HD := Lib.hid (drop_q g w (.string r) (hb.cell 0 (by simp)) (hb.ice 0))
  have B1 := hb.set 0 (by simp) (.string ⟨#[]⟩)
  obtain ⟨k0, k1, k2, k3, k4⟩ := B1.five
  have ki := B1.ice
  have B2 := Lib.hid (show Box _ g (yL c n (false, ⟨#[]⟩, lossN l)) from (B1.set 3 (by simp) (.bool false)).set 4 (by simp) (.int .i64 (lossN l)))
  have G2 := Lib.hid (grown_store (g := g) (j := 4) (grown_store (g := g) (j := 3) (grown_one (w := w) (g := g) (j := 0) (.string ⟨#[]⟩)) (.bool false)) (.int .i64 (lossN l)))
  have hw : IntKind.i64.wrap (l + 1) = l + 1 := IntWalk.i64_in _ (by omega)
  by_cases h : l + 1 ≤ 1000000
  · have HV : lossN l = l + 1 := if_pos h
    have hmin : min (l + 1) 1000000 = l + 1 := Int.min_eq_left h
    rw [HV] at B2 G2
    have HVV := Lib.hid HV
    clear hb B1 HV
    go_enter Try.func95, Try.ntmps95
    go_wp2_with fail
    refine HD.out.mono ?_
    rintro e w' ⟨rfl, rfl⟩
    go_wp2
    go_end0
    exact ⟨rfl, by rw [HVV.out]; exact B2.out, G2.out⟩
  · have HV : lossN l = 1000000 := if_neg h
    have hmin : min (l + 1) 1000000 = 1000000 := Int.min_eq_right (by omega)
    rw [HV] at B2 G2
    have HVV := Lib.hid HV
    clear hb B1 HV
    go_enter Try.func95, Try.ntmps95
    go_wp2_with fail
    refine HD.out.mono ?_
    rintro e w' ⟨rfl, rfl⟩
    go_wp2
    go_end0
    exact ⟨rfl, by rw [HVV.out]; exact B2.out, G2.out⟩

theorem broken_head (c n : Int) (b : Bool) (r : ByteArray) (l : Int) (hr : r.size ≤ 1048576) (g : Nat) (w : World) (hb : Box w g (yL c n (b, r, l))) :
    Calls Try.prog 96 #[ptr g] w fun e w' => e = .returned (.bool (decide (BrkP r))) ∧ w = w' := by
  obtain ⟨k0, k1, k2, k3, k4⟩ := hb.five
  have HS := Lib.hid (size_q r g w k0)
  by_cases h4 : 4 ≤ r.size
  · have e0 := byteAt_of r 0 (by omega)
    have e3 := byteAt_of r 3 (by omega)
    have hd4 : decide (4 ≤ r.size) = true := by simp; omega
    have hd4' : decide ((4 : Int) ≤ (r.size : Int)) = true := by simp; omega
    have HO := Lib.hid (show ∀ B : Bool, B = (decide (15 < byteAt r 0) || decide (40 < byteAt r 3)) → B = decide (BrkP r) from fun B h => by
      rw [h, Bool.eq_iff_iff]
      simp only [Bool.or_eq_true, decide_eq_true_iff]
      exact ⟨fun h => ⟨h4, h⟩, fun h => h.2⟩)
    generalize byteAt r 0 = X at *
    generalize byteAt r 3 = Y at *
    clear hb
    go_enter Try.func96, Try.ntmps96
    go_wp2_with fail
    refine HS.out.mono ?_
    rintro e w' ⟨rfl, rfl⟩
    by_cases h15 : 15 < X
    · have d1 : decide ((15 : Int) < (X : Int)) = true := by simp; omega
      have d2 : decide (15 < X) = true := by simp; omega
      have HB := Lib.hid (show true = decide (BrkP r) from HO.out _ (by rw [d2]; rfl))
      go_wp2
      go_ret
      exact ⟨by rw [← HB.out]; first | done | rfl, rfl⟩
    · have d1 : decide ((15 : Int) < (X : Int)) = false := by simp; omega
      have d2 : decide (15 < X) = false := by simp; omega
      have HB := Lib.hid (show decide (40 < Y) = decide (BrkP r) from HO.out _ (by rw [d2]; rfl))
      have d3 : decide ((40 : Int) < (Y : Int)) = decide (40 < Y) := by rw [decide_eq_decide]; omega
      go_wp2
      go_ret
      exact ⟨by rw [← HB.out]; first | done | rfl | simp, rfl⟩
  · have hd4 : decide (4 ≤ r.size) = false := by simp; omega
    have hd4' : decide ((4 : Int) ≤ (r.size : Int)) = false := by simp; omega
    have HB := Lib.hid (show decide (BrkP r) = false from decide_eq_false (fun h => h4 h.1))
    clear hb
    go_enter Try.func96, Try.ntmps96
    go_wp2_with fail
    refine HS.out.mono ?_
    rintro e w' ⟨rfl, rfl⟩
    go_wp2
    go_ret
    exact ⟨by rw [HB.out]; first | done | rfl, rfl⟩

theorem unpacking_of (c n : Int) (b : Bool) (r : ByteArray) (l : Int) (w : World) :
    Calls Try.prog 89 #[unV c n b r l] w fun e w' => ∃ g, e = .returned (ptr g) ∧ w.heap.size ≤ g ∧ Box w' g (yL c n (b, r, l)) ∧ Below w.heap.size w w' := by
  have HF := Lib.hid (show Box ((w.alloc (.cells #[.int .i64 c, .int .i64 n, .bool b, .string r, .int .i64 l] 49)).alloc (.cells #[.string r, .int .i64 c, .int .i64 n, .bool b, .int .i64 l] 125)) (w.heap.size + 1) (yL c n (b, r, l)) from Box.made (w.alloc (.cells (unL c n b r l).toArray 49)) (yL c n (b, r, l)) _ _ (by simp))
  go_enter Try.func89, Try.ntmps89
  go_wp2
  go_ret
  exact ⟨_, rfl, by omega, HF.out, ((Below.refl _ w).alloc (Nat.le_refl _) _).alloc (by simp) _⟩

set_option maxHeartbeats 1000000 in
theorem unpacker_of (c n : Int) (b : Bool) (r : ByteArray) (l : Int) (g : Nat) (w : World) (hb : Box w g (yL c n (b, r, l))) :
    Calls Try.prog 92 #[ptr g] w fun e w' => e = .returned (unV c n b r l) ∧ Below w.heap.size w w' := by
  have HX := Lib.hid ((hb.alloc (.cells #[.int .i64 0, .int .i64 0, .bool false, .string ⟨#[]⟩, .int .i64 0] 49)).drew)
  have BR := Lib.hid ((Box.made w (unL 0 0 false ⟨#[]⟩ 0) 49 _ rfl).drew)
  obtain ⟨k0, k1, k2, k3, k4⟩ := HX.out.five
  obtain ⟨q0, q1, q2, q3, q4⟩ := hb.five
  obtain ⟨m0, m1, m2, m3, m4⟩ := BR.out.five
  have mi := BR.out.ice
  clear hb
  go_enter Try.func92, Try.ntmps92
  go_wp2
  go_region_held3 (fun w' => w'.cell? ⟨g, 0, none⟩ = some (.string r) ∧ w'.cell? ⟨g, 1, none⟩ = some (.int .i64 c) ∧ w'.cell? ⟨g, 2, none⟩ = some (.int .i64 n) ∧ w'.cell? ⟨g, 3, none⟩ = some (.bool b) ∧ w'.cell? ⟨g, 4, none⟩ = some (.int .i64 l)) (first | with_reducible exact ⟨k0, k1, k2, k3, k4⟩ | go_keep) (fail)
  all_goals go_wp2
  all_goals
    refine bodyPost_ret_by (v := unV c n b r l) ?_ rfl ⟨rfl, ((Below.refl _ w).alloc (Nat.le_refl _) _).drew⟩
    simp [results, Try.f92, go_sem]
end Go.Proofs.Ytegahdlfjdjcaaa
