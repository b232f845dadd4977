/- What this text proves: the parts IBe of the proof, each under its own words. -/
import Derived.Test.YtckofkdeedbbgaaNN21
/- What this text proves: the contracts of the program's limitsOk, doneOk and ordersOk. -/
namespace Go.Proofs.Ytckofkdeedbbgaa
open Go.ChangeShapes Go.WideShapes Go.ChangeAt Go.RowKit
set_option linter.unusedVariables false

theorem aw_two (a b lo hi : Int) (w : World) :
    Calls Try.prog 62 #[.slice (some ⟨w.heap.size, 0, none⟩) 2 2, .int .i64 lo, .int .i64 hi] (w.alloc (.cells #[.int .i64 a, .int .i64 b] 3)) fun e w' => e = .returned (.bool (decide ((lo ≤ a ∧ a ≤ hi) ∧ (lo ≤ b ∧ b ≤ hi)))) ∧ (w.alloc (.cells #[.int .i64 a, .int .i64 b] 3)) = w' := by
  have h := aw_impl (some ⟨w.heap.size, 0, none⟩) [a, b] 2 lo hi (by simp) (w.alloc (.cells #[.int .i64 a, .int .i64 b] 3)) (.inr ⟨w.heap.size, 0, rfl, by simp, fun k hk j hj => by
    obtain rfl : j = 0 := by omega
    rw [World.cell?_alloc_at _ _ _ _ rfl]
    have hk2 : k < 2 := by simpa using hk
    rcases (show k = 0 ∨ k = 1 by omega) with rfl | rfl <;> rfl⟩)
  have hv : winB [a, b] lo hi = decide ((lo ≤ a ∧ a ≤ hi) ∧ (lo ≤ b ∧ b ≤ hi)) := by
    by_cases g : (lo ≤ a ∧ a ≤ hi) ∧ (lo ≤ b ∧ b ≤ hi)
    · rw [decide_eq_true g]
      refine winB_yes (fun x hx => ?_)
      simp only [List.mem_cons, List.not_mem_nil, or_false] at hx
      rcases hx with rfl | rfl
      · exact g.1
      · exact g.2
    · rw [decide_eq_false g]
      exact winB_no (fun h => g ⟨h a (by simp), h b (by simp)⟩)
  rw [hv] at h
  exact h

set_option maxHeartbeats 1000000 in
theorem lim_impl (A : Option Addr) (l : List Lm) (c : Nat) (hl : l.length ≤ 2000000) (w : World) (h : LsI 3 w w.heap.size A (l.map lmC)) :
    Calls Try.prog 63 #[.slice A l.length c] w fun e w' => e = .returned (.bool (limB l)) ∧ Below w.heap.size w w' := by
  have HI := Lib.hid (fun W (hb : Below w.heap.size w W) => h.more hb)
  have HY := Lib.hid (fun h => limB_yes (l := l) h)
  have HN := Lib.hid (fun h => limB_no (l := l) h)
  clear h
  go_enter Try.func63, Try.ntmps63
  go_wp2
  go_loopg [7] l.length (fun gh v8 wx => ∃ k : Nat, k ≤ l.length ∧ gh = l.length - k ∧ v8 = .int .i64 (k : Int) ∧ (∀ j (hj : j < l.length), j < k → LimOk l[j]) ∧ Below w.heap.size w wx)
  case atStart => exact ⟨0, by omega, rfl, rfl, fun j _ h => absurd h (Nat.not_lt_zero _), Below.refl _ _⟩
  case round =>
    obtain ⟨k, hk, rfl, rfl, hall, hbel⟩ := hrel
    have HA := Lib.hid hall
    have HB := Lib.hid hbel
    clear hall
    by_cases hlt : k < l.length
    · have hd : decide (k < l.length) = true := by simp; omega
      have hd' : decide ((k : Int) < (l.length : Int)) = true := by simp; omega
      obtain ⟨bb, off, rfl, hb, hcl⟩ := lmCellsI (b := 0) (off := 0) (HI.out _ hbel) (by omega)
      obtain ⟨c0, c1, c2⟩ := hcl k hlt
      have HX := Lib.hid (show LimOk l[k] ↔ ((0 ≤ l[k].1 ∧ l[k].1 ≤ 7) ∧ ((0 ≤ l[k].2.1 ∧ l[k].2.1 ≤ 65535) ∧ (0 ≤ l[k].2.2 ∧ l[k].2.2 ≤ 65535))) from Iff.rfl)
      have HS := Lib.hid (show LimOk l[k] → ∀ j (hj : j < l.length), j < k + 1 → LimOk l[j] from fun h j hj hjk => by
        rcases Nat.lt_or_ge j k with h3 | h3
        · exact HA.out j hj h3
        · obtain rfl : j = k := by omega
          exact h)
      have HF := Lib.hid (show ¬ LimOk l[k] → limB l = false from fun h => HN.out (fun hh => h (hh.1 k hlt)))
      clear hcl
      obtain ⟨q, hq⟩ : ∃ q, q = LimOk l[k] := ⟨_, rfl⟩
      rw [← hq] at HX HS HF
      clear hq
      generalize l[k].1 = x0 at *
      generalize l[k].2.1 = x1 at *
      generalize l[k].2.2 = x2 at *
      have HB1 := Lib.hid (hbel.alloc hbel.size (.cells #[.int .i64 x0, .int .i64 x1, .int .i64 x2] 57))
      have B0 := Box.made wr [.int .i64 x0, .int .i64 x1, .int .i64 x2] 57 wr.heap.size rfl
      have k0 := B0.cell 0 (by simp)
      have k1 := B0.cell 1 (by simp)
      have k2 := B0.cell 2 (by simp)
      clear hbel
      by_cases g1 : 0 ≤ x0 ∧ x0 ≤ 7
      · have H1 := Lib.hid (iw_yes x0 0 7 g1.1 g1.2)
        have H2 := aw_two x1 x2 0 65535 (wr.alloc (.cells #[.int .i64 x0, .int .i64 x1, .int .i64 x2] 57))
        rw [show (wr.alloc (.cells #[.int .i64 x0, .int .i64 x1, .int .i64 x2] 57)).heap.size = wr.heap.size + 1 by simp] at H2
        by_cases g2 : (0 ≤ x1 ∧ x1 ≤ 65535) ∧ (0 ≤ x2 ∧ x2 ≤ 65535)
        · rw [decide_eq_true g2] at H2
          have H2 := Lib.hid H2
          have HN2 := Lib.hid (HS.out (HX.out.2 ⟨g1, g2⟩))
          have HB2 := Lib.hid (HB1.out.alloc HB1.out.size (.cells #[.int .i64 x1, .int .i64 x2] 3))
          clear g1 g2 B0
          go_wp2_with fail
          refine (H1.out _).mono ?_
          rintro e w' ⟨rfl, rfl⟩
          go_wp2_with fail
          refine H2.out.mono ?_
          rintro e w' ⟨rfl, rfl⟩
          go_wp2
          go_roundg (l.length - (k + 1))
          case measure => omega
          case rel => exact ⟨k + 1, by omega, rfl, by go_num, HN2.out, HB2.out⟩
        · rw [decide_eq_false g2] at H2
          have H2 := Lib.hid H2
          have HV := Lib.hid (HF.out (fun h => g2 (HX.out.1 h).2))
          have HB2 := Lib.hid (HB1.out.alloc HB1.out.size (.cells #[.int .i64 x1, .int .i64 x2] 3))
          clear g1 g2 B0
          go_wp2_with fail
          refine (H1.out _).mono ?_
          rintro e w' ⟨rfl, rfl⟩
          go_wp2_with fail
          refine H2.out.mono ?_
          rintro e w' ⟨rfl, rfl⟩
          go_wp2
          go_ret
          exact ⟨by rw [HV.out]; rfl, HB2.out⟩
      · have H1 := Lib.hid (iw_no x0 0 7 g1)
        have HV := Lib.hid (HF.out (fun h => g1 (HX.out.1 h).1))
        clear g1 B0
        go_wp2_with fail
        refine (H1.out _).mono ?_
        rintro e w' ⟨rfl, rfl⟩
        go_wp2
        go_ret
        exact ⟨by rw [HV.out]; rfl, HB1.out⟩
    · have hd : decide (k < l.length) = false := by simp; omega
      have hd' : decide ((k : Int) < (l.length : Int)) = false := by simp; omega
      obtain rfl : k = l.length := by omega
      by_cases g3 : l.length ≤ 8
      · have hd3 : decide (l.length ≤ 8) = true := decide_eq_true g3
        have hd3' : decide ((l.length : Int) ≤ 8) = true := decide_eq_true (by omega)
        have HV := Lib.hid (HY.out ⟨fun j hj => HA.out j hj hj, g3⟩)
        clear hlt
        go_wp2
        go_ret
        exact ⟨by rw [HV.out]; rfl, HB.out⟩
      · have hd3 : decide (l.length ≤ 8) = false := decide_eq_false g3
        have hd3' : decide ((l.length : Int) ≤ 8) = false := decide_eq_false (by omega)
        have HV := Lib.hid (HN.out (fun h => g3 h.2))
        clear hlt
        go_wp2
        go_ret
        exact ⟨by rw [HV.out]; rfl, HB.out⟩

set_option maxHeartbeats 1000000 in
theorem dn_impl (A : Option Addr) (l : List Dn) (c : Nat) (T : Int) (hT : 0 ≤ T ∧ T ≤ 65535) (hl : l.length ≤ 2000000) (w : World) (h : LsI 3 w w.heap.size A (l.map dnC)) :
    Calls Try.prog 65 #[.slice A l.length c, .int .i64 T] w fun e w' => e = .returned (.bool (dnB T l)) ∧ Below w.heap.size w w' := by
  have HI := Lib.hid (fun W (hb : Below w.heap.size w W) => h.more hb)
  have HY := Lib.hid (fun h => dnB_yes (T := T) (l := l) h)
  have HN := Lib.hid (fun h => dnB_no (T := T) (l := l) h)
  have hw : IntKind.i64.wrap (T - 1) = T - 1 := IntWalk.i64_in _ (by omega)
  clear h
  go_enter Try.func65, Try.ntmps65
  go_wp2
  go_loopg [9] l.length (fun gh v8 wx => ∃ k : Nat, k ≤ l.length ∧ gh = l.length - k ∧ v8 = .int .i64 (k : Int) ∧ (∀ j (hj : j < l.length), j < k → DnOk T l[j]) ∧ Below w.heap.size w wx)
  case atStart => exact ⟨0, by omega, rfl, rfl, fun j _ h => absurd h (Nat.not_lt_zero _), Below.refl _ _⟩
  case round =>
    obtain ⟨k, hk, rfl, rfl, hall, hbel⟩ := hrel
    have HA := Lib.hid hall
    have HB := Lib.hid hbel
    clear hall
    by_cases hlt : k < l.length
    · have hd : decide (k < l.length) = true := by simp; omega
      have hd' : decide ((k : Int) < (l.length : Int)) = true := by simp; omega
      obtain ⟨bb, off, rfl, hb, hcl⟩ := dnCellsI (b := 0) (off := 0) (HI.out _ hbel) (by omega)
      obtain ⟨c0, c1, c2⟩ := hcl k hlt
      have HX := Lib.hid (show DnOk T l[k] ↔ ((0 ≤ l[k].1 ∧ l[k].1 ≤ T - 1) ∧ ((0 ≤ l[k].2.1 ∧ l[k].2.1 ≤ 1000000) ∧ (0 ≤ l[k].2.2 ∧ l[k].2.2 ≤ 1))) from Iff.rfl)
      have HS := Lib.hid (show DnOk T l[k] → ∀ j (hj : j < l.length), j < k + 1 → DnOk T l[j] from fun h j hj hjk => by
        rcases Nat.lt_or_ge j k with h3 | h3
        · exact HA.out j hj h3
        · obtain rfl : j = k := by omega
          exact h)
      have HF := Lib.hid (show ¬ DnOk T l[k] → dnB T l = false from fun h => HN.out (fun hh => h (hh.1 k hlt)))
      clear hcl
      obtain ⟨q, hq⟩ : ∃ q, q = DnOk T l[k] := ⟨_, rfl⟩
      rw [← hq] at HX HS HF
      clear hq
      generalize l[k].1 = x0 at *
      generalize l[k].2.1 = x1 at *
      generalize l[k].2.2 = x2 at *
      have HB1 := Lib.hid (hbel.alloc hbel.size (.cells #[.int .i64 x0, .int .i64 x1, .int .i64 x2] 45))
      have B0 := Box.made wr [.int .i64 x0, .int .i64 x1, .int .i64 x2] 45 wr.heap.size rfl
      have k0 := B0.cell 0 (by simp)
      have k1 := B0.cell 1 (by simp)
      have k2 := B0.cell 2 (by simp)
      have H1 := Lib.hid (iw_any x0 0 (T - 1))
      have H2 := Lib.hid (iw_any x1 0 1000000)
      have H3 := Lib.hid (iw_any x2 0 1)
      clear hbel B0

      by_cases g1 : 0 ≤ x0 ∧ x0 ≤ T - 1
      · rw [decide_eq_true g1] at H1
        by_cases g2 : 0 ≤ x1 ∧ x1 ≤ 1000000
        · rw [decide_eq_true g2] at H2
          by_cases g3 : 0 ≤ x2 ∧ x2 ≤ 1
          · rw [decide_eq_true g3] at H3
            have HN2 := Lib.hid (HS.out (HX.out.2 ⟨g1, g2, g3⟩))
            clear g1 g2 g3
            go_wp2_with fail
            refine (H1.out _).mono ?_
            rintro e w' ⟨rfl, rfl⟩
            go_wp2_with fail
            refine (H2.out _).mono ?_
            rintro e w' ⟨rfl, rfl⟩
            go_wp2_with fail
            refine (H3.out _).mono ?_
            rintro e w' ⟨rfl, rfl⟩
            go_wp2
            go_roundg (l.length - (k + 1))
            case measure => omega
            case rel => exact ⟨k + 1, by omega, rfl, by go_num, HN2.out, HB1.out⟩
          · rw [decide_eq_false g3] at H3
            have HV := Lib.hid (HF.out (fun h => g3 (HX.out.1 h).2.2))
            go_wp2_with fail
            refine (H1.out _).mono ?_
            rintro e w' ⟨rfl, rfl⟩
            go_wp2_with fail
            refine (H2.out _).mono ?_
            rintro e w' ⟨rfl, rfl⟩
            go_wp2_with fail
            refine (H3.out _).mono ?_
            rintro e w' ⟨rfl, rfl⟩
            go_wp2
            go_ret
            exact ⟨by rw [HV.out]; rfl, HB1.out⟩
        · rw [decide_eq_false g2] at H2
          have HV := Lib.hid (HF.out (fun h => g2 (HX.out.1 h).2.1))
          go_wp2_with fail
          refine (H1.out _).mono ?_
          rintro e w' ⟨rfl, rfl⟩
          go_wp2_with fail
          refine (H2.out _).mono ?_
          rintro e w' ⟨rfl, rfl⟩
          go_wp2
          go_ret
          exact ⟨by rw [HV.out]; rfl, HB1.out⟩
      · rw [decide_eq_false g1] at H1
        have HV := Lib.hid (HF.out (fun h => g1 (HX.out.1 h).1))
        go_wp2_with fail
        refine (H1.out _).mono ?_
        rintro e w' ⟨rfl, rfl⟩
        go_wp2
        go_ret
        exact ⟨by rw [HV.out]; rfl, HB1.out⟩
    · have hd : decide (k < l.length) = false := by simp; omega
      have hd' : decide ((k : Int) < (l.length : Int)) = false := by simp; omega
      obtain rfl : k = l.length := by omega
      by_cases g3 : l.length ≤ 5000
      · have hd3 : decide (l.length ≤ 5000) = true := decide_eq_true g3
        have hd3' : decide ((l.length : Int) ≤ 5000) = true := decide_eq_true (by omega)
        have HV := Lib.hid (HY.out ⟨fun j hj => HA.out j hj hj, g3⟩)
        clear hlt
        go_wp2
        go_ret
        exact ⟨by rw [HV.out]; rfl, HB.out⟩
      · have hd3 : decide (l.length ≤ 5000) = false := decide_eq_false g3
        have hd3' : decide ((l.length : Int) ≤ 5000) = false := decide_eq_false (by omega)
        have HV := Lib.hid (HN.out (fun h => g3 h.2))
        clear hlt
        go_wp2
        go_ret
        exact ⟨by rw [HV.out]; rfl, HB.out⟩
end Go.Proofs.Ytckofkdeedbbgaa
