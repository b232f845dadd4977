/- What this text proves: the contracts of the model's and the program's DemandOf. -/
import Derived.Test.YtdfcamlnebcbpacRqf
namespace Go.Proofs.Ytdfcamlnebcbpac
open Go.ChangeShapes Go.WideShapes Go.ChangeAt Go.RowKit
set_option linter.unusedVariables false

theorem dem_in {L : List Rq} {a b : Int} {k : Nat} (h : InP L a b k) : demN L a b (k + 1) = demN L a b k + rN L k := by show sumP _ _ _ + _ = _; rw [if_pos h]; rfl
theorem dem_out {L : List Rq} {a b : Int} {k : Nat} (h : ¬ InP L a b k) : demN L a b (k + 1) = demN L a b k := by show sumP _ _ _ + _ = _; rw [if_neg h]; exact Int.add_zero _
set_option maxRecDepth 20000 in
set_option maxHeartbeats 2000000 in
theorem dem_impl (A : Option Addr) (l : List Rq) (c : Nat) (a b : Int) (hl : l.length ≤ 2000000) (w : World) (h : LsI 4 w w.heap.size A (l.map rqC)) :
    Calls Try.prog 25 #[.slice A l.length c, .int .i64 a, .int .i64 b] w fun e w' => e = .returned (.int .i64 (demR l a b)) ∧ Below w.heap.size w w' := by
  have H1 := rqs_impl A l c hl w h
  have HI := Lib.hid (fun W (hb : Below w.heap.size w W) => h.more hb)
  clear h
  by_cases hok : RqsOk l
  rotate_left
  · rw [decide_eq_false hok] at H1
    have H1 := Lib.hid H1
    have HV := Lib.hid (show demR l a b = 0 from by unfold demR; rw [if_neg hok])
    clear hok
    go_enter Try.func25, Try.ntmps25
    go_wp2_with fail
    refine H1.out.mono ?_
    rintro e w1 ⟨rfl, hb⟩
    have HB := Lib.hid hb
    clear hb H1
    go_wp2
    go_ret
    exact ⟨by rw [HV.out]; first | done | rfl, HB.out⟩
  rw [decide_eq_true hok] at H1
  have H1 := Lib.hid H1
  have HOK := Lib.hid hok
  have HV := Lib.hid (show demR l a b = demN l a b l.length from by unfold demR; rw [if_pos hok])
  clear hok
  go_enter Try.func25, Try.ntmps25
  go_wp2_with fail
  refine H1.out.mono ?_
  rintro e w1 ⟨rfl, hb⟩
  have HB1 := Lib.hid hb
  clear hb H1
  go_wp2
  go_loopg [7, 15] l.length (fun gh v1 v2 wx => ∃ k : Nat, k ≤ l.length ∧ gh = l.length - k ∧ v1 = .int .i64 (demN l a b k) ∧ v2 = .int .i64 (k : Int) ∧ Below w.heap.size w wx)
  case atStart => exact ⟨0, by omega, rfl, rfl, rfl, HB1.out⟩
  case round =>
    obtain ⟨k, hk, rfl, rfl, rfl, hbel⟩ := hrel
    have HB := Lib.hid hbel
    by_cases hlt : k < l.length
    · have hd : decide (k < l.length) = true := by simp; omega
      have hd' : decide ((k : Int) < (l.length : Int)) = true := by simp; omega
      obtain ⟨bb, off, rfl, hb, hc⟩ := rqCellsI (b := 0) (off := 0) (HI.out _ hbel) (by omega)
      obtain ⟨c0, c1, c2, c3⟩ := hc k hlt
      have HE := Lib.hid (show rqAt l k = l[k] from by simp [rqAt, hlt])
      clear hc hbel
      generalize l[k] = z at *
      obtain ⟨x0, x1, x2, x3⟩ := z
      simp only [] at c0 c1 c2 c3
      by_cases h1 : a ≤ x1
      · have d1 : decide (a ≤ x1) = true := decide_eq_true h1
        by_cases h2 : x2 ≤ b
        · have d2 : decide (x2 ≤ b) = true := decide_eq_true h2
          have HN := Lib.hid (show demN l a b (k + 1) = _ from dem_in (by exact ⟨by show a ≤ (rqAt l k).2.1; rw [HE.out]; exact h1, by show (rqAt l k).2.2.1 ≤ b; rw [HE.out]; exact h2⟩))
          have HBD := demN_bounds HOK.out a b k (by omega)
          have HX := Lib.hid (show rN l k = x3 ∧ 1 ≤ x3 ∧ x3 ≤ 100 from ⟨by show (rqAt l k).2.2.2 = x3; rw [HE.out], by have := (HOK.out.at hlt).2.2.2; rw [HE.out] at this; exact this⟩)
          obtain ⟨hx, hx1, hx2⟩ := HX.out
          clear hx
          obtain ⟨dk, hdk⟩ : ∃ d, demN l a b k = d := ⟨_, rfl⟩
          rw [hdk] at HBD
          have HDK := Lib.hid hdk
          have HW := Lib.hid (show wrap64 (dk + x3) = demN l a b (k + 1) from by rw [HN.out, hdk, HX.out.1]; unfold wrap64; omega)
          rw [hdk]
          clear hdk HBD hx1 hx2 h1 h2
          go_wp2
          go_roundg (l.length - (k + 1))
          case measure => omega
          case rel => exact ⟨k + 1, by omega, rfl, by first | exact congrArg (Value.int .i64) HW.out | (rw [← HW.out]; rfl), by go_num, HB.out.alloc HB.out.size _⟩
        · have d2 : decide (x2 ≤ b) = false := decide_eq_false h2
          have HN := Lib.hid (show demN l a b (k + 1) = _ from dem_out (by intro hh; have g1 : a ≤ (rqAt l k).2.1 := hh.1; have g2 : (rqAt l k).2.2.1 ≤ b := hh.2; rw [HE.out] at g1 g2; simp only [] at g1 g2; omega))
          have HBD := demN_bounds HOK.out a b k (by omega)
          clear HBD
          go_wp2
          go_roundg (l.length - (k + 1))
          case measure => omega
          case rel => exact ⟨k + 1, by omega, rfl, by rw [HN.out], by go_num, HB.out.alloc HB.out.size _⟩
      · have d1 : decide (a ≤ x1) = false := decide_eq_false h1
        have HN := Lib.hid (show demN l a b (k + 1) = _ from dem_out (by intro hh; have g1 : a ≤ (rqAt l k).2.1 := hh.1; have g2 : (rqAt l k).2.2.1 ≤ b := hh.2; rw [HE.out] at g1 g2; simp only [] at g1 g2; omega))
        have HBD := demN_bounds HOK.out a b k (by omega)
        clear HBD
        go_wp2
        go_roundg (l.length - (k + 1))
        case measure => omega
        case rel => exact ⟨k + 1, by omega, rfl, by rw [HN.out], by go_num, HB.out.alloc HB.out.size _⟩
    · have hd : decide (k < l.length) = false := by simp; omega
      have hd' : decide ((k : Int) < (l.length : Int)) = false := by simp; omega
      obtain rfl : k = l.length := by omega
      clear hlt
      go_wp2
      go_ret
      exact ⟨by rw [HV.out]; first | done | rfl, HB.out⟩
set_option maxRecDepth 20000 in
set_option maxHeartbeats 2000000 in
theorem dem_spec (A : Option Addr) (l : List Rq) (c : Nat) (a b : Int) (hl : l.length ≤ 2000000) (w : World) (h : LsI 4 w w.heap.size A (l.map rqC)) :
    Calls Try.prog 24 #[.slice A l.length c, .int .i64 a, .int .i64 b] w fun e w' => e = .returned (.int .i64 (demR l a b)) ∧ Below w.heap.size w w' := by
  have H1 := rqs_spec A l c hl w h
  have HI := Lib.hid (fun W (hb : Below w.heap.size w W) => h.more hb)
  clear h
  by_cases hok : RqsOk l
  rotate_left
  · rw [decide_eq_false hok] at H1
    have H1 := Lib.hid H1
    have HV := Lib.hid (show demR l a b = 0 from by unfold demR; rw [if_neg hok])
    clear hok
    go_enter Try.func24, Try.ntmps24
    go_wp2_with fail
    refine H1.out.mono ?_
    rintro e w1 ⟨rfl, hb⟩
    have HB := Lib.hid hb
    clear hb H1
    by_cases h0 : 0 < l.length
    · have hd : decide (0 < l.length) = true := by simp; omega
      go_wp2
      refine wp_loop_rounds 1 ?_
      rw [rounds_succ]
      go_wp2
      go_ret
      exact ⟨by rw [HV.out]; first | done | rfl, HB.out⟩
    · have hd : decide (0 < l.length) = false := decide_eq_false h0
      have hz : l.length = 0 := by omega
      clear h0
      go_wp2
      refine wp_loop_rounds 1 ?_
      rw [rounds_succ]
      go_wp2
      go_ret
      exact ⟨by rw [HV.out]; first | done | rfl, HB.out⟩
  rw [decide_eq_true hok] at H1
  have H1 := Lib.hid H1
  have HOK := Lib.hid hok
  have HV := Lib.hid (show demR l a b = demN l a b l.length from by unfold demR; rw [if_pos hok])
  clear hok
  go_enter Try.func24, Try.ntmps24
  go_wp2_with fail
  refine H1.out.mono ?_
  rintro e w1 ⟨rfl, hb⟩
  have HB1 := Lib.hid hb
  clear hb H1
  go_wp2
  go_loopg [7, 9] l.length (fun gh v1 v2 wx => ∃ k : Nat, k ≤ l.length ∧ gh = l.length - k ∧ v1 = .int .i64 (demN l a b k) ∧ v2 = .int .i64 (k : Int) ∧ Below w.heap.size w wx)
  case atStart => exact ⟨0, by omega, rfl, rfl, rfl, HB1.out⟩
  case round =>
    obtain ⟨k, hk, rfl, rfl, rfl, hbel⟩ := hrel
    have HB := Lib.hid hbel
    by_cases hlt : k < l.length
    · have hd : decide (k < l.length) = true := by simp; omega
      have hd' : decide ((k : Int) < (l.length : Int)) = true := by simp; omega
      obtain ⟨bb, off, rfl, hb, hc⟩ := rqCellsI (b := 0) (off := 0) (HI.out _ hbel) (by omega)
      obtain ⟨c0, c1, c2, c3⟩ := hc k hlt
      have HE := Lib.hid (show rqAt l k = l[k] from by simp [rqAt, hlt])
      clear hc hbel
      generalize l[k] = z at *
      obtain ⟨x0, x1, x2, x3⟩ := z
      simp only [] at c0 c1 c2 c3
      by_cases h1 : a ≤ x1
      · have d1 : decide (a ≤ x1) = true := decide_eq_true h1
        by_cases h2 : x2 ≤ b
        · have d2 : decide (x2 ≤ b) = true := decide_eq_true h2
          have HN := Lib.hid (show demN l a b (k + 1) = _ from dem_in (by exact ⟨by show a ≤ (rqAt l k).2.1; rw [HE.out]; exact h1, by show (rqAt l k).2.2.1 ≤ b; rw [HE.out]; exact h2⟩))
          have HBD := demN_bounds HOK.out a b k (by omega)
          have HX := Lib.hid (show rN l k = x3 ∧ 1 ≤ x3 ∧ x3 ≤ 100 from ⟨by show (rqAt l k).2.2.2 = x3; rw [HE.out], by have := (HOK.out.at hlt).2.2.2; rw [HE.out] at this; exact this⟩)
          obtain ⟨hx, hx1, hx2⟩ := HX.out
          clear hx
          obtain ⟨dk, hdk⟩ : ∃ d, demN l a b k = d := ⟨_, rfl⟩
          rw [hdk] at HBD
          have HDK := Lib.hid hdk
          have HW := Lib.hid (show wrap64 (dk + x3) = demN l a b (k + 1) from by rw [HN.out, hdk, HX.out.1]; unfold wrap64; omega)
          rw [hdk]
          clear hdk HBD hx1 hx2 h1 h2
          go_wp2
          go_roundg (l.length - (k + 1))
          case measure => omega
          case rel => exact ⟨k + 1, by omega, rfl, by first | exact congrArg (Value.int .i64) HW.out | (rw [← HW.out]; rfl), by go_num, HB.out⟩
        · have d2 : decide (x2 ≤ b) = false := decide_eq_false h2
          have HN := Lib.hid (show demN l a b (k + 1) = _ from dem_out (by intro hh; have g1 : a ≤ (rqAt l k).2.1 := hh.1; have g2 : (rqAt l k).2.2.1 ≤ b := hh.2; rw [HE.out] at g1 g2; simp only [] at g1 g2; omega))
          have HBD := demN_bounds HOK.out a b k (by omega)
          clear HBD
          go_wp2
          go_roundg (l.length - (k + 1))
          case measure => omega
          case rel => exact ⟨k + 1, by omega, rfl, by rw [HN.out], by go_num, HB.out⟩
      · have d1 : decide (a ≤ x1) = false := decide_eq_false h1
        have HN := Lib.hid (show demN l a b (k + 1) = _ from dem_out (by intro hh; have g1 : a ≤ (rqAt l k).2.1 := hh.1; have g2 : (rqAt l k).2.2.1 ≤ b := hh.2; rw [HE.out] at g1 g2; simp only [] at g1 g2; omega))
        have HBD := demN_bounds HOK.out a b k (by omega)
        clear HBD
        go_wp2
        go_roundg (l.length - (k + 1))
        case measure => omega
        case rel => exact ⟨k + 1, by omega, rfl, by rw [HN.out], by go_num, HB.out⟩
    · have hd : decide (k < l.length) = false := by simp; omega
      have hd' : decide ((k : Int) < (l.length : Int)) = false := by simp; omega
      obtain rfl : k = l.length := by omega
      clear hlt
      go_wp2
      go_ret
      exact ⟨by rw [HV.out]; first | done | rfl, HB.out⟩
end Go.Proofs.Ytdfcamlnebcbpac
