/- What this text proves: the contracts of the program's and the model's PairsOk. -/
import Derived.Test.YtggfmimnmpanbaaDoorPbf
import Derived.Test.YtggfmimnmpanbaaDoorPbm
import Derived.Test.YtggfmimnmpanbaaDoorDrf
import Derived.Deep.LoopGhost
import Derived.BigQuiet
import Derived.BigRegion
import Derived.Outline
namespace Go.Proofs.YtggfmimnmpanbaaDoor
open Go.ChangeShapes Go.WideShapes Go.ChangeAt Go.RowKit
set_option linter.unusedVariables false

theorem sh_impl (b : Int) (w : World) :
    Calls Tryd.prog 35 #[.int .i64 b] w fun e w' => e = .returned (.bool (decide (0 ≤ b ∧ b ≤ 2000000))) ∧ w = w' := by
  have H1 := Lib.hid (iw_anyD b 0 2000000)
  generalize decide (0 ≤ b ∧ b ≤ 2000000) = t at *
  go_enter Tryd.func35, Tryd.ntmps35
  go_wp2_with fail
  refine (H1.out _).mono ?_
  rintro e w' ⟨rfl, rfl⟩
  go_wp2
  go_ret
  exact ⟨rfl, rfl⟩
theorem pair_at {l : List Pr} {k : Nat} (hk : k < l.length) : ∃ x y, l[k] = (x, y) ∧ pAt l k = (x, y) := ⟨l[k].1, l[k].2, rfl, by rw [← pAt_eq hk]⟩
theorem pair_bef (l : List Pr) (k : Nat) : ∃ u v, befP l k = (u, v) := ⟨_, _, rfl⟩
set_option maxRecDepth 20000 in
set_option maxHeartbeats 4000000 in
theorem pok_impl (A : Option Addr) (l : List Pr) (c : Nat) (hl : l.length ≤ 2000000) (w : World) (hv : Bfr w) (h : LsI 2 w w.heap.size A (l.map prC)) :
    Calls Tryd.prog 17 #[.slice A l.length c] w fun e w' => e = .returned (.bool (decide (PrsOk l))) ∧ Below w.heap.size w w' := by
  have HN := Lib.hid (show ¬ PrsOk l → decide (PrsOk l) = false from fun h => decide_eq_false h)
  have HYS := Lib.hid (show PrsOk l → decide (PrsOk l) = true from fun h => decide_eq_true h)
  by_cases hn : l.length ≤ 200
  · have dn : decide (200 < l.length) = false := by simp; omega
    have dn' : decide ((200 : Int) < (l.length : Int)) = false := by simp; omega
    have HI := Lib.hid (fun W (hb : Below w.heap.size w W) => h.more hb)
    have HPB := Lib.hid (pb_impl w hv)
    have HC := Lib.hid (fun g a b x y W (hB : Box W g (prL x y)) => pbc_impl g a b x y W hB)
    have HS := Lib.hid (fun b W => sh_impl b W)
    have HW := Lib.hid (fun a b c W => iw_anyD a b c W)
    have S1 := Lib.hid ((St.start w).made (prL (-1) (-1)) 32)
    clear h hv
    go_enter Tryd.func17, Tryd.ntmps17
    go_wp2_with fail
    refine HPB.out.mono ?_
    rintro e w1 ⟨rfl, rfl⟩
    clear HPB
    go_wp2
    go_loopg [13] l.length (fun gh v wx => ∃ k : Nat, k ≤ l.length ∧ gh = l.length - k ∧ v = .int .i64 (k : Int) ∧ PrUp l k ∧ St w wx [boxT w.heap.size (prL (befP l k).1 (befP l k).2)])
    case atStart => exact ⟨0, by omega, rfl, rfl, PrUp.zero l, S1.out⟩
    case round =>
      obtain ⟨k, hk, rfl, rfl, hup, hst⟩ := hrel
      have HUP := Lib.hid hup
      clear hup S1
      by_cases hlt : k < l.length
      · have hd : decide (k < l.length) = true := by simp; omega
        have hd' : decide ((k : Int) < (l.length : Int)) = true := by simp; omega
        obtain ⟨bb, off, rfl, hb, hc⟩ := prCellsI (b := 0) (off := 0) (HI.out _ hst.below) (by omega)
        obtain ⟨c0, c1⟩ := hc k hlt
        obtain ⟨x, y, hx1, hx2⟩ := pair_at hlt
        obtain ⟨u, v, hu⟩ := pair_bef l k
        rw [hx1] at c0 c1
        rw [hu] at hst
        simp only [] at c0 c1 hst
        have HX := Lib.hid hx2
        have HU := Lib.hid hu
        have SS := Lib.hid hst
        have S2 := Lib.hid (hst.made (prL x y) 32)
        have HNX := Lib.hid (show PrAf (x, y) (u, v) → PrUp l (k + 1) from fun h => HUP.out.succ (by rw [hx2, hu]; exact h))
        have HNO := Lib.hid (show ¬ PrAf (x, y) (u, v) → decide (PrsOk l) = false from fun h => HN.out fun g => PrUp.not (n := l.length) hlt (by rw [hx2, hu]; exact h) g.2)
        have HBF := Lib.hid (show befP l (k + 1) = (x, y) from hx2)
        clear hc hx1 hx2 hu hst
        go_wp2_with fail
        refine (HC.out _ _ _ _ _ _ (S2.out.box 1 _ _ rfl)).mono ?_
        rintro e w2 ⟨rfl, hB, hT⟩
        have S3 := Lib.hid (S2.out.put 1 _ rfl hT (fun k hk => hk) (boxT w.heap.size (prL x y)) hB (fun k hk => .inl hk))
        have S4 := Lib.hid (S3.out.made (prL u v) 32)
        have p0 := (S3.out.box 0 _ _ rfl).cell 0 (by simp)
        have p1 := (S3.out.box 0 _ _ rfl).cell 1 (by simp)
        have pl := (S3.out.box 0 _ _ rfl).lt
        have S5 := Lib.hid (show St w _ [boxT w.heap.size (prL (befP l (k + 1)).1 (befP l (k + 1)).2)] from by rw [HBF.out]; exact S4.out.pick [2] (by decide))
        clear hB hT c0 c1
        have H1 := HS.out x
        by_cases h1 : 0 ≤ x ∧ x ≤ 2000000
        · rw [decide_eq_true h1] at H1
          have H1 := Lib.hid H1
          have H2 := HW.out y 0 1000000
          by_cases h2 : 0 ≤ y ∧ y ≤ 1000000
          · rw [decide_eq_true h2] at H2
            have H2 := Lib.hid H2
            by_cases h3 : u < x
            · have d3 : decide (x ≤ u) = false := by simp; omega
              by_cases h4 : v < y
              · have d4 : decide (y ≤ v) = false := by simp; omega
                have HP := Lib.hid (HNX.out ⟨⟨h1, h2⟩, h3, h4⟩)
                clear h1 h2 h3 h4
                go_wp2_with fail
                refine (H1.out _).mono ?_
                rintro e w3 ⟨rfl, rfl⟩
                go_wp2_with fail
                refine (H2.out _).mono ?_
                rintro e w3 ⟨rfl, rfl⟩
                go_wp2
                go_roundg (l.length - (k + 1))
                case measure => omega
                case rel => exact ⟨k + 1, by omega, rfl, by go_num, HP.out, S5.out⟩
              · have d4 : decide (y ≤ v) = true := by simp; omega
                have HV := Lib.hid (HNO.out (fun h => h4 h.2.2))
                clear h1 h2 h3 h4
                go_wp2_with fail
                refine (H1.out _).mono ?_
                rintro e w3 ⟨rfl, rfl⟩
                go_wp2_with fail
                refine (H2.out _).mono ?_
                rintro e w3 ⟨rfl, rfl⟩
                go_wp2
                go_ret
                exact ⟨by rw [HV.out]; rfl, S4.out.below⟩
            · have d3 : decide (x ≤ u) = true := by simp; omega
              have HV := Lib.hid (HNO.out (fun h => h3 h.2.1))
              clear h1 h2 h3
              go_wp2_with fail
              refine (H1.out _).mono ?_
              rintro e w3 ⟨rfl, rfl⟩
              go_wp2_with fail
              refine (H2.out _).mono ?_
              rintro e w3 ⟨rfl, rfl⟩
              go_wp2
              go_ret
              exact ⟨by rw [HV.out]; rfl, S4.out.below⟩
          · rw [decide_eq_false h2] at H2
            have H2 := Lib.hid H2
            have HV := Lib.hid (HNO.out (fun h => h2 h.1.2))
            clear h1 h2
            go_wp2_with fail
            refine (H1.out _).mono ?_
            rintro e w3 ⟨rfl, rfl⟩
            go_wp2_with fail
            refine (H2.out _).mono ?_
            rintro e w3 ⟨rfl, rfl⟩
            go_wp2
            go_ret
            exact ⟨by rw [HV.out]; rfl, S4.out.below⟩
        · rw [decide_eq_false h1] at H1
          have H1 := Lib.hid H1
          have HV := Lib.hid (HNO.out (fun h => h1 h.1.1))
          clear h1
          go_wp2_with fail
          refine (H1.out _).mono ?_
          rintro e w3 ⟨rfl, rfl⟩
          go_wp2
          go_ret
          exact ⟨by rw [HV.out]; rfl, S4.out.below⟩
      · have hd : decide (k < l.length) = false := by simp; omega
        have hd' : decide ((k : Int) < (l.length : Int)) = false := by simp; omega
        obtain rfl : k = l.length := by omega
        have HV := Lib.hid (HYS.out ⟨hn, HUP.out⟩)
        have SS := Lib.hid hst
        clear hlt hst
        go_wp2
        go_ret
        exact ⟨by rw [HV.out]; rfl, SS.out.below⟩
  · have dn : decide (200 < l.length) = true := by simp; omega
    have dn' : decide ((200 : Int) < (l.length : Int)) = true := by simp; omega
    have HV := Lib.hid (HN.out (fun h => hn h.1))
    clear hn h hv
    go_enter Tryd.func17, Tryd.ntmps17
    go_wp2
    go_ret
    exact ⟨by rw [HV.out]; rfl, Below.refl _ _⟩

set_option maxRecDepth 20000 in
set_option maxHeartbeats 4000000 in
theorem pok_spec (A : Option Addr) (l : List Pr) (c : Nat) (hl : l.length ≤ 2000000) (w : World) (h : LsI 2 w w.heap.size A (l.map prC)) :
    Calls Tryd.prog 19 #[.slice A l.length c] w fun e w' => e = .returned (.bool (decide (PrsOk l))) ∧ Below w.heap.size w w' := by
  have HN := Lib.hid (show ¬ PrsOk l → decide (PrsOk l) = false from fun h => decide_eq_false h)
  have HI := Lib.hid (fun W (hb : Below w.heap.size w W) => h.more hb)
  have HW := Lib.hid (fun a b c W => in_anyP a b c W)
  clear h
  go_enter Tryd.func19, Tryd.ntmps19
  go_wp2
  go_loopg [3] l.length (fun gh v wx => ∃ k : Nat, k ≤ l.length ∧ gh = l.length - k ∧ v = .int .i64 (k : Int) ∧ PrUp l k ∧ Below w.heap.size w wx)
  case atStart => exact ⟨0, by omega, rfl, rfl, PrUp.zero l, Below.refl _ _⟩
  case round =>
    obtain ⟨k, hk, rfl, rfl, hup, hbel⟩ := hrel
    have HUP := Lib.hid hup
    clear hup
    by_cases hlt : k < l.length
    · have hd : decide (k < l.length) = true := by simp; omega
      have hd' : decide ((k : Int) < (l.length : Int)) = true := by simp; omega
      obtain ⟨bb, off, rfl, hb, hc⟩ := prCellsI (b := 0) (off := 0) (HI.out _ hbel) (by omega)
      obtain ⟨c0, c1⟩ := hc k hlt
      obtain ⟨x, y, hx1, hx2⟩ := pair_at hlt
      obtain ⟨u, v, hu⟩ := pair_bef l k
      rw [hx1] at c0 c1
      simp only [] at c0 c1
      have hbb : bb < wr.heap.size := Nat.lt_of_lt_of_le hb hbel.size
      have SB := Lib.hid (hbel.alloc hbel.size (.cells (prL x y).toArray 32))
      have HNX := Lib.hid (show PrAf (x, y) (u, v) → PrUp l (k + 1) from fun h => HUP.out.succ (by rw [hx2, hu]; exact h))
      have HNO := Lib.hid (show ¬ PrAf (x, y) (u, v) → decide (PrsOk l) = false from fun h => HN.out fun g => PrUp.not (n := l.length) hlt (by rw [hx2, hu]; exact h) g.2)
      have H1 := HW.out x 0 2000000
      by_cases h1 : 0 ≤ x ∧ x ≤ 2000000
      · rw [decide_eq_true h1] at H1
        have H1 := Lib.hid H1
        have H2 := HW.out y 0 1000000
        by_cases h2 : 0 ≤ y ∧ y ≤ 1000000
        · rw [decide_eq_true h2] at H2
          have H2 := Lib.hid H2
          rcases Nat.eq_zero_or_pos k with h0 | h0
          · subst h0
            rw [Nat.zero_mul, Nat.add_zero] at c0 c1
            have HP := Lib.hid (HNX.out ⟨⟨h1, h2⟩, by
              have e : befAll = (u, v) := hu
              injection e with e1 e2
              omega⟩)
            clear hc hx1 hx2 hu h1 h2 hbel
            go_wp2
            go_quiet ((go_at_call 38; (first | (with_reducible exact Calls.quiet_of_same ((H1.out _).mono fun _ _ h => ⟨h.1, h.2.symm⟩)) | (with_reducible exact Calls.quiet_of_same ((H2.out _).mono fun _ _ h => ⟨h.1, h.2.symm⟩)))))
            go_wp2
            go_roundg (l.length - (0 + 1))
            case measure => omega
            case rel => exact ⟨0 + 1, by omega, rfl, by go_num, HP.out, SB.out.trans (below_draws (Below.refl _ _) _ |>.mono SB.out.size)⟩
          · obtain ⟨m, rfl⟩ : ∃ m, k = m + 1 := ⟨k - 1, by omega⟩
            have hm : m < l.length := by omega
            obtain ⟨e0, e1⟩ := hc m hm
            rw [pAt_eq hm, show pAt l m = (u, v) from hu] at e0 e1
            simp only [] at e0 e1
            have hd0 : decide (0 < m + 1) = true := by simp
            have hd0' : decide ((0 : Int) < ((m + 1 : Nat) : Int)) = true := decide_eq_true (by omega)
            have hw : IntKind.i64.wrap (((m + 1 : Nat) : Int) - 1) = (m : Int) := (IntWalk.i64_in _ (by omega)).trans (by omega)
            have hw' : IntKind.i64.wrap ((m : Int) + 1 - 1) = (m : Int) := (IntWalk.i64_in _ (by omega)).trans (by omega)
            have hw2 : wrap64 ((m : Int) + 1 - 1) = (m : Int) := by unfold wrap64; omega
            have hi1 : decide (m < l.length) = true := by simpa using hm
            have hi2 : decide ((m : Int) < (l.length : Int)) = true := by simp; omega
            by_cases h3 : u < x
            · have d3 : decide (x ≤ u) = false := by simp; omega
              by_cases h4 : v < y
              · have d4 : decide (y ≤ v) = false := by simp; omega
                have HP := Lib.hid (HNX.out ⟨⟨h1, h2⟩, h3, h4⟩)
                clear hc hx1 hx2 hu h1 h2 h3 h4 hbel
                go_wp2
                go_quiet ((go_at_call 38; (first | (with_reducible exact Calls.quiet_of_same ((H1.out _).mono fun _ _ h => ⟨h.1, h.2.symm⟩)) | (with_reducible exact Calls.quiet_of_same ((H2.out _).mono fun _ _ h => ⟨h.1, h.2.symm⟩)))))
                go_wp2
                go_roundg (l.length - (m + 1 + 1))
                case measure => omega
                case rel => exact ⟨m + 1 + 1, by omega, rfl, by go_num, HP.out, SB.out.trans (below_draws (Below.refl _ _) _ |>.mono SB.out.size)⟩
              · have d4 : decide (y ≤ v) = true := by simp; omega
                have HV := Lib.hid (HNO.out (fun h => h4 h.2.2))
                clear hc hx1 hx2 hu h1 h2 h3 h4 hbel
                go_wp2
                go_quiet ((go_at_call 38; (first | (with_reducible exact Calls.quiet_of_same ((H1.out _).mono fun _ _ h => ⟨h.1, h.2.symm⟩)) | (with_reducible exact Calls.quiet_of_same ((H2.out _).mono fun _ _ h => ⟨h.1, h.2.symm⟩)))))
                go_wp2
                go_ret
                exact ⟨by rw [HV.out]; rfl, SB.out.trans (below_draws (Below.refl _ _) _ |>.mono SB.out.size)⟩
            · have d3 : decide (x ≤ u) = true := by simp; omega
              have HV := Lib.hid (HNO.out (fun h => h3 h.2.1))
              clear hc hx1 hx2 hu h1 h2 h3 hbel
              go_wp2
              go_quiet ((go_at_call 38; (first | (with_reducible exact Calls.quiet_of_same ((H1.out _).mono fun _ _ h => ⟨h.1, h.2.symm⟩)) | (with_reducible exact Calls.quiet_of_same ((H2.out _).mono fun _ _ h => ⟨h.1, h.2.symm⟩)))))
              go_wp2
              go_ret
              exact ⟨by rw [HV.out]; rfl, SB.out.trans (below_draws (Below.refl _ _) _ |>.mono SB.out.size)⟩
        · rw [decide_eq_false h2] at H2
          have H2 := Lib.hid H2
          have HV := Lib.hid (HNO.out (fun h => h2 h.1.2))
          clear hc hx1 hx2 hu h1 h2 hbel
          go_wp2
          go_quiet ((go_at_call 38; (first | (with_reducible exact Calls.quiet_of_same ((H1.out _).mono fun _ _ h => ⟨h.1, h.2.symm⟩)) | (with_reducible exact Calls.quiet_of_same ((H2.out _).mono fun _ _ h => ⟨h.1, h.2.symm⟩)))))
          go_wp2
          go_ret
          exact ⟨by rw [HV.out]; rfl, SB.out.trans (below_draws (Below.refl _ _) _ |>.mono SB.out.size)⟩
      · rw [decide_eq_false h1] at H1
        have H1 := Lib.hid H1
        have HV := Lib.hid (HNO.out (fun h => h1 h.1.1))
        clear hc hx1 hx2 hu h1 hbel
        go_wp2
        go_quiet ((go_at_call 38; exact Calls.quiet_of_same ((H1.out _).mono fun _ _ h => ⟨h.1, h.2.symm⟩)))
        go_wp2
        go_ret
        exact ⟨by rw [HV.out]; rfl, SB.out.trans (below_draws (Below.refl _ _) _ |>.mono SB.out.size)⟩
    · have hd : decide (k < l.length) = false := by simp; omega
      have hd' : decide ((k : Int) < (l.length : Int)) = false := by simp; omega
      obtain rfl : k = l.length := by omega
      have SB := Lib.hid hbel
      by_cases hn : l.length ≤ 200
      · have dn : decide (l.length ≤ 200) = true := by simpa using hn
        have dn' : decide ((l.length : Int) ≤ 200) = true := by simp; omega
        have HV := Lib.hid (decide_eq_true (show PrsOk l from ⟨hn, HUP.out⟩))
        clear hlt hbel hn
        go_wp2
        go_ret
        exact ⟨by rw [HV.out]; rfl, SB.out⟩
      · have dn : decide (l.length ≤ 200) = false := by simpa using hn
        have dn' : decide ((l.length : Int) ≤ 200) = false := by simp; omega
        have HV := Lib.hid (HN.out (fun h => hn h.1))
        clear hlt hbel hn
        go_wp2
        go_ret
        exact ⟨by rw [HV.out]; rfl, SB.out⟩
end Go.Proofs.YtggfmimnmpanbaaDoor
