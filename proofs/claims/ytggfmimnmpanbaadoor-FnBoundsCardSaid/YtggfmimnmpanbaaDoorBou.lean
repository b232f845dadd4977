/- What this text proves: the contracts of the program's and the model's BoundsOf. -/
import Derived.Test.YtggfmimnmpanbaaDoorPok
import Derived.Deep.Cut
import Derived.Deep.CutRange
import Derived.BigQuiet
namespace Go.Proofs.YtggfmimnmpanbaaDoor
open Go.ChangeShapes Go.WideShapes Go.ChangeAt Go.RowKit
set_option linter.unusedVariables false

abbrev boV (r : Int × Int × Bool) : Value := .tuple #[.int .i64 r.1, .int .i64 r.2.1, .bool r.2.2]
set_option maxRecDepth 20000 in
set_option maxHeartbeats 4000000 in
theorem bou_impl (A : Option Addr) (l : List Pr) (c : Nat) (b : Int) (hl : l.length ≤ 2000000) (w : World) (hv : Bfr w) (hz : Bhd w) (h : LsI 2 w w.heap.size A (l.map prC)) :
    Calls Tryd.prog 14 #[.slice A l.length c, .int .i64 b] w fun e w' => e = .returned (boV (bouR l b)) ∧ Below w.heap.size w w' := by
  have hP := pok_impl A l c hl w hv h
  by_cases hok : PrsOk l
  · rw [decide_eq_true hok] at hP
    have HP := Lib.hid hP
    clear hP
    have hS := sh_impl b
    by_cases hb : 0 ≤ b ∧ b ≤ 2000000
    · rw [decide_eq_true hb] at hS
      have HS := Lib.hid hS
      clear hS
      have HV := Lib.hid (show bouR l b = ((lesF l b l.length).2 + 1, (greF l b l.length).2 - 1, true) from if_pos ⟨hok, hb⟩)
      have HI := Lib.hid (fun W (hb : Below w.heap.size w W) => h.more hb)
      have HVR := Lib.hid (fun W (hb : Below w.heap.size w W) => hv.moreAt hv.lt hb hb.size)
      have HZR := Lib.hid (fun W (hb : Below w.heap.size w W) => hz.moreAt hz.lt hb hb.size)
      have LN := lesF_num hok b l.length (Nat.le_refl _)
      have GN := greF_num hok b l.length (Nat.le_refl _)
      have HOK := Lib.hid hok
      clear hb hok h
      go_enter Tryd.func14, Tryd.ntmps14
      go_wp2_with fail
      refine HP.out.mono ?_
      rintro e w1 ⟨rfl, hb1⟩
      have S1 := Lib.hid ((St.start w).more hb1)
      have V1 := Lib.hid (HVR.out _ hb1)
      have Z1 := Lib.hid (HZR.out _ hb1)
      clear hb1 HP hv hz
      go_wp2_with fail
      refine (HS.out _).mono ?_
      rintro e w2 ⟨rfl, rfl⟩
      go_upto_region 3 with fail
      have v0 := V1.out.c0
      have v1 := V1.out.c1
      have z0 := Z1.out.c0
      have z1 := Z1.out.c1
      have vl := V1.out.lt
      have zl := Z1.out.lt
      go_cut [7, 8] from 19 to 20 (fun s7 s8 wx => ∃ g7 g8 : Nat, s7 = .pointer (some ⟨g7, 0, none⟩) ∧ s8 = .pointer (some ⟨g8, 0, none⟩) ∧ St w wx [boxT g7 (prL (-1) (-1)), boxT g8 (prL 2000001 1000001)])
      case first =>
        go_region
        all_goals go_wp2_with fail
        all_goals go_meet
        · have Y : St w ((w1.alloc (.cells (prL (-1) (-1)).toArray 32)).alloc (.cells (prL 2000001 1000001).toArray 32)).drew [boxT (w1.heap.size + 1) (prL 2000001 1000001), boxT w1.heap.size (prL (-1) (-1))] := by
            have hh := ((S1.out.made (prL (-1) (-1)) 32).made (prL 2000001 1000001) 32).drew
            simpa using hh
          exact ⟨w1.heap.size, w1.heap.size + 1, rfl, rfl, Y.pick [1, 0] (by decide)⟩
        · have Y : St w ((w1.alloc (.cells (prL 2000001 1000001).toArray 32)).alloc (.cells (prL (-1) (-1)).toArray 32)).drew [boxT (w1.heap.size + 1) (prL (-1) (-1)), boxT w1.heap.size (prL 2000001 1000001)] := by
            have hh := ((S1.out.made (prL 2000001 1000001) 32).made (prL (-1) (-1)) 32).drew
            simpa using hh
          exact ⟨w1.heap.size + 1, w1.heap.size, rfl, rfl, Y.pick [0, 1] (by decide)⟩
      case rest =>
        obtain ⟨g7, g8, rfl, rfl, hT⟩ := hcut
        generalize wc = w3 at *
        have S3 := Lib.hid hT
        clear hT S1 V1 Z1 v0 v1 z0 z1 vl zl HS
        go_wp2
        go_loopg [23] l.length (fun gh v wx => ∃ k : Nat, k ≤ l.length ∧ gh = l.length - k ∧ v = .int .i64 (k : Int) ∧ St w wx [boxT g7 (prL (lesF l b k).1 (lesF l b k).2), boxT g8 (prL (greF l b k).1 (greF l b k).2)])
        case atStart => exact ⟨0, by omega, rfl, rfl, S3.out⟩
        case round =>
          obtain ⟨k, hk, rfl, rfl, hst⟩ := hrel
          clear S3
          by_cases hlt : k < l.length
          · have hd : decide (k < l.length) = true := by simp; omega
            have hd' : decide ((k : Int) < (l.length : Int)) = true := by simp; omega
            obtain ⟨bb, off, rfl, hb, hc⟩ := prCellsI (b := 0) (off := 0) (HI.out _ hst.below) (by omega)
            obtain ⟨c0, c1⟩ := hc k hlt
            obtain ⟨x, y, hx1, hx2⟩ := pair_at hlt
            rw [hx1] at c0 c1
            simp only [] at c0 c1
            have Z3 := HZR.out _ hst.below
            have z0 := Z3.c0
            have z1 := Z3.c1
            have zl := Z3.lt
            obtain ⟨u, v, hu⟩ : ∃ u v, lesF l b k = (u, v) := ⟨_, _, rfl⟩
            obtain ⟨u2, v2, hu2⟩ : ∃ u v, greF l b k = (u, v) := ⟨_, _, rfl⟩
            have EL := Lib.hid (show lesF l b (k + 1) = if x < b then (x, y) else (u, v) from by show (if (pAt l k).1 < b then pAt l k else lesF l b k) = _; rw [hx2, hu])
            have EG := Lib.hid (show greF l b (k + 1) = if b < x ∧ (u2, v2) = behAll then (x, y) else (u2, v2) from by show (if b < (pAt l k).1 ∧ greF l b k = behAll then pAt l k else greF l b k) = _; rw [hx2, hu2])
            rw [hu, hu2] at hst
            simp only [] at hst
            have S4 := Lib.hid (hst.made (prL x y) 32)
            obtain ⟨q0, q1⟩ : _ ∧ _ := ⟨(hst.box 0 _ _ rfl).cell 0 (by simp), (hst.box 0 _ _ rfl).cell 1 (by simp)⟩
            obtain ⟨q2, q3⟩ : _ ∧ _ := ⟨(hst.box 1 _ _ rfl).cell 0 (by simp), (hst.box 1 _ _ rfl).cell 1 (by simp)⟩
            have ql := (hst.box 0 _ _ rfl).lt
            have ql2 := (hst.box 1 _ _ rfl).lt
            have qi := (hst.box 0 _ _ rfl).ice
            have qi2 := (hst.box 1 _ _ rfl).ice
            have n1 : (wr.setCell ⟨g7, 0, none⟩ (.int .i64 x)).cell? ⟨g7, 1, none⟩ = some (.int .i64 v) := ((hst.box 0 _ _ rfl).set 0 (by simp) (.int .i64 x)).cell 1 (by simp)
            have n2 : (wr.setCell ⟨g8, 0, none⟩ (.int .i64 x)).cell? ⟨g8, 1, none⟩ = some (.int .i64 v2) := ((hst.box 1 _ _ rfl).set 0 (by simp) (.int .i64 x)).cell 1 (by simp)
            have SL := Lib.hid ((hst.setAll 0 g7 _ rfl (prL x y) rfl).made (prL x y) 32)
            have SG := Lib.hid ((hst.setAll 1 g8 _ rfl (prL x y) rfl).made (prL x y) 32)
            clear hc hx1 hx2 hu hu2 hst Z3
            rcases Int.lt_trichotomy x b with h1 | h1 | h1
            · have d1 : decide (x < b) = true := by simpa using h1
              have d2 : decide (b < x) = false := by simp; omega
              have EL := Lib.hid (EL.out.trans (if_pos h1))
              have EG := Lib.hid (EG.out.trans (if_neg (fun h => by omega)))
              have HR := Lib.hid (show St w _ [boxT g7 (prL (lesF l b (k + 1)).1 (lesF l b (k + 1)).2), boxT g8 (prL (greF l b (k + 1)).1 (greF l b (k + 1)).2)] from by rw [EL.out, EG.out]; exact SL.out.pick [1, 2] (by decide))
              clear S4 EL EG h1 HVR HZR HI HOK HV LN GN
              go_wp2
              go_roundg (l.length - (k + 1))
              case measure => omega
              case rel => exact ⟨k + 1, by omega, rfl, by go_num, HR.out⟩
            · have d1 : decide (x < b) = false := by simp; omega
              have d2 : decide (b < x) = false := by simp; omega
              have EL := Lib.hid (EL.out.trans (if_neg (by omega)))
              have EG := Lib.hid (EG.out.trans (if_neg (fun h => by omega)))
              have HR := Lib.hid (show St w _ [boxT g7 (prL (lesF l b (k + 1)).1 (lesF l b (k + 1)).2), boxT g8 (prL (greF l b (k + 1)).1 (greF l b (k + 1)).2)] from by rw [EL.out, EG.out]; exact S4.out.pick [1, 2] (by decide))
              clear S4 EL EG h1 HVR HZR HI HOK HV LN GN
              go_wp2
              go_roundg (l.length - (k + 1))
              case measure => omega
              case rel => exact ⟨k + 1, by omega, rfl, by go_num, HR.out⟩
            · have d1 : decide (x < b) = false := by simp; omega
              have d2 : decide (b < x) = true := by simpa using h1
              have EL := Lib.hid (EL.out.trans (if_neg (by omega)))
              by_cases e1 : u2 = 2000001
              · by_cases e2 : v2 = 1000001
                · have EG := Lib.hid (EG.out.trans (if_pos ⟨h1, by rw [e1, e2]⟩))
                  have HR := Lib.hid (show St w _ [boxT g7 (prL (lesF l b (k + 1)).1 (lesF l b (k + 1)).2), boxT g8 (prL (greF l b (k + 1)).1 (greF l b (k + 1)).2)] from by rw [EL.out, EG.out]; exact SG.out.pick [1, 2] (by decide))
                  clear S4 EL EG h1 HVR HZR HI HOK HV LN GN
                  go_wp2
                  go_roundg (l.length - (k + 1))
                  case measure => omega
                  case rel => exact ⟨k + 1, by omega, rfl, by go_num, HR.out⟩
                · have EG := Lib.hid (EG.out.trans (if_neg (fun h => e2 (congrArg Prod.snd h.2))))
                  have HR := Lib.hid (show St w _ [boxT g7 (prL (lesF l b (k + 1)).1 (lesF l b (k + 1)).2), boxT g8 (prL (greF l b (k + 1)).1 (greF l b (k + 1)).2)] from by rw [EL.out, EG.out]; exact S4.out.pick [1, 2] (by decide))
                  clear S4 EL EG h1 HVR HZR HI HOK HV LN GN
                  go_wp2
                  go_roundg (l.length - (k + 1))
                  case measure => omega
                  case rel => exact ⟨k + 1, by omega, rfl, by go_num, HR.out⟩
              · have EG := Lib.hid (EG.out.trans (if_neg (fun h => e1 (congrArg Prod.fst h.2))))
                have HR := Lib.hid (show St w _ [boxT g7 (prL (lesF l b (k + 1)).1 (lesF l b (k + 1)).2), boxT g8 (prL (greF l b (k + 1)).1 (greF l b (k + 1)).2)] from by rw [EL.out, EG.out]; exact S4.out.pick [1, 2] (by decide))
                clear S4 EL EG h1 HVR HZR HI HOK HV LN GN
                go_wp2
                go_roundg (l.length - (k + 1))
                case measure => omega
                case rel => exact ⟨k + 1, by omega, rfl, by go_num, HR.out⟩
          · have hd : decide (k < l.length) = false := by simp; omega
            have hd' : decide ((k : Int) < (l.length : Int)) = false := by simp; omega
            obtain rfl : k = l.length := by omega
            generalize lesF l b l.length = LL at *
            generalize greF l b l.length = GG at *
            obtain ⟨L1, L2⟩ := LL
            obtain ⟨G1, G2⟩ := GG
            simp only [] at LN GN HV hst
            have SS := Lib.hid hst
            obtain ⟨q0, q1⟩ : _ ∧ _ := ⟨(hst.box 0 _ _ rfl).cell 0 (by simp), (hst.box 0 _ _ rfl).cell 1 (by simp)⟩
            obtain ⟨q2, q3⟩ : _ ∧ _ := ⟨(hst.box 1 _ _ rfl).cell 0 (by simp), (hst.box 1 _ _ rfl).cell 1 (by simp)⟩
            have w1 : IntKind.i64.wrap (L2 + 1) = L2 + 1 := IntWalk.i64_in _ (by omega)
            have w2 : IntKind.i64.wrap (G2 - 1) = G2 - 1 := IntWalk.i64_in _ (by omega)
            have w1' : wrap64 (L2 + 1) = L2 + 1 := by unfold wrap64; omega
            have w2' : wrap64 (G2 - 1) = G2 - 1 := by unfold wrap64; omega
            clear hlt hst LN GN HVR HZR HI HOK
            go_wp2
            go_quiet (fail)
            go_wp2
            go_ret3
            exact ⟨by rw [HV.out]; rfl, SS.out.below.trans (below_draws (Below.refl _ _) _ |>.mono SS.out.below.size)⟩
    · rw [decide_eq_false hb] at hS
      have HS := Lib.hid hS
      have HV := Lib.hid (show bouR l b = (0, 0, false) from if_neg (fun h => hb h.2))
      clear hb hok h hS hv hz
      go_enter Tryd.func14, Tryd.ntmps14
      go_wp2_with fail
      refine HP.out.mono ?_
      rintro e w1 ⟨rfl, hb1⟩
      have HB := Lib.hid hb1
      clear hb1
      go_wp2_with fail
      refine (HS.out _).mono ?_
      rintro e w2 ⟨rfl, rfl⟩
      go_wp2
      go_ret3
      exact ⟨by rw [HV.out]; rfl, HB.out⟩
  · rw [decide_eq_false hok] at hP
    have HP := Lib.hid hP
    have HV := Lib.hid (show bouR l b = (0, 0, false) from if_neg (fun h => hok h.1))
    clear hok h hv hz hP
    go_enter Tryd.func14, Tryd.ntmps14
    go_wp2_with fail
    refine HP.out.mono ?_
    rintro e w1 ⟨rfl, hb1⟩
    have HB := Lib.hid hb1
    clear hb1
    go_wp2
    go_ret3
    exact ⟨by rw [HV.out]; rfl, HB.out⟩

set_option maxRecDepth 20000 in
set_option maxHeartbeats 4000000 in
theorem bou_spec (A : Option Addr) (l : List Pr) (c : Nat) (b : Int) (hl : l.length ≤ 2000000) (w : World) (h : LsI 2 w w.heap.size A (l.map prC)) :
    Calls Tryd.prog 26 #[.slice A l.length c, .int .i64 b] w fun e w' => e = .returned (boV (bouR l b)) ∧ Below w.heap.size w w' := by
  have hP := pok_spec A l c hl w h
  by_cases hok : PrsOk l
  · rw [decide_eq_true hok] at hP
    have HP := Lib.hid hP
    clear hP
    have hS := in_anyP b 0 2000000
    by_cases hb : 0 ≤ b ∧ b ≤ 2000000
    · rw [decide_eq_true hb] at hS
      have HS := Lib.hid hS
      clear hS
      have HV := Lib.hid (show bouR l b = ((lesF l b l.length).2 + 1, (greF l b l.length).2 - 1, true) from if_pos ⟨hok, hb⟩)
      have HI := Lib.hid (fun W (hb : Below w.heap.size w W) => h.more hb)
      have HLN := Lib.hid (fun n hn => lesF_num hok b n hn)
      have HEND := Lib.hid (fun k (hk : k < l.length) h1 h2 => les_end (b := b) hok hk h1 h2)
      have HAT := Lib.hid (fun k (hk : k < l.length) => hok.at hk)
      clear hb hok h
      go_enter Tryd.func26, Tryd.ntmps26
      go_wp2_with fail
      refine HP.out.mono ?_
      rintro e w1 ⟨rfl, hb1⟩
      have HB1 := Lib.hid hb1
      clear hb1 HP
      go_wp2_with fail
      refine (HS.out _).mono ?_
      rintro e w2 ⟨rfl, rfl⟩
      clear HS
      go_wp2
      go_loopg [7, 8, 9] l.length (fun gh v7 v8 v9 wx => ∃ k : Nat, k ≤ l.length ∧ gh = l.length - k ∧ v9 = .int .i64 (k : Int) ∧ v7 = .int .i64 ((lesF l b k).2 + 1) ∧ v8 = .int .i64 1000000 ∧ greF l b k = behAll ∧ Below w.heap.size w wx)
      case atStart => exact ⟨0, by omega, rfl, rfl, rfl, rfl, rfl, HB1.out⟩
      case round =>
        obtain ⟨k, hk, rfl, rfl, rfl, rfl, hg, hbel⟩ := hrel
        have HB := Lib.hid hbel
        clear HB1
        by_cases hlt : k < l.length
        · have hd : decide (k < l.length) = true := by simp; omega
          have hd' : decide ((k : Int) < (l.length : Int)) = true := by simp; omega
          obtain ⟨bb, off, rfl, hb, hc⟩ := prCellsI (b := 0) (off := 0) (HI.out _ hbel) (by omega)
          obtain ⟨c0, c1⟩ := hc k hlt
          obtain ⟨x, y, hx1, hx2⟩ := pair_at hlt
          rw [hx1] at c0 c1
          simp only [] at c0 c1
          have hin := HAT.out k hlt
          rw [hx2] at hin
          obtain ⟨_, hin2⟩ : _ ∧ (0 ≤ y ∧ y ≤ 1000000) := hin
          have EL := Lib.hid (show lesF l b (k + 1) = if x < b then (x, y) else lesF l b k from by show (if (pAt l k).1 < b then pAt l k else lesF l b k) = _; rw [hx2])
          have EG := Lib.hid (show ¬ b < x → greF l b (k + 1) = behAll from fun hn => by show (if b < (pAt l k).1 ∧ greF l b k = behAll then pAt l k else greF l b k) = _; rw [hx2, if_neg (fun h => hn h.1), hg])
          have EE := Lib.hid (show b < x → bouR l b = ((lesF l b k).2 + 1, y - 1, true) from fun hn => by
            obtain ⟨e1, e2⟩ := HEND.out k hlt (by rw [hx2]; exact hn) hg
            rw [HV.out, e1, e2, hx2])
          have wy : IntKind.i64.wrap (y + 1) = y + 1 := IntWalk.i64_in _ (by omega)
          have wy2 : IntKind.i64.wrap (y - 1) = y - 1 := IntWalk.i64_in _ (by omega)
          have wy' : wrap64 (y + 1) = y + 1 := by unfold wrap64; omega
          have wy2' : wrap64 (y - 1) = y - 1 := by unfold wrap64; omega
          clear hc hx1 hx2 hg hbel hin2
          rcases Int.lt_trichotomy x b with h1 | h1 | h1
          · have d1 : decide (x < b) = true := by simpa using h1
            have d2 : decide (b < x) = false := by simp; omega
            have EL2 := Lib.hid (EL.out.trans (if_pos h1))
            have EG2 := Lib.hid (EG.out (by omega))
            clear h1 EE HLN HEND HAT HI EL EG
            generalize lesF l b k = Lk at *
            go_wp2
            go_roundg (l.length - (k + 1))
            case measure => omega
            case rel => exact ⟨k + 1, by omega, rfl, by go_num, by rw [EL2.out], rfl, EG2.out, HB.out⟩
          · have d1 : decide (x < b) = false := by simp; omega
            have d2 : decide (b < x) = false := by simp; omega
            have EL2 := Lib.hid (EL.out.trans (if_neg (by omega)))
            have EG2 := Lib.hid (EG.out (by omega))
            clear h1 EE HLN HEND HAT HI EL EG
            generalize lesF l b k = Lk at *
            go_wp2
            go_roundg (l.length - (k + 1))
            case measure => omega
            case rel => exact ⟨k + 1, by omega, rfl, by go_num, by rw [EL2.out], rfl, EG2.out, HB.out⟩
          · have d1 : decide (x < b) = false := by simp; omega
            have d2 : decide (b < x) = true := by simpa using h1
            have HR := Lib.hid (EE.out h1)
            clear h1 EE EL EG HLN HEND HAT HI
            generalize lesF l b k = Lk at *
            go_wp2
            go_ret3
            exact ⟨by rw [HR.out]; rfl, HB.out⟩
        · have hd : decide (k < l.length) = false := by simp; omega
          have hd' : decide ((k : Int) < (l.length : Int)) = false := by simp; omega
          obtain rfl : k = l.length := by omega
          have HR := Lib.hid (show bouR l b = ((lesF l b l.length).2 + 1, 1000000, true) from by rw [HV.out, hg]; rfl)
          clear hlt hg hbel HLN HEND HAT HI HV
          generalize lesF l b l.length = Lk at *
          go_wp2
          go_ret3
          exact ⟨by rw [HR.out]; rfl, HB.out⟩
    · rw [decide_eq_false hb] at hS
      have HS := Lib.hid hS
      have HV := Lib.hid (show bouR l b = (0, 0, false) from if_neg (fun h => hb h.2))
      clear hb hok h hS
      go_enter Tryd.func26, Tryd.ntmps26
      go_wp2_with fail
      refine HP.out.mono ?_
      rintro e w1 ⟨rfl, hb1⟩
      have HB := Lib.hid hb1
      clear hb1
      go_wp2_with fail
      refine (HS.out _).mono ?_
      rintro e w2 ⟨rfl, rfl⟩
      go_wp2
      go_ret3
      exact ⟨by rw [HV.out]; rfl, HB.out⟩
  · rw [decide_eq_false hok] at hP
    have HP := Lib.hid hP
    have HV := Lib.hid (show bouR l b = (0, 0, false) from if_neg (fun h => hok h.1))
    clear hok h hP
    go_enter Tryd.func26, Tryd.ntmps26
    go_wp2_with fail
    refine HP.out.mono ?_
    rintro e w1 ⟨rfl, hb1⟩
    have HB := Lib.hid hb1
    clear hb1
    go_wp2
    go_ret3
    exact ⟨by rw [HV.out]; rfl, HB.out⟩

end Go.Proofs.YtggfmimnmpanbaaDoor
