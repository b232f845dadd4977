/- What this text proves: the contract of the program's stretchFor. -/
import Derived.Test.YtggfmimnmpanbaaDoorPok
import Derived.Deep.Cut
import Derived.Deep.CutRange
import Derived.Deep.RegionHeld3
import Derived.BigQuiet
namespace Go.Proofs.YtggfmimnmpanbaaDoor
open Go.ChangeShapes Go.WideShapes Go.ChangeAt Go.RowKit
set_option linter.unusedVariables false

theorem segD_run {l : List Pr} {b : Int} (m : Nat) : ∀ (d k f : Nat), k + d = m → d ≤ f → (∀ j, k ≤ j → j < m → (pAt l j).1 < b) → segD l b f k = segD l b (f - d) m := by
  intro d
  induction d with
  | zero => intro k f h1 _ _; rw [show k = m by omega]; rfl
  | succ d ih =>
    intro k f h1 h2 h3
    obtain ⟨f', rfl⟩ : ∃ f', f = f' + 1 := ⟨f - 1, by omega⟩
    rw [segD_go f' (h3 k (Nat.le_refl _) (by omega)), ih (k + 1) f' (by omega) (by omega) (fun j a c => h3 j (by omega) c)]
    congr 1
    omega
theorem seg_stop {l : List Pr} {b : Int} {k : Nat} (h1 : 1 ≤ k) (hk : k < l.length) (h : ∀ j, 1 ≤ j → j < k → (pAt l j).1 < b) (hs : ¬ (pAt l k).1 < b) : segI l b = k := by
  unfold segI
  rw [segD_run k (k - 1) 1 (l.length - 2) (by omega) (by omega) h, segD_stop _ hs]
theorem seg_last {l : List Pr} {b : Int} {k : Nat} (h1 : 1 ≤ k) (hk : k + 1 = l.length) (h : ∀ j, 1 ≤ j → j < k → (pAt l j).1 < b) : segI l b = k := by
  unfold segI
  rw [segD_run k (k - 1) 1 (l.length - 2) (by omega) (by omega) h, show l.length - 2 - (k - 1) = 0 by omega]
  rfl
/-- Where the loop stands behind k pairs. -/
def stF (l : List Pr) : Nat → Pr × Pr
  | 0 => (befAll, befAll)
  | k + 1 => (befP l k, pAt l k)

set_option maxRecDepth 20000 in
set_option maxHeartbeats 4000000 in
theorem stf_impl (A : Option Addr) (l : List Pr) (c : Nat) (b : Int) (hl : l.length ≤ 2000000) (hok : PrsOk l) (h2 : 2 ≤ l.length) (X Y : Pr) (hX : pAt l (segI l b - 1) = X) (hY : pAt l (segI l b) = Y) (w : World) (hv : Bfr w) (h : LsI 2 w w.heap.size A (l.map prC)) :
    Calls Tryd.prog 36 #[.slice A l.length c, .int .i64 b] w fun e w' => e = .returned (.tuple #[prV X.1 X.2, prV Y.1 Y.2]) ∧ Below w.heap.size w w' := by
  have HI := Lib.hid (fun W (hb : Below w.heap.size w W) => h.more hb)
  have HVR := Lib.hid (fun W (hb : Below w.heap.size w W) => hv.moreAt hv.lt hb hb.size)
  have HPB := Lib.hid (fun W (hv : Bfr W) => pb_impl W hv)
  have HC := Lib.hid (fun g a b x y W (hB : Box W g (prL x y)) => pbc_impl g a b x y W hB)
  have HAT := Lib.hid (fun k (hk : k < l.length) => hok.at hk)
  have HN2 := Lib.hid h2
  have HXX := Lib.hid hX
  have HYY := Lib.hid hY
  have S0 := Lib.hid (((St.start w).made (prL 0 0) 32).made (prL 0 0) 32)
  have HSZ := Lib.hid (show ((w.alloc (.cells #[.int .i64 0, .int .i64 0] 32)).alloc (.cells #[.int .i64 0, .int .i64 0] 32)).heap.size = w.heap.size + 2 from by simp)
  have S1 := Lib.hid (show St w ((w.alloc (.cells #[.int .i64 0, .int .i64 0] 32)).alloc (.cells #[.int .i64 0, .int .i64 0] 32)) [boxT (w.heap.size + 1) (prL 0 0), boxT w.heap.size (prL 0 0)] from by simpa using S0.out)
  clear S0 h h2 hok hv hX hY
  go_enter Tryd.func36, Tryd.ntmps36
  go_upto_region 1 with fail
  generalize ((w.alloc (.cells #[.int .i64 0, .int .i64 0] 32)).alloc (.cells #[.int .i64 0, .int .i64 0] 32)) = w1 at *
  have V1 := HVR.out _ S1.out.below
  have v0 := V1.c0
  have v1 := V1.c1
  have vl := V1.lt
  clear V1
  go_cut [6, 7] from 11 to 12 (fun s6 s7 wx => ∃ g6 g7 : Nat, s6 = .pointer (some ⟨g6, 0, none⟩) ∧ s7 = .pointer (some ⟨g7, 0, none⟩) ∧ St w wx [boxT g6 (prL (-1) (-1)), boxT g7 (prL (-1) (-1)), boxT w.heap.size (prL 0 0), boxT (w.heap.size + 1) (prL 0 0)])
  case first =>
    have Y : St w ((w1.alloc (.cells (prL (-1) (-1)).toArray 32)).alloc (.cells (prL (-1) (-1)).toArray 32)).drew [boxT (w1.heap.size + 1) (prL (-1) (-1)), boxT w1.heap.size (prL (-1) (-1)), boxT (w.heap.size + 1) (prL 0 0), boxT w.heap.size (prL 0 0)] := by
      have hh := ((S1.out.made (prL (-1) (-1)) 32).made (prL (-1) (-1)) 32).drew
      simpa using hh
    go_region
    all_goals go_wp2_with fail
    all_goals go_meet
    all_goals (first | exact ⟨_, _, rfl, rfl, Y.pick [0, 1, 3, 2] (by decide)⟩ | exact ⟨_, _, rfl, rfl, Y.pick [1, 0, 3, 2] (by decide)⟩)
  case rest =>
    obtain ⟨g6, g7, rfl, rfl, hT⟩ := hcut
    generalize wc = w3 at *
    have S3 := Lib.hid hT
    have V3 := Lib.hid (HVR.out _ hT.below)
    clear hT S1 v0 v1 vl
    go_wp2_with fail
    refine (HPB.out _ V3.out).mono ?_
    rintro e w4 ⟨rfl, rfl⟩
    have S4 := Lib.hid (S3.out.made (prL (-1) (-1)) 32)
    clear HPB V3 S3
    generalize w3.heap.size = g9 at *
    go_wp2
    go_loopg [16] l.length (fun gh v wx => ∃ k : Nat, k ≤ l.length ∧ gh = l.length - k ∧ v = .int .i64 (k : Int) ∧ (∀ j, 1 ≤ j → j < k → (pAt l j).1 < b) ∧ St w wx [boxT g9 (prL (befP l k).1 (befP l k).2), boxT g6 (prL (stF l k).1.1 (stF l k).1.2), boxT g7 (prL (stF l k).2.1 (stF l k).2.2), boxT w.heap.size (prL 0 0), boxT (w.heap.size + 1) (prL 0 0)])
    case atStart => exact ⟨0, by omega, rfl, rfl, fun j h1 h2 => absurd h2 (by omega), S4.out⟩
    case round =>
      obtain ⟨k, hk, rfl, rfl, hall, hst⟩ := hrel
      have HA := Lib.hid hall
      clear hall S4
      by_cases hlt : k < l.length
      · have hd : decide (k < l.length) = true := by simp; omega
        have hd' : decide ((k : Int) < (l.length : Int)) = true := by simp; omega
        obtain ⟨bb, off, rfl, hb, hc⟩ := prCellsI (b := 0) (off := 0) (HI.out _ hst.below) (by omega)
        obtain ⟨c0, c1⟩ := hc k hlt
        obtain ⟨x, y, hx1, hx2⟩ := pair_at hlt
        rw [hx1] at c0 c1
        simp only [] at c0 c1
        obtain ⟨u, v, hu⟩ := pair_bef l k
        obtain ⟨⟨s1, s2⟩, ⟨t1, t2⟩, hs⟩ : ∃ a b, stF l k = (a, b) := ⟨_, _, rfl⟩
        have HBN := Lib.hid (show befP l (k + 1) = (x, y) from hx2)
        have HSN := Lib.hid (show stF l (k + 1) = ((u, v), (x, y)) from by show (befP l k, pAt l k) = _; rw [hu, hx2])
        rw [hu, hs] at hst
        simp only [] at hst
        have HX := Lib.hid hx2
        have HU := Lib.hid hu
        have S5 := Lib.hid (hst.made (prL x y) 32)
        clear hc hx1 hx2 hu hst hs
        go_upto_region 6 with fail
        generalize wr.heap.size = gp at *
        generalize wr.alloc (.cells #[.int .i64 x, .int .i64 y] 32) = w5 at *
        have k0 := (S5.out.box 0 _ _ rfl).cell 0 (by simp)
        have k1 := (S5.out.box 0 _ _ rfl).cell 1 (by simp)
        go_cut [] from 20 to 23 (fun wx => St w wx [boxT g9 (prL x y), boxT g6 (prL u v), boxT g7 (prL x y), boxT w.heap.size (prL 0 0), boxT (w.heap.size + 1) (prL 0 0)])
        case first =>
          have SD := Lib.hid S5.out.drew
          go_region_held3 (fun w' => w'.cell? ⟨gp, 0, none⟩ = some (.int .i64 x) ∧ w'.cell? ⟨gp, 1, none⟩ = some (.int .i64 y)) (first | (with_reducible exact ⟨k0, k1⟩) | (with_reducible exact ⟨l0, l1⟩) | (with_reducible exact ⟨l2, l3⟩) | (with_reducible exact ⟨l4, l5⟩) | go_keep)
            (first | (go_at_call 42; (with_reducible refine (HC.out _ _ _ _ _ _ (SD.out.box 1 _ _ rfl)).mono ?_); rintro e w6 ⟨rfl, hB, hT⟩; have S6 := SD.out.put 1 _ rfl hT (fun k hk => hk) (boxT g9 (prL x y)) hB (fun k hk => .inl hk); have l0 := (S6.box 0 _ _ rfl).cell 0 (by simp); have l1 := (S6.box 0 _ _ rfl).cell 1 (by simp); have m0 := (S6.box 2 _ _ rfl).cell 0 (by simp); have m1 := ((S6.box 2 _ _ rfl).set 0 (by simp) (.int .i64 u)).cell 1 (by simp); have mi := (S6.box 2 _ _ rfl).ice; have S7 := S6.setAll 2 _ _ rfl (prL u v) rfl; have n0 := (show ((w6.setCell ⟨g6, 0, none⟩ (.int .i64 u)).setCell ⟨g6, 1, none⟩ (.int .i64 v)).cell? ⟨g7, 0, none⟩ = some (.int .i64 t1) from (S7.box 3 _ _ rfl).cell 0 (by simp)); have n1 := (show (((w6.setCell ⟨g6, 0, none⟩ (.int .i64 u)).setCell ⟨g6, 1, none⟩ (.int .i64 v)).setCell ⟨g7, 0, none⟩ (.int .i64 x)).cell? ⟨g7, 1, none⟩ = some (.int .i64 t2) from ((S7.box 3 _ _ rfl).set 0 (by simp) (.int .i64 x)).cell 1 (by simp)); have ni := (show ∀ j, ((w6.setCell ⟨g6, 0, none⟩ (.int .i64 u)).setCell ⟨g6, 1, none⟩ (.int .i64 v)).frozen? ⟨g7, j, none⟩ = false from (S7.box 3 _ _ rfl).ice); have S8 := S7.setAll 3 _ _ rfl (prL x y) rfl; have l2 := (show ((w6.setCell ⟨g6, 0, none⟩ (.int .i64 u)).setCell ⟨g6, 1, none⟩ (.int .i64 v)).cell? ⟨gp, 0, none⟩ = some (.int .i64 x) from (S7.box 0 _ _ rfl).cell 0 (by simp)); have l3 := (show ((w6.setCell ⟨g6, 0, none⟩ (.int .i64 u)).setCell ⟨g6, 1, none⟩ (.int .i64 v)).cell? ⟨gp, 1, none⟩ = some (.int .i64 y) from (S7.box 0 _ _ rfl).cell 1 (by simp)); have l4 := (show ((((w6.setCell ⟨g6, 0, none⟩ (.int .i64 u)).setCell ⟨g6, 1, none⟩ (.int .i64 v)).setCell ⟨g7, 0, none⟩ (.int .i64 x)).setCell ⟨g7, 1, none⟩ (.int .i64 y)).cell? ⟨gp, 0, none⟩ = some (.int .i64 x) from (S8.box 0 _ _ rfl).cell 0 (by simp)); have l5 := (show ((((w6.setCell ⟨g6, 0, none⟩ (.int .i64 u)).setCell ⟨g6, 1, none⟩ (.int .i64 v)).setCell ⟨g7, 0, none⟩ (.int .i64 x)).setCell ⟨g7, 1, none⟩ (.int .i64 y)).cell? ⟨gp, 1, none⟩ = some (.int .i64 y) from (S8.box 0 _ _ rfl).cell 1 (by simp))))
          all_goals go_wp2_with fail
          all_goals go_meet
          all_goals exact S8.pick [1, 2, 3, 4, 5] (by decide)
        case rest =>
          generalize wc = w7 at *
          have S6 := Lib.hid hcut
          have V6 := HVR.out _ S6.out.below
          have v0 := V6.c0
          have v1 := V6.c1
          have vl := V6.lt
          obtain ⟨e60, e61⟩ : _ ∧ _ := ⟨(S6.out.box 1 _ _ rfl).cell 0 (by simp), (S6.out.box 1 _ _ rfl).cell 1 (by simp)⟩
          obtain ⟨e70, e71⟩ : _ ∧ _ := ⟨(S6.out.box 2 _ _ rfl).cell 0 (by simp), (S6.out.box 2 _ _ rfl).cell 1 (by simp)⟩
          clear S5 k0 k1 c0 c1 V6 hcut
          by_cases hb2 : x < b
          · have d2 : decide (b ≤ x) = false := by simp; omega
            have HR := Lib.hid (show (∀ j, 1 ≤ j → j < k + 1 → (pAt l j).1 < b) ∧ St w w7 [boxT g9 (prL (befP l (k + 1)).1 (befP l (k + 1)).2), boxT g6 (prL (stF l (k + 1)).1.1 (stF l (k + 1)).1.2), boxT g7 (prL (stF l (k + 1)).2.1 (stF l (k + 1)).2.2), boxT w.heap.size (prL 0 0), boxT (w.heap.size + 1) (prL 0 0)] from ⟨fun j h1 h2 => by
              rcases Nat.lt_or_ge j k with h3 | h3
              · exact HA.out j h1 h3
              · rw [show j = k by omega, HX.out]; exact hb2, by rw [HBN.out, HSN.out]; exact S6.out⟩)
            by_cases hu1 : u = -1
            · by_cases hv1 : v = -1
              · clear hb2 HVR HC HAT HA
                go_wp2
                go_roundg (l.length - (k + 1))
                case measure => omega
                case rel => exact ⟨k + 1, by omega, rfl, by go_num, HR.out.1, HR.out.2⟩
              · clear hb2 HVR HC HAT HA
                go_wp2
                go_roundg (l.length - (k + 1))
                case measure => omega
                case rel => exact ⟨k + 1, by omega, rfl, by go_num, HR.out.1, HR.out.2⟩
            · clear hb2 HVR HC HAT HA
              go_wp2
              go_roundg (l.length - (k + 1))
              case measure => omega
              case rel => exact ⟨k + 1, by omega, rfl, by go_num, HR.out.1, HR.out.2⟩
          · have d2 : decide (b ≤ x) = true := by simp; omega
            rcases Nat.eq_zero_or_pos k with h0 | h0
            · subst h0
              obtain ⟨rfl, rfl⟩ : u = -1 ∧ v = -1 := by
                have e : befAll = (u, v) := HU.out
                injection e with e1 e2
                exact ⟨e1.symm, e2.symm⟩
              have HR := Lib.hid (show (∀ j, 1 ≤ j → j < 0 + 1 → (pAt l j).1 < b) ∧ St w w7 [boxT g9 (prL (befP l (0 + 1)).1 (befP l (0 + 1)).2), boxT g6 (prL (stF l (0 + 1)).1.1 (stF l (0 + 1)).1.2), boxT g7 (prL (stF l (0 + 1)).2.1 (stF l (0 + 1)).2.2), boxT w.heap.size (prL 0 0), boxT (w.heap.size + 1) (prL 0 0)] from ⟨fun j h1 h2 => by omega, by rw [HBN.out, HSN.out]; exact S6.out⟩)
              clear hb2 HVR HC HAT HA
              go_wp2
              go_roundg (l.length - (0 + 1))
              case measure => omega
              case rel => exact ⟨0 + 1, by omega, rfl, by go_num, HR.out.1, HR.out.2⟩
            · obtain ⟨m, rfl⟩ : ∃ m, k = m + 1 := ⟨k - 1, by omega⟩
              have hm : m < l.length := by omega
              have hin := HAT.out m hm
              have hum : pAt l m = (u, v) := HU.out
              rw [hum] at hin
              have hu1 : ¬ u = -1 := by have h5 : 0 ≤ u := hin.1.1; omega
              have HSG := Lib.hid (seg_stop (l := l) (b := b) (by omega) hlt HA.out (by rw [HX.out]; exact hb2))
              have HRA := Lib.hid (show X = (u, v) ∧ Y = (x, y) from by rw [← HXX.out, ← HYY.out, HSG.out]; exact ⟨hum, HX.out⟩)
              clear hb2 HVR HC HAT HA hin hum HSG HBN HSN HXX HYY
              go_upto_region 9 with fail
              have SA := Lib.hid (show St w ((w7.setCell ⟨w.heap.size, 0, none⟩ (.int .i64 u)).setCell ⟨w.heap.size, 1, none⟩ (.int .i64 v)) [boxT g9 _, boxT g6 (prL u v), boxT g7 (prL x y), boxT w.heap.size (prL u v), boxT (w.heap.size + 1) (prL 0 0)] from S6.out.setAll 3 _ _ rfl (prL u v) rfl)
              have SB := Lib.hid (show St w ((((w7.setCell ⟨w.heap.size, 0, none⟩ (.int .i64 u)).setCell ⟨w.heap.size, 1, none⟩ (.int .i64 v)).setCell ⟨w.heap.size + 1, 0, none⟩ (.int .i64 x)).setCell ⟨w.heap.size + 1, 1, none⟩ (.int .i64 y)) [boxT g9 _, boxT g6 (prL u v), boxT g7 (prL x y), boxT w.heap.size (prL u v), boxT (w.heap.size + 1) (prL x y)] from SA.out.setAll 4 _ _ rfl (prL x y) rfl)
              have f40 := (S6.out.box 3 _ _ rfl).cell 0 (by simp)
              have f4i := (S6.out.box 3 _ _ rfl).ice
              have f41 : (w7.setCell ⟨w.heap.size, 0, none⟩ (.int .i64 u)).cell? ⟨w.heap.size, 1, none⟩ = some (.int .i64 0) := ((S6.out.box 3 _ _ rfl).set 0 (by simp) (.int .i64 u)).cell 1 (by simp)
              have f50 := (SA.out.box 4 _ _ rfl).cell 0 (by simp)
              have f5i := (SA.out.box 4 _ _ rfl).ice
              have f51 : (((w7.setCell ⟨w.heap.size, 0, none⟩ (.int .i64 u)).setCell ⟨w.heap.size, 1, none⟩ (.int .i64 v)).setCell ⟨w.heap.size + 1, 0, none⟩ (.int .i64 x)).cell? ⟨w.heap.size + 1, 1, none⟩ = some (.int .i64 0) := ((SA.out.box 4 _ _ rfl).set 0 (by simp) (.int .i64 x)).cell 1 (by simp)
              have a70 := (SA.out.box 2 _ _ rfl).cell 0 (by simp)
              have a71 := (SA.out.box 2 _ _ rfl).cell 1 (by simp)
              go_cut [] from 34 to 35 (fun wx => St w wx [boxT w.heap.size (prL u v), boxT (w.heap.size + 1) (prL x y)])
              case first =>
                go_region
                all_goals go_wp2_with fail
                all_goals go_meet
                all_goals exact (SB.out.pick [3, 4] (by decide)).drew
              case rest =>
                generalize wc = w8 at *
                have S9 := Lib.hid hcut
                obtain ⟨r0, r1⟩ : _ ∧ _ := ⟨(hcut.box 0 _ _ rfl).cell 0 (by simp), (hcut.box 0 _ _ rfl).cell 1 (by simp)⟩
                obtain ⟨r2, r3⟩ : _ ∧ _ := ⟨(hcut.box 1 _ _ rfl).cell 0 (by simp), (hcut.box 1 _ _ rfl).cell 1 (by simp)⟩
                clear SA SB f40 f4i f41 f50 f5i f51 a70 a71 hcut S6
                go_wp2
                refine bodyPost_ret_by (v := .tuple #[prV u v, prV x y]) ?_ rfl ⟨by rw [HRA.out.1, HRA.out.2], S9.out.below⟩
                simp [results, Tryd.f36, go_sem, r0, r1, r2, r3]
      · have hd : decide (k < l.length) = false := by simp; omega
        have hd' : decide ((k : Int) < (l.length : Int)) = false := by simp; omega
        obtain rfl : k = l.length := by omega
        obtain ⟨m, hm⟩ : ∃ m, m + 1 = l.length := ⟨l.length - 1, by have := HN2.out; omega⟩
        obtain ⟨i, hi⟩ : ∃ i, i + 1 = m := ⟨m - 1, by have := HN2.out; omega⟩
        obtain ⟨u, v, hu⟩ : ∃ u v, pAt l i = (u, v) := ⟨_, _, rfl⟩
        obtain ⟨x, y, hx⟩ : ∃ u v, pAt l m = (u, v) := ⟨_, _, rfl⟩
        have hs : stF l l.length = ((u, v), (x, y)) := by rw [← hm, ← hx, ← hu]; show (befP l m, pAt l m) = _; rw [← hi]; rfl
        have hsg := seg_last (l := l) (b := b) (k := m) (by omega) hm (fun j a c => HA.out j a (by omega))
        have HRA := Lib.hid (show X = (u, v) ∧ Y = (x, y) from by rw [← HXX.out, ← HYY.out, hsg, ← hi]; exact ⟨hu, by rw [hi]; exact hx⟩)
        rw [hs] at hst
        have S6 := Lib.hid hst
        have q60 := (hst.box 1 _ _ rfl).cell 0 (by simp)
        have q61 := (hst.box 1 _ _ rfl).cell 1 (by simp)
        have q70 := (hst.box 2 _ _ rfl).cell 0 (by simp)
        have q71 := (hst.box 2 _ _ rfl).cell 1 (by simp)
        clear hlt hst hs hsg hu hx hi hm HXX HYY HVR HC HAT HA HN2 HI
        go_upto_region 9 with fail
        have SA := Lib.hid (show St w ((wr.setCell ⟨w.heap.size, 0, none⟩ (.int .i64 u)).setCell ⟨w.heap.size, 1, none⟩ (.int .i64 v)) [boxT g9 _, boxT g6 (prL u v), boxT g7 (prL x y), boxT w.heap.size (prL u v), boxT (w.heap.size + 1) (prL 0 0)] from S6.out.setAll 3 _ _ rfl (prL u v) rfl)
        have SB := Lib.hid (show St w ((((wr.setCell ⟨w.heap.size, 0, none⟩ (.int .i64 u)).setCell ⟨w.heap.size, 1, none⟩ (.int .i64 v)).setCell ⟨w.heap.size + 1, 0, none⟩ (.int .i64 x)).setCell ⟨w.heap.size + 1, 1, none⟩ (.int .i64 y)) [boxT g9 _, boxT g6 (prL u v), boxT g7 (prL x y), boxT w.heap.size (prL u v), boxT (w.heap.size + 1) (prL x y)] from SA.out.setAll 4 _ _ rfl (prL x y) rfl)
        have f40 := (S6.out.box 3 _ _ rfl).cell 0 (by simp)
        have f4i := (S6.out.box 3 _ _ rfl).ice
        have f41 : (wr.setCell ⟨w.heap.size, 0, none⟩ (.int .i64 u)).cell? ⟨w.heap.size, 1, none⟩ = some (.int .i64 0) := ((S6.out.box 3 _ _ rfl).set 0 (by simp) (.int .i64 u)).cell 1 (by simp)
        have f50 := (SA.out.box 4 _ _ rfl).cell 0 (by simp)
        have f5i := (SA.out.box 4 _ _ rfl).ice
        have f51 : (((wr.setCell ⟨w.heap.size, 0, none⟩ (.int .i64 u)).setCell ⟨w.heap.size, 1, none⟩ (.int .i64 v)).setCell ⟨w.heap.size + 1, 0, none⟩ (.int .i64 x)).cell? ⟨w.heap.size + 1, 1, none⟩ = some (.int .i64 0) := ((SA.out.box 4 _ _ rfl).set 0 (by simp) (.int .i64 x)).cell 1 (by simp)
        have a70 := (SA.out.box 2 _ _ rfl).cell 0 (by simp)
        have a71 := (SA.out.box 2 _ _ rfl).cell 1 (by simp)
        go_cut [] from 34 to 35 (fun wx => St w wx [boxT w.heap.size (prL u v), boxT (w.heap.size + 1) (prL x y)])
        case first =>
          go_region
          all_goals go_wp2_with fail
          all_goals go_meet
          all_goals exact (SB.out.pick [3, 4] (by decide)).drew
        case rest =>
          generalize wc = w8 at *
          have S9 := Lib.hid hcut
          obtain ⟨r0, r1⟩ : _ ∧ _ := ⟨(hcut.box 0 _ _ rfl).cell 0 (by simp), (hcut.box 0 _ _ rfl).cell 1 (by simp)⟩
          obtain ⟨r2, r3⟩ : _ ∧ _ := ⟨(hcut.box 1 _ _ rfl).cell 0 (by simp), (hcut.box 1 _ _ rfl).cell 1 (by simp)⟩
          clear SA SB f40 f4i f41 f50 f5i f51 a70 a71 hcut S6
          go_wp2
          refine bodyPost_ret_by (v := .tuple #[prV u v, prV x y]) ?_ rfl ⟨by rw [HRA.out.1, HRA.out.2], S9.out.below⟩
          simp [results, Tryd.f36, go_sem, r0, r1, r2, r3]


end Go.Proofs.YtggfmimnmpanbaaDoor
