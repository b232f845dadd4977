/- What this text proves: the parts KpI of the proof, each under its own words. -/
import Derived.Test.YtckofkdeedbbgaaRR11
import Derived.Test.YtckofkdeedbbgaaRR19
import Derived.Test.YtckofkdeedbbgaaRR20
import Derived.Test.YtckofkdeedbbgaaRR21
import Derived.Test.YtckofkdeedbbgaaRR23
import Derived.Deep.LoopGhost
import Derived.Deep.Cut
import Derived.Deep.CutRange
import Derived.Deep.RegionHeld3
import Derived.BigQuiet
/- What this text proves: the contract of the program's recorderAfter. -/
namespace Go.Proofs.Ytckofkdeedbbgaa
open Go.ChangeShapes Go.WideShapes Go.ChangeAt Go.RowKit
set_option linter.unusedVariables false

theorem lsI_box {W : World} {g : Nat} {x : Rc} (h : Box W g (rdL x.1 x.2.1 x.2.2.1 x.2.2.2)) : LsI 4 W W.heap.size (some ⟨g, 0, none⟩) ([x].map rcC) := .inr ⟨g, 0, rfl, h.lt, fun k hk j hj => by
  obtain rfl : k = 0 := by simpa using hk
  obtain ⟨a0, a1, a2, a3⟩ := h.four4
  rcases j with _ | _ | _ | _ | j
  · simpa using a0
  · simpa using a1
  · simpa using a2
  · simpa using a3
  · omega⟩
/-- The bytes of one record. -/
theorem so_one (x : Rc) (hx : x.2.2.2.size ≤ 4000) (g : Nat) (w : World) (h : Box w g (rdL x.1 x.2.1 x.2.2.1 x.2.2.2)) :
    Calls Try.prog 70 #[.slice (some ⟨g, 0, none⟩) 1 1] w fun e w' => e = .returned (.int .i64 ((6 + x.2.2.2.size : Nat) : Int)) ∧ Below w.heap.size w w' := by
  have ht : totRc [x] 1 = x.2.2.2.size := by simp [totRc]
  have hu : useR [x] 1 = 6 + x.2.2.2.size := by unfold useR; rw [ht]
  have := so_rcd (some ⟨g, 0, none⟩) [x] 1 (by simp) (by show totRc [x] 1 ≤ _; rw [ht]; omega) w (lsI_box h)
  rw [show ([x] : List Rc).length = 1 from rfl, hu] at this
  exact this
theorem so_ls (A : Option Addr) (c : Nat) (l : List Rc) (n : Nat) (hn : l.length = n) (hl : l.length ≤ 666) (hs : totRc l l.length ≤ 4000) (w : World) (h : LsI 4 w w.heap.size A (l.map rcC)) :
    Calls Try.prog 70 #[.slice A n c] w fun e w' => e = .returned (.int .i64 ((sumR l : Nat) : Int)) ∧ Below w.heap.size w w' := by
  subst hn
  have := so_rcd A l c (by omega) (by omega) w h
  rw [useR_sum] at this
  exact this
theorem tot_less (l : List Rc) (p : Int) : totRc (lessL l p l.length) (lessL l p l.length).length ≤ totRc l l.length := by
  have h1 := useR_sum l
  have h2 := useR_sum (lessL l p l.length)
  have h3 : useR l l.length = 6 * l.length + totRc l l.length := rfl
  have h4 : useR (lessL l p l.length) (lessL l p l.length).length = 6 * (lessL l p l.length).length + totRc (lessL l p l.length) (lessL l p l.length).length := rfl
  have key : ∀ l : List Rc, (l.map fun x => x.2.2.2.size).sum + 6 * l.length = sumR l := by
    intro l
    induction l with
    | nil => rfl
    | cons a r ih => rw [sumR_cons, List.map_cons, List.sum_cons, List.length_cons]; omega
  have k1 := key l
  have k2 := key (lessL l p l.length)
  have k3 : ((lessL l p l.length).map fun x => x.2.2.2.size).sum ≤ (l.map fun x => x.2.2.2.size).sum := by
    rw [lessL_all]
    clear h1 h2 h3 h4 k1 k2 key
    induction l with
    | nil => exact Nat.le_refl _
    | cons a r ih =>
      rw [List.filter_cons]
      split
      · rw [List.map_cons, List.map_cons, List.sum_cons, List.sum_cons]; omega
      · rw [List.map_cons, List.sum_cons]; omega
  omega

set_option maxRecDepth 20000 in
set_option maxHeartbeats 8000000 in
theorem ra_impl (r : Int) (A A2 : Option Addr) (l : List Rc) (d : List Int) (c c2 : Nat) (x : Rc) (hok : RcrOk r l d) (hx : RdC x) (w : World) (h1 : LsI 4 w w.heap.size A (l.map rcC)) (h2 : LsI 1 w w.heap.size A2 (d.map inC)) :
    Calls Try.prog 68 #[roV r (.slice A l.length c) (.slice A2 d.length c2), rdV x.1 x.2.1 x.2.2.1 x.2.2.2] w (RrEnd w r (kpRaw r l d x).1 (kpRaw r l d x).2) := by
  obtain ⟨hl6, ht4, hd6⟩ := rcr_short hok
  have hx34 : x.2.2.2.size ≤ 34 := hx.2.2.2
  have hr4 := hok.1
  have HLE := Lib.hid (left_impl r A A2 l d c c2 (by omega) (by omega) (by omega))
  have HTL := tot_less l x.2.1
  have HLL := lessL_len l x.2.1 l.length
  have HTE := Lib.hid (kp_test (r := r) (l := l) (d := d) (x := x))
  have HNO := Lib.hid (fun h => kpRaw_none (r := r) (l := l) (d := d) (x := x) h)
  have HYE := Lib.hid (fun y h => kpRaw_some (r := r) (l := l) (d := d) (x := x) (y := y) h)
  obtain ⟨Z, hZ⟩ : ∃ Z, kpRaw r l d x = Z := ⟨_, rfl⟩
  obtain ⟨N, hN⟩ : ∃ N, 6 + x.2.2.2.size = N := ⟨_, rfl⟩
  have HR0 := Lib.hid (leftR_yes hok)
  rw [useR_sum] at HR0
  have HCP := Lib.hid (fun W (hb : Below w.heap.size w W) => rr_gives (rocopy_impl r A A2 l d c c2 (by omega) (by omega) W (h1.full hb) (h2.full hb)))
  have HLF := Lib.hid (fun W (hb : Below w.heap.size w W) => (HR0.out ▸ left_impl r A A2 l d c c2 (by omega) (by omega) (by omega) W (h1.full hb) (h2.full hb)))
  have HSO := Lib.hid (fun g W (hb : Box W g (rdL x.1 x.2.1 x.2.2.1 x.2.2.2)) => so_one x (by omega) g W hb)
  have HSY := Lib.hid (fun (y : Rc) (hy : y.2.2.2.size ≤ 4000) g W (hb : Box W g (rdL y.1 y.2.1 y.2.2.1 y.2.2.2)) => so_one y hy g W hb)
  have HLT := Lib.hid (fun W (hb : Below w.heap.size w W) => lt_impl A l c x (by omega) W (h1.full hb))
  have HSL := Lib.hid (fun A' c' W (h : LsI 4 W W.heap.size A' ((lessL l x.2.1 l.length).map rcC)) => so_ls A' c' (lessL l x.2.1 l.length) _ rfl (by omega) (by omega) W h)
  have hsl : ((sumR l : Nat) : Int) ≤ 8000 := by have h7 := useR_sum l; have h8 : useR l l.length = 6 * l.length + totRc l l.length := rfl; omega
  have hsv : ((sumR (lessL l x.2.1 l.length) : Nat) : Int) ≤ 8000 := by have h7 := useR_sum (lessL l x.2.1 l.length); have h8 : useR (lessL l x.2.1 l.length) (lessL l x.2.1 l.length).length = 6 * (lessL l x.2.1 l.length).length + totRc (lessL l x.2.1 l.length) (lessL l x.2.1 l.length).length := rfl; omega
  have HVL := Lib.hid (show (lessL l x.2.1 l.length).length ≤ 666 by omega)
  simp only [hN] at HTE HNO HYE HSO
  rw [hZ] at HNO HYE ⊢
  obtain ⟨x0, x1, x2, x3⟩ := x
  simp only [] at *
  generalize lessL l x1 l.length = V at *
  have wM : IntKind.i64.wrap ((N : Int) - (r - ((sumR l : Nat) : Int))) = (N : Int) - (r - ((sumR l : Nat) : Int)) := IntWalk.i64_in _ (by omega)
  have HNB : (N : Int) ≤ 40 ∧ 0 ≤ (N : Int) := by omega
  have HZL := Lib.hid hl6
  have HZD := Lib.hid hd6
  have HZT := Lib.hid ht4
  have S0 := Lib.hid (show St w (((w.alloc (.cells #[.int .i64 r, .slice A l.length c, .slice A2 d.length c2] 30)).alloc (.cells #[.int .i64 x0, .int .i64 x1, .int .i64 x2, .string x3] 50)).alloc (.cells #[.int .i64 0, .slice none 0 0, .slice none 0 0] 30)) [boxT (w.heap.size + 1 + 1) (roL 0 (.slice none 0 0) (.slice none 0 0)), boxT (w.heap.size + 1) (rdL x0 x1 x2 x3), boxT w.heap.size (roL r (.slice A l.length c) (.slice A2 d.length c2))] from by have h := (((St.start w).made (roL r (.slice A l.length c) (.slice A2 d.length c2)) 30).made (rdL x0 x1 x2 x3) 50).made (roL 0 (.slice none 0 0) (.slice none 0 0)) 30; simpa using h)
  clear h1 h2 hok hx hx34 HLE hZ hN HR0 HTL HLL
  go_enter Try.func68, Try.ntmps68
  go_wp2_with fail
  refine (HCP.out _ S0.out.below).mono ?_
  rintro e w1 ⟨v, rfl, hp1, hn1, hb1⟩
  obtain ⟨A3, c3, A4, c4, rfl⟩ := rrT.form hp1
  have S1 := Lib.hid (S0.out.add (rrT (roV r (.slice A3 l.length c3) (.slice A4 d.length c4)) r l d) hb1 hp1 hn1)
  clear S0
  have S90 := Lib.hid (show St w w1 [rowT 50 4 (.slice A3 l.length c3) (l.map rcC), rowT 3 1 (.slice A4 d.length c4) (d.map inC), boxT (w.heap.size + 1 + 1) (roL 0 (.slice none 0 0) (.slice none 0 0)), boxT (w.heap.size + 1) (rdL x0 x1 x2 x3), boxT w.heap.size (roL r (.slice A l.length c) (.slice A2 d.length c2))] from S1.out.splitR)
  have S91 := Lib.hid (S90.out.made (roL r (.slice A3 l.length c3) (.slice A4 d.length c4)) 30)
  clear S90 S1 hp1 hn1 hb1 HCP
  generalize hga : w1.heap.size = ga at *
  have S92 := Lib.hid (show St w _ [boxT ga (roL r (.slice A3 l.length c3) (.slice A4 d.length c4)), rowT 50 4 (.slice A3 l.length c3) (l.map rcC), rowT 3 1 (.slice A4 d.length c4) (d.map inC), boxT (w.heap.size + 1 + 1) (roL 0 (.slice none 0 0) (.slice none 0 0)), boxT (w.heap.size + 1) (rdL x0 x1 x2 x3), boxT w.heap.size (roL r (.slice A l.length c) (.slice A2 d.length c2))] from S91.out)
  clear S91
  go_upto_region 2 with fail
  generalize w1.alloc (.cells #[.int .i64 r, .slice A3 l.length c3, .slice A4 d.length c4] 30) = w2 at *
  go_cut [6] from 10 to 15 (fun s6 wx => s6 = .int .i64 ((N : Int) - (r - ((sumR l : Nat) : Int))) ∧ St w wx [boxT ga (roL r (.slice A3 l.length c3) (.slice A4 d.length c4)), rowT 50 4 (.slice A3 l.length c3) (l.map rcC), rowT 3 1 (.slice A4 d.length c4) (d.map inC), boxT (w.heap.size + 1 + 1) (roL 0 (.slice none 0 0) (.slice none 0 0)), boxT (w.heap.size + 1) (rdL x0 x1 x2 x3), boxT w.heap.size (roL r (.slice A l.length c) (.slice A2 d.length c2))])
  case first =>
    obtain ⟨k0, k1, k2⟩ := (show Box _ _ (roL r (.slice A l.length c) (.slice A2 d.length c2)) from S92.out.box 5 _ _ rfl).threeQ
    obtain ⟨x0', x1', x2', x3'⟩ := (show Box _ _ (rdL x0 x1 x2 x3) from S92.out.box 4 _ _ rfl).four4
    have lt4 := (S92.out.box 4 _ _ rfl).lt
    have lt5 := (S92.out.box 5 _ _ rfl).lt
    have BD := (Below.refl w2.heap.size w2).drew
    have HS1 := Lib.hid (fun W => HSO.out W.heap.size _ ((Box.made W (rdL x0 x1 x2 x3) 50 _ rfl).drew))
    have HS2 := Lib.hid (fun W W' (hb : Below (W.alloc (.cells (rdL x0 x1 x2 x3).toArray 50)).drew.heap.size (W.alloc (.cells (rdL x0 x1 x2 x3).toArray 50)).drew W') => HSO.out W.heap.size _ ((Box.made W (rdL x0 x1 x2 x3) 50 _ rfl).drew.more hb))
    have HS3 := Lib.hid (fun W => HSO.out W.heap.size _ (Box.made W (rdL x0 x1 x2 x3) 50 _ rfl))
    have AL := Lib.hid (fun W => (Below.refl _ W).alloc (Nat.le_refl _) (.cells (rdL x0 x1 x2 x3).toArray 50))
    have BW2 := Lib.hid S92.out.below
    go_region_held3 (fun w' => w'.cell? ⟨w.heap.size, 0, none⟩ = some (.int .i64 r) ∧ w'.cell? ⟨w.heap.size, 1, none⟩ = some (.slice A l.length c) ∧ w'.cell? ⟨w.heap.size, 2, none⟩ = some (.slice A2 d.length c2) ∧ w'.cell? ⟨w.heap.size + 1, 0, none⟩ = some (.int .i64 x0) ∧ w'.cell? ⟨w.heap.size + 1, 1, none⟩ = some (.int .i64 x1) ∧ w'.cell? ⟨w.heap.size + 1, 2, none⟩ = some (.int .i64 x2) ∧ w'.cell? ⟨w.heap.size + 1, 3, none⟩ = some (.string x3)) (first | exact ⟨k0, k1, k2, x0', x1', x2', x3'⟩ | exact ⟨m0, m1, m2, y0', y1', y2', y3'⟩ | exact ⟨n0, n1, n2, z0', z1', z2', z3'⟩ | go_keep)
      (first
        | (go_at_call 70; (first | (with_reducible refine (HS1.out _).mono ?_) | (with_reducible refine (HS3.out _).mono ?_) | (with_reducible refine (HS2.out _ _ hbB).mono ?_)); rintro e wA ⟨rfl, hbA⟩; have SA := Lib.hid (show St w wA _ from by first | exact (S92.out.more (AL.out w2).drew).more hbA | exact SB.out.more hbA | exact (SB.out.more (AL.out _)).more hbA); obtain ⟨m0, m1, m2⟩ := (show Box _ _ (roL r (.slice A l.length c) (.slice A2 d.length c2)) from SA.out.box 5 _ _ rfl).threeQ; obtain ⟨y0', y1', y2', y3'⟩ := (show Box _ _ (rdL x0 x1 x2 x3) from SA.out.box 4 _ _ rfl).four4)
        | (go_at_call 20; (first | (with_reducible refine (HLF.out _ S92.out.drew.below).mono ?_) | (with_reducible refine (HLF.out _ (S92.out.more (AL.out w2).drew).below).mono ?_) | (with_reducible refine (HLF.out _ SA.out.below).mono ?_)); rintro e wB ⟨rfl, hbB⟩; have SB := Lib.hid (show St w wB _ from by first | exact S92.out.drew.more hbB | exact (S92.out.more (AL.out w2).drew).more hbB | exact SA.out.more hbB); obtain ⟨n0, n1, n2⟩ := (show Box _ _ (roL r (.slice A l.length c) (.slice A2 d.length c2)) from SB.out.box 5 _ _ rfl).threeQ; obtain ⟨z0', z1', z2', z3'⟩ := (show Box _ _ (rdL x0 x1 x2 x3) from SB.out.box 4 _ _ rfl).four4))
    all_goals go_wp2_with fail
    all_goals go_meet
    all_goals exact ⟨rfl, by first | exact SA.out | exact SB.out⟩
  case rest =>
    obtain ⟨rfl, hT⟩ := hcut
    generalize wc = w3 at *
    have S3 := Lib.hid hT
    clear hT S92 HLF HSO wM
    obtain ⟨k0, k1, k2⟩ := (show Box _ _ (roL r (.slice A l.length c) (.slice A2 d.length c2)) from S3.out.box 5 _ _ rfl).threeQ
    have kl := (S3.out.box 5 _ _ rfl).lt
    have ki := (S3.out.box 5 _ _ rfl).ice
    obtain ⟨y0, y1, y2, y3⟩ := (show Box _ _ (rdL x0 x1 x2 x3) from S3.out.box 4 _ _ rfl).four4
    have yl := (S3.out.box 4 _ _ rfl).lt
    go_wp2_with fail
    refine (HLT.out _ S3.out.below).mono ?_
    rintro e w4 ⟨v, rfl, hp4, hn4, hb4⟩
    obtain ⟨AV, cV, hv4⟩ := OwnR.form hp4
    rw [List.length_map] at hv4
    subst hv4
    have S2 := Lib.hid (S3.out.add (rowT 50 4 (.slice AV V.length cV) (V.map rcC)) hb4 hp4 hn4)
    clear S3
    clear k0 k1 k2 kl ki y0 y1 y2 y3 yl hp4 hn4 hb4 HLT
    go_wp2_with fail
    refine (HSL.out AV cV _ (LsO.ats (OwnR.toO (S2.out.row 0 _ _ _ _ rfl)))).mono ?_
    rintro e w5 ⟨rfl, hb5⟩
    have S3 := Lib.hid (S2.out.more hb5)
    clear S2
    clear hb5 HSL
    have S4 := Lib.hid (show St w _ [boxT ga (roL r (.slice A3 l.length c3) (.slice A4 d.length c4)), rowT 50 4 (.slice A3 l.length c3) (l.map rcC), rowT 3 1 (.slice A4 d.length c4) (d.map inC), boxT (w.heap.size + 1 + 1) (roL 0 (.slice none 0 0) (.slice none 0 0)), boxT (w.heap.size + 1) (rdL x0 x1 x2 x3), boxT w.heap.size (roL r (.slice A l.length c) (.slice A2 d.length c2))] from S3.out.pick [1, 2, 3, 4, 5, 6] (by decide))
    clear S3
    by_cases hg : ((sumR V : Nat) : Int) < (N : Int) - (r - ((sumR l : Nat) : Int))
    · have hg1 : decide (((sumR V : Nat) : Int) < (N : Int) - (r - ((sumR l : Nat) : Int))) = true := by simpa using hg
      have HE := Lib.hid (HNO.out (HTE.out.1 ⟨hg, by have : (0 : Int) ≤ ((sumR V : Nat) : Int) := Int.natCast_nonneg _; omega⟩))
      clear HTE HNO HYE hg HVL hsv hsl
      obtain ⟨a0, a1, a2⟩ := (show Box _ _ (roL r (.slice A3 l.length c3) (.slice A4 d.length c4)) from S4.out.box 0 _ _ rfl).threeQ
      have al := (S4.out.box 0 _ _ rfl).lt
      have ai := (S4.out.box 0 _ _ rfl).ice
      obtain ⟨y0, y1, y2, y3⟩ := (show Box _ _ (rdL x0 x1 x2 x3) from S4.out.box 4 _ _ rfl).four4
      have yl := (S4.out.box 4 _ _ rfl).lt
      have S5 := Lib.hid (S4.out.made [.int .i64 x0] 3)
      go_wp2_with (at_builtin; go_loud (refine app_ins S5.out 3 _ d rfl rfl _ _ rfl rfl (some ⟨w5.heap.size, 0, none⟩) [x0] 1 rfl (rowsAt_box (S5.out.box 0 _ _ rfl)) (by simp; omega) ?_))
      intro A6 n6 c6 w6 hn6 h6
      have S60 := Lib.hid (show St w w6 [boxT w5.heap.size [.int .i64 x0], boxT ga (roL r (.slice A3 l.length c3) (.slice A4 d.length c4)), rowT 50 4 (.slice A3 l.length c3) (l.map rcC), rowT 3 1 (.slice A6 n6 c6) ((d ++ [x0]).map inC), boxT (w.heap.size + 1 + 1) (roL 0 (.slice none 0 0) (.slice none 0 0)), boxT (w.heap.size + 1) (rdL x0 x1 x2 x3), boxT w.heap.size (roL r (.slice A l.length c) (.slice A2 d.length c2))] from by rw [List.map_append]; exact h6)
      have HN6 := Lib.hid hn6
      clear a0 a1 a2 al ai y0 y1 y2 y3 yl h6 hn6
      have S6 := Lib.hid (show St w _ [boxT ga (roL r (.slice A3 l.length c3) (.slice A4 d.length c4)), rowT 50 4 (.slice A3 l.length c3) (l.map rcC), rowT 3 1 (.slice A6 n6 c6) ((d ++ [x0]).map inC), boxT (w.heap.size + 1 + 1) (roL 0 (.slice none 0 0) (.slice none 0 0)), boxT (w.heap.size + 1) (rdL x0 x1 x2 x3), boxT w.heap.size (roL r (.slice A l.length c) (.slice A2 d.length c2))] from S60.out.pick [1, 2, 3, 4, 5, 6] (by decide))
      clear S60
      obtain ⟨a0, a1, a2⟩ := (show Box _ _ (roL r (.slice A3 l.length c3) (.slice A4 d.length c4)) from S6.out.box 0 _ _ rfl).threeQ
      have al := (S6.out.box 0 _ _ rfl).lt
      have ai := (S6.out.box 0 _ _ rfl).ice
      have S7 := Lib.hid (show St w (w6.setCell ⟨ga, 2, none⟩ (.slice A6 n6 c6)) [boxT ga (roL r (.slice A3 l.length c3) (.slice A6 n6 c6)), rowT 50 4 (.slice A3 l.length c3) (l.map rcC), rowT 3 1 (.slice A6 n6 c6) ((d ++ [x0]).map inC), boxT (w.heap.size + 1 + 1) (roL 0 (.slice none 0 0) (.slice none 0 0)), boxT (w.heap.size + 1) (rdL x0 x1 x2 x3), boxT w.heap.size (roL r (.slice A l.length c) (.slice A2 d.length c2))] from S6.out.setBox 0 _ _ rfl 2 (by simp) (.slice A6 n6 c6))
      obtain ⟨b0, b1, b2⟩ := (show Box _ _ (roL r (.slice A3 l.length c3) (.slice A6 n6 c6)) from S7.out.box 0 _ _ rfl).threeQ
      have bl := (S7.out.box 0 _ _ rfl).lt
      have bi := (S7.out.box 0 _ _ rfl).ice
      obtain ⟨z0, z1, z2⟩ := (show Box _ _ (roL 0 (.slice none 0 0) (.slice none 0 0)) from S7.out.box 3 _ _ rfl).threeQ
      have zl := (S7.out.box 3 _ _ rfl).lt
      have zi := (S7.out.box 3 _ _ rfl).ice
      have S8 := Lib.hid (show St w ((((w6.setCell ⟨ga, 2, none⟩ (.slice A6 n6 c6)).setCell ⟨(w.heap.size + 1 + 1), 0, none⟩ (.int .i64 r)).setCell ⟨(w.heap.size + 1 + 1), 1, none⟩ (.slice A3 l.length c3)).setCell ⟨(w.heap.size + 1 + 1), 2, none⟩ (.slice A6 n6 c6)) [boxT ga (roL r (.slice A3 l.length c3) (.slice A6 n6 c6)), rowT 50 4 (.slice A3 l.length c3) (l.map rcC), rowT 3 1 (.slice A6 n6 c6) ((d ++ [x0]).map inC), boxT (w.heap.size + 1 + 1) (roL r (.slice A3 l.length c3) (.slice A6 n6 c6)), boxT (w.heap.size + 1) (rdL x0 x1 x2 x3), boxT w.heap.size (roL r (.slice A l.length c) (.slice A2 d.length c2))] from S7.out.setAll 3 _ _ rfl (roL r (.slice A3 l.length c3) (.slice A6 n6 c6)) rfl)
      go_wp2
      show bodyPost Try.prog Try.f68 _ Exit.ret _ (((((w6.setCell ⟨ga, 2, none⟩ (.slice A6 n6 c6)).setCell ⟨(w.heap.size + 1 + 1), 0, none⟩ (.int .i64 r)).setCell ⟨(w.heap.size + 1 + 1), 1, none⟩ (.slice A3 l.length c3)).setCell ⟨(w.heap.size + 1 + 1), 2, none⟩ (.slice A6 n6 c6)))
      obtain ⟨q0, q1, q2⟩ := (show Box _ _ (roL r (.slice A3 l.length c3) (.slice A6 n6 c6)) from S8.out.box 3 _ _ rfl).threeQ
      generalize ((((w6.setCell ⟨ga, 2, none⟩ (.slice A6 n6 c6)).setCell ⟨(w.heap.size + 1 + 1), 0, none⟩ (.int .i64 r)).setCell ⟨(w.heap.size + 1 + 1), 1, none⟩ (.slice A3 l.length c3)).setCell ⟨(w.heap.size + 1 + 1), 2, none⟩ (.slice A6 n6 c6)) = WE at *
      refine bodyPost_ret_by (v := roV r (.slice A3 l.length c3) (.slice A6 n6 c6)) ?_ rfl ?_
      · simp [results, Try.f68, go_sem, q0, q1, q2]
      · rw [HE.out]
        obtain rfl : n6 = (d ++ [x0]).length := by simpa using HN6.out
        have hO := S8.out.ownRr r 1 2 rfl rfl (by decide)
        exact ⟨_, rfl, hO.1, hO.2, S8.out.below⟩
    · have hg1 : decide (((sumR V : Nat) : Int) < (N : Int) - (r - ((sumR l : Nat) : Int))) = false := by simp; omega
      obtain ⟨Y, hY⟩ : ∃ Y, kpGo x1 (r - (N : Int)) l.length l d = some Y := by
        rcases e : kpGo x1 (r - (N : Int)) l.length l d with _ | Y
        · exact absurd (HTE.out.2 e).1 hg
        · exact ⟨Y, rfl⟩
      have HE := Lib.hid (HYE.out Y hY)
      have HY := Lib.hid hY
      clear HTE HNO HYE hg HVL hsv hY
      go_wp2
      go_loopg [6] l.length (fun gh s6 wx => ∃ (l' : List Rc) (d' : List Int) (AR : Option Addr) (cr : Nat) (AX : Option Addr) (cx : Nat), gh = l'.length ∧ s6 = .int .i64 (((sumR l' : Nat) : Int) - (r - (N : Int))) ∧ kpGo x1 (r - (N : Int)) l'.length l' d' = some Y ∧ (l'.length ≤ 666 ∧ totRc l' l'.length ≤ 4000 ∧ d'.length + l'.length ≤ 66300) ∧ St w wx [boxT ga (roL r (.slice AR l'.length cr) (.slice AX d'.length cx)), rowT 50 4 (.slice AR l'.length cr) (l'.map rcC), rowT 3 1 (.slice AX d'.length cx) (d'.map inC), boxT (w.heap.size + 1 + 1) (roL 0 (.slice none 0 0) (.slice none 0 0)), boxT (w.heap.size + 1) (rdL x0 x1 x2 x3), boxT w.heap.size (roL r (.slice A l.length c) (.slice A2 d.length c2))])
      case atStart => exact ⟨l, d, A3, c3, A4, c4, rfl, congrArg (Value.int .i64) (by omega), HY.out, ⟨HZL.out, HZT.out, by have := HZL.out; have := HZD.out; omega⟩, S4.out⟩
      case round =>
        obtain ⟨l', d', AR, cr, AX, cx, rfl, rfl, hkp, hbd, hst⟩ := hrel
        have SS := Lib.hid hst
        have HK := Lib.hid hkp
        obtain ⟨hb1, hb2, hb3⟩ := hbd
        have hsl2 : ((sumR l' : Nat) : Int) ≤ 8000 := by have h7 := useR_sum l'; have h8 : useR l' l'.length = 6 * l'.length + totRc l' l'.length := rfl; omega
        obtain ⟨M6, hM6⟩ : ∃ M6, ((sumR l' : Nat) : Int) - (r - (N : Int)) = M6 := ⟨_, rfl⟩
        rw [hM6]
        have HM6 := Lib.hid hM6
        clear hM6
        clear hst hkp HY S4
        by_cases hlt : ((sumR l' : Nat) : Int) ≤ r - (N : Int)
        · have hd : decide ((0 : Int) < M6) = false := by have := HM6.out; simp; omega
          have HYE := Lib.hid (kpGo_end HK.out hlt)
          clear hlt HK
          obtain ⟨a0, a1, a2⟩ := (show Box _ _ (roL r (.slice AR l'.length cr) (.slice AX d'.length cx)) from SS.out.box 0 _ _ rfl).threeQ
          have al := (SS.out.box 0 _ _ rfl).lt
          have ai := (SS.out.box 0 _ _ rfl).ice
          obtain ⟨y0, y1, y2, y3⟩ := (show Box _ _ (rdL x0 x1 x2 x3) from SS.out.box 4 _ _ rfl).four4
          have yl := (SS.out.box 4 _ _ rfl).lt
          have wr0 : wr = wr := rfl
          have S9 := Lib.hid (SS.out.made (rdL x0 x1 x2 x3) 50)
          go_wp2_with (at_builtin; go_loud (refine app_rcs S9.out 2 _ l' rfl rfl _ _ rfl rfl (some ⟨wr.heap.size, 0, none⟩) [(x0, x1, x2, x3)] 1 rfl (rowsAt_box (S9.out.box 0 _ _ rfl)) (by simp; omega) ?_))
          intro A6 n6 c6 w6 hn6 h6
          have S61 := Lib.hid (show St w w6 [boxT wr.heap.size (rdL x0 x1 x2 x3), boxT ga (roL r (.slice AR l'.length cr) (.slice AX d'.length cx)), rowT 50 4 (.slice A6 n6 c6) ((l' ++ [(x0, x1, x2, x3)]).map rcC), rowT 3 1 (.slice AX d'.length cx) (d'.map inC), boxT (w.heap.size + 1 + 1) (roL 0 (.slice none 0 0) (.slice none 0 0)), boxT (w.heap.size + 1) (rdL x0 x1 x2 x3), boxT w.heap.size (roL r (.slice A l.length c) (.slice A2 d.length c2))] from by rw [List.map_append]; exact h6)
          have HN6 := Lib.hid hn6
          clear a0 a1 a2 al ai y0 y1 y2 y3 yl h6 hn6
          have S10 := Lib.hid (show St w _ [boxT ga (roL r (.slice AR l'.length cr) (.slice AX d'.length cx)), rowT 50 4 (.slice A6 n6 c6) ((l' ++ [(x0, x1, x2, x3)]).map rcC), rowT 3 1 (.slice AX d'.length cx) (d'.map inC), boxT (w.heap.size + 1 + 1) (roL 0 (.slice none 0 0) (.slice none 0 0)), boxT (w.heap.size + 1) (rdL x0 x1 x2 x3), boxT w.heap.size (roL r (.slice A l.length c) (.slice A2 d.length c2))] from S61.out.pick [1, 2, 3, 4, 5, 6] (by decide))
          clear S61
          obtain ⟨a0, a1, a2⟩ := (show Box _ _ (roL r (.slice AR l'.length cr) (.slice AX d'.length cx)) from S10.out.box 0 _ _ rfl).threeQ
          have al := (S10.out.box 0 _ _ rfl).lt
          have ai := (S10.out.box 0 _ _ rfl).ice
          have S11 := Lib.hid (show St w (w6.setCell ⟨ga, 1, none⟩ (.slice A6 n6 c6)) [boxT ga (roL r (.slice A6 n6 c6) (.slice AX d'.length cx)), rowT 50 4 (.slice A6 n6 c6) ((l' ++ [(x0, x1, x2, x3)]).map rcC), rowT 3 1 (.slice AX d'.length cx) (d'.map inC), boxT (w.heap.size + 1 + 1) (roL 0 (.slice none 0 0) (.slice none 0 0)), boxT (w.heap.size + 1) (rdL x0 x1 x2 x3), boxT w.heap.size (roL r (.slice A l.length c) (.slice A2 d.length c2))] from S10.out.setBox 0 _ _ rfl 1 (by simp) (.slice A6 n6 c6))
          obtain ⟨b0, b1, b2⟩ := (show Box _ _ (roL r (.slice A6 n6 c6) (.slice AX d'.length cx)) from S11.out.box 0 _ _ rfl).threeQ
          have bl := (S11.out.box 0 _ _ rfl).lt
          have bi := (S11.out.box 0 _ _ rfl).ice
          obtain ⟨z0, z1, z2⟩ := (show Box _ _ (roL 0 (.slice none 0 0) (.slice none 0 0)) from S11.out.box 3 _ _ rfl).threeQ
          have zl := (S11.out.box 3 _ _ rfl).lt
          have zi := (S11.out.box 3 _ _ rfl).ice
          have S12 := Lib.hid (show St w ((((w6.setCell ⟨ga, 1, none⟩ (.slice A6 n6 c6)).setCell ⟨(w.heap.size + 1 + 1), 0, none⟩ (.int .i64 r)).setCell ⟨(w.heap.size + 1 + 1), 1, none⟩ (.slice A6 n6 c6)).setCell ⟨(w.heap.size + 1 + 1), 2, none⟩ (.slice AX d'.length cx)) [boxT ga (roL r (.slice A6 n6 c6) (.slice AX d'.length cx)), rowT 50 4 (.slice A6 n6 c6) ((l' ++ [(x0, x1, x2, x3)]).map rcC), rowT 3 1 (.slice AX d'.length cx) (d'.map inC), boxT (w.heap.size + 1 + 1) (roL r (.slice A6 n6 c6) (.slice AX d'.length cx)), boxT (w.heap.size + 1) (rdL x0 x1 x2 x3), boxT w.heap.size (roL r (.slice A l.length c) (.slice A2 d.length c2))] from S11.out.setAll 3 _ _ rfl (roL r (.slice A6 n6 c6) (.slice AX d'.length cx)) rfl)
          go_wp2
          show bodyPost Try.prog Try.f68 _ Exit.ret _ (((((w6.setCell ⟨ga, 1, none⟩ (.slice A6 n6 c6)).setCell ⟨(w.heap.size + 1 + 1), 0, none⟩ (.int .i64 r)).setCell ⟨(w.heap.size + 1 + 1), 1, none⟩ (.slice A6 n6 c6)).setCell ⟨(w.heap.size + 1 + 1), 2, none⟩ (.slice AX d'.length cx)))
          obtain ⟨q0, q1, q2⟩ := (show Box _ _ (roL r (.slice A6 n6 c6) (.slice AX d'.length cx)) from S12.out.box 3 _ _ rfl).threeQ
          generalize ((((w6.setCell ⟨ga, 1, none⟩ (.slice A6 n6 c6)).setCell ⟨(w.heap.size + 1 + 1), 0, none⟩ (.int .i64 r)).setCell ⟨(w.heap.size + 1 + 1), 1, none⟩ (.slice A6 n6 c6)).setCell ⟨(w.heap.size + 1 + 1), 2, none⟩ (.slice AX d'.length cx)) = WE at *
          refine bodyPost_ret_by (v := roV r (.slice A6 n6 c6) (.slice AX d'.length cx)) ?_ rfl ?_
          · simp [results, Try.f68, go_sem, q0, q1, q2]
          · rw [HE.out, HYE.out]
            obtain rfl : n6 = (l' ++ [(x0, x1, x2, x3)]).length := by simpa using HN6.out
            have hO := S12.out.ownRr r 1 2 rfl rfl (by decide)
            exact ⟨_, rfl, hO.1, hO.2, S12.out.below⟩
        · have hd : decide ((0 : Int) < M6) = true := by have := HM6.out; simp; omega
          obtain ⟨_, hbl, hk2, hs2, hle2, htt2⟩ := kpGo_run HK.out hlt
          have HK2 := Lib.hid hk2
          have HS2 := Lib.hid hs2
          have HLE2 := Lib.hid hle2
          have HTT2 := Lib.hid htt2
          have HLO := Lib.hid (fun W (hl : LsI 4 W W.heap.size AR (l'.map rcC)) => lo_impl AR l' cr (by omega) W hl)
          have hcr := ((OwnR.toO (SS.out.row 1 _ _ _ _ rfl)).cap _ _ _ rfl)
          have HWI := Lib.hid (fun W (hl : LsI 4 W W.heap.size AR (l'.map rcC)) => without_rc AR l' cr (loB l' l'.length) hcr hbl (by omega) W hl)
          obtain ⟨bb, off, hAR, hbb, hc⟩ := rcCellsI (b := 0) (off := 0) (LsO.ats (OwnR.toO (SS.out.row 1 _ _ _ _ rfl))) (by omega)
          subst hAR
          have hst2 := totRc_at l' hbl
          have hblt1 : decide (loB l' l'.length < l'.length) = true := by simpa using hbl
          have hblt2 : decide (((loB l' l'.length : Nat) : Int) < (l'.length : Int)) = true := by simp; omega
          have HC := Lib.hid (fun W (hl : LsI 4 W W.heap.size (some ⟨bb, off, none⟩) (l'.map rcC)) => (show W.cell? ⟨bb, off + loB l' l'.length * 4, none⟩ = some (.int .i64 l'[loB l' l'.length].1) ∧ W.cell? ⟨bb, off + loB l' l'.length * 4 + 1, none⟩ = some (.int .i64 l'[loB l' l'.length].2.1) ∧ W.cell? ⟨bb, off + loB l' l'.length * 4 + 2, none⟩ = some (.int .i64 l'[loB l' l'.length].2.2.1) ∧ W.cell? ⟨bb, off + loB l' l'.length * 4 + 3, none⟩ = some (.string l'[loB l' l'.length].2.2.2) from by obtain ⟨b2, o2, e2, _, hc2⟩ := rcCellsI (b := 0) (off := 0) hl (by omega); injection e2 with e2; injection e2 with e3 e4; subst e3; subst e4; exact hc2 _ hbl))
          clear hc hk2 hs2 hle2 htt2
          generalize hy : l'[loB l' l'.length] = yy at *
          have HYY := Lib.hid hy
          clear hy
          obtain ⟨y0, y1, y2, y3⟩ := yy
          simp only [] at *
          generalize loB l' l'.length = b at *
          obtain ⟨a0, a1, a2⟩ := (show Box _ _ (roL r (.slice (some ⟨bb, off, none⟩) l'.length cr) (.slice AX d'.length cx)) from SS.out.box 0 _ _ rfl).threeQ
          have al := (SS.out.box 0 _ _ rfl).lt
          have ai := (SS.out.box 0 _ _ rfl).ice
          go_wp2_with fail
          refine (HLO.out _ (LsO.ats (OwnR.toO (SS.out.row 1 _ _ _ _ rfl)))).mono ?_
          rintro e w7 ⟨rfl, hb7⟩
          have S13 := Lib.hid (SS.out.more hb7)
          clear SS
          clear a0 a1 a2 al ai hb7 HLO
          obtain ⟨a0, a1, a2⟩ := (show Box _ _ (roL r (.slice (some ⟨bb, off, none⟩) l'.length cr) (.slice AX d'.length cx)) from S13.out.box 0 _ _ rfl).threeQ
          have al := (S13.out.box 0 _ _ rfl).lt
          have ai := (S13.out.box 0 _ _ rfl).ice
          obtain ⟨e0, e1, e2, e3⟩ := HC.out _ (LsO.ats (OwnR.toO (S13.out.row 1 _ _ _ _ rfl)))
          have HSZ := HSY.out (y0, y1, y2, y3) (by show y3.size ≤ _; omega)
          simp only [] at HSZ
          generalize hSy : 6 + y3.size = Sy at *
          have HSZ := Lib.hid HSZ
          have wv : IntKind.i64.wrap (M6 - (Sy : Int)) = ((sumR (l'.eraseIdx b) : Nat) : Int) - (r - (N : Int)) := (IntWalk.i64_in _ (by have := HS2.out; have := HM6.out; omega)).trans (by have := HS2.out; have := HM6.out; omega)
          have wv' : wrap64 (M6 - (Sy : Int)) = ((sumR (l'.eraseIdx b) : Nat) : Int) - (r - (N : Int)) := by have := HS2.out; have := HM6.out; unfold wrap64; omega
          clear hSy
          have S14 := Lib.hid (S13.out.made (rdL y0 y1 y2 y3) 50)
          clear S13
          go_wp2_with fail
          refine (HSZ.out w7.heap.size _ (S14.out.box 0 _ _ rfl)).mono ?_
          rintro e w8 ⟨rfl, hb8⟩
          have S15 := Lib.hid (S14.out.more hb8)
          clear S14
          clear a0 a1 a2 al ai hb8 e0 e1 e2 e3
          have S16 := Lib.hid (show St w _ [boxT ga (roL r (.slice (some ⟨bb, off, none⟩) l'.length cr) (.slice AX d'.length cx)), rowT 50 4 (.slice (some ⟨bb, off, none⟩) l'.length cr) (l'.map rcC), rowT 3 1 (.slice AX d'.length cx) (d'.map inC), boxT (w.heap.size + 1 + 1) (roL 0 (.slice none 0 0) (.slice none 0 0)), boxT (w.heap.size + 1) (rdL x0 x1 x2 x3), boxT w.heap.size (roL r (.slice A l.length c) (.slice A2 d.length c2))] from S15.out.pick [1, 2, 3, 4, 5, 6] (by decide))
          clear S15
          obtain ⟨a0, a1, a2⟩ := (show Box _ _ (roL r (.slice (some ⟨bb, off, none⟩) l'.length cr) (.slice AX d'.length cx)) from S16.out.box 0 _ _ rfl).threeQ
          have al := (S16.out.box 0 _ _ rfl).lt
          have ai := (S16.out.box 0 _ _ rfl).ice
          obtain ⟨e0, e1, e2, e3⟩ := HC.out _ (LsO.ats (OwnR.toO (S16.out.row 1 _ _ _ _ rfl)))
          have S17 := Lib.hid (S16.out.made [.int .i64 y0] 3)
          have S18 := Lib.hid (S17.out.drew)
          clear S17
          obtain ⟨d0, d1, d2⟩ := (show Box _ _ (roL r (.slice (some ⟨bb, off, none⟩) l'.length cr) (.slice AX d'.length cx)) from S18.out.box 1 _ _ rfl).threeQ
          have dl := (S18.out.box 1 _ _ rfl).lt
          have di := (S18.out.box 1 _ _ rfl).ice
          obtain ⟨f0, f1, f2, f3⟩ := HC.out _ (LsO.ats (OwnR.toO (S18.out.row 2 _ _ _ _ rfl)))
          have hdl : d'.length + [y0].length ≤ 1099511 := by simp; omega
          go_upto_region 9 with fail
          go_region_law ((refine step_ins S18.out 3 _ d' rfl rfl _ _ rfl rfl (some ⟨w8.heap.size, 0, none⟩) [y0] 1 rfl (rowsAt_box (S18.out.box 0 _ _ rfl)) hdl ?_; intro A9 n9 c9 w9 hn9 h9; have HN9 := Lib.hid hn9; clear hn9; have S9 := Lib.hid h9; obtain ⟨g0, g1, g2⟩ := (show Box _ _ (roL r (.slice (some ⟨bb, off, none⟩) l'.length cr) (.slice AX d'.length cx)) from S9.out.box 1 _ _ rfl).threeQ; have gi := (S9.out.box 1 _ _ rfl).ice))
          all_goals
            have S93 := Lib.hid (show St w w9 [boxT w8.heap.size [.int .i64 y0], boxT ga (roL r (.slice (some ⟨bb, off, none⟩) l'.length cr) (.slice AX d'.length cx)), rowT 50 4 (.slice (some ⟨bb, off, none⟩) l'.length cr) (l'.map rcC), rowT 3 1 (.slice A9 n9 c9) ((d' ++ [y0]).map inC), boxT (w.heap.size + 1 + 1) (roL 0 (.slice none 0 0) (.slice none 0 0)), boxT (w.heap.size + 1) (rdL x0 x1 x2 x3), boxT w.heap.size (roL r (.slice A l.length c) (.slice A2 d.length c2))] from by first | exact h9 | (rw [List.map_append]; exact h9))
            clear S9 h9 S18 S16
            clear a0 a1 a2 al ai d0 d1 d2 dl di e0 e1 e2 e3 f0 f1 f2 f3 g0 g1 g2 gi
            have S19 := Lib.hid (show St w _ [boxT ga (roL r (.slice (some ⟨bb, off, none⟩) l'.length cr) (.slice AX d'.length cx)), rowT 50 4 (.slice (some ⟨bb, off, none⟩) l'.length cr) (l'.map rcC), rowT 3 1 (.slice A9 n9 c9) ((d' ++ [y0]).map inC), boxT (w.heap.size + 1 + 1) (roL 0 (.slice none 0 0) (.slice none 0 0)), boxT (w.heap.size + 1) (rdL x0 x1 x2 x3), boxT w.heap.size (roL r (.slice A l.length c) (.slice A2 d.length c2))] from S93.out.pick [1, 2, 3, 4, 5, 6] (by decide))
            clear S93
            have S20 := Lib.hid (show St w (w9.setCell ⟨ga, 2, none⟩ (.slice A9 n9 c9)) [boxT ga (roL r (.slice (some ⟨bb, off, none⟩) l'.length cr) (.slice A9 n9 c9)), rowT 50 4 (.slice (some ⟨bb, off, none⟩) l'.length cr) (l'.map rcC), rowT 3 1 (.slice A9 n9 c9) ((d' ++ [y0]).map inC), boxT (w.heap.size + 1 + 1) (roL 0 (.slice none 0 0) (.slice none 0 0)), boxT (w.heap.size + 1) (rdL x0 x1 x2 x3), boxT w.heap.size (roL r (.slice A l.length c) (.slice A2 d.length c2))] from S19.out.setBox 0 _ _ rfl 2 (by simp) (.slice A9 n9 c9))
            clear S19
            generalize w9.setCell ⟨ga, 2, none⟩ (.slice A9 n9 c9) = w10 at *
            obtain ⟨a0, a1, a2⟩ := (show Box _ _ (roL r (.slice (some ⟨bb, off, none⟩) l'.length cr) (.slice A9 n9 c9)) from S20.out.box 0 _ _ rfl).threeQ
            have al := (S20.out.box 0 _ _ rfl).lt
            have ai := (S20.out.box 0 _ _ rfl).ice
            go_wp2_with fail
            refine (HWI.out _ (LsO.ats (OwnR.toO (S20.out.row 1 _ _ _ _ rfl)))).mono ?_
            rintro e w11 ⟨v, rfl, ho11, hb11⟩
            obtain ⟨A12, c12, hv12⟩ := ho11.form
            rw [List.length_map] at hv12
            subst hv12
            have S21 := Lib.hid (S20.out.add (rowT 50 4 (.slice A12 (l'.eraseIdx b).length c12) ((l'.eraseIdx b).map rcC)) hb11 (OwnR.lower ho11 (Nat.zero_le _)) (fun k hk => (OwnR.upto ho11 k hk).1))
            clear S20
            clear a0 a1 a2 al ai hb11 ho11 HWI HC
            have S22 := Lib.hid (show St w _ [boxT ga (roL r (.slice (some ⟨bb, off, none⟩) l'.length cr) (.slice A9 n9 c9)), rowT 50 4 (.slice A12 (l'.eraseIdx b).length c12) ((l'.eraseIdx b).map rcC), rowT 3 1 (.slice A9 n9 c9) ((d' ++ [y0]).map inC), boxT (w.heap.size + 1 + 1) (roL 0 (.slice none 0 0) (.slice none 0 0)), boxT (w.heap.size + 1) (rdL x0 x1 x2 x3), boxT w.heap.size (roL r (.slice A l.length c) (.slice A2 d.length c2))] from S21.out.pick [1, 0, 3, 4, 5, 6] (by decide))
            clear S21
            obtain ⟨a0, a1, a2⟩ := (show Box _ _ (roL r (.slice (some ⟨bb, off, none⟩) l'.length cr) (.slice A9 n9 c9)) from S22.out.box 0 _ _ rfl).threeQ
            have al := (S22.out.box 0 _ _ rfl).lt
            have ai := (S22.out.box 0 _ _ rfl).ice
            have S23 := Lib.hid (show St w (w11.setCell ⟨ga, 1, none⟩ (.slice A12 (l'.eraseIdx b).length c12)) [boxT ga (roL r (.slice A12 (l'.eraseIdx b).length c12) (.slice A9 n9 c9)), rowT 50 4 (.slice A12 (l'.eraseIdx b).length c12) ((l'.eraseIdx b).map rcC), rowT 3 1 (.slice A9 n9 c9) ((d' ++ [y0]).map inC), boxT (w.heap.size + 1 + 1) (roL 0 (.slice none 0 0) (.slice none 0 0)), boxT (w.heap.size + 1) (rdL x0 x1 x2 x3), boxT w.heap.size (roL r (.slice A l.length c) (.slice A2 d.length c2))] from S22.out.setBox 0 _ _ rfl 1 (by simp) (.slice A12 (l'.eraseIdx b).length c12))
            go_wp2
            go_roundg (l'.eraseIdx b).length
            case measure => have := HLE2.out; omega
            case rel =>
              obtain rfl : n9 = (d' ++ [y0]).length := by simpa using HN9.out
              exact ⟨l'.eraseIdx b, d' ++ [y0], A12, c12, A9, c9, rfl, rfl, HK2.out, ⟨by have := HLE2.out; omega, by have := HTT2.out; omega, by rw [List.length_append]; have := HLE2.out; simp; omega⟩, S23.out⟩
end Go.Proofs.Ytckofkdeedbbgaa
