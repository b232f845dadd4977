/- What this text proves: the law of streams: blocks that follow one another in a stream are all found and read, in order. -/
import Derived.Test.YtdponcannphboabDoorStrm
import Derived.Test.YtdponcannphboabDoorBlkI
import Derived.Test.YtdponcannphboabDoorSame
import Derived.Test.YtdponcannphboabDoorDraw
import Derived.Test.YtdponcannphboabDoorAt
import Derived.Deep.LoopGhost
namespace Go.Proofs.YtdponcannphboabDoor
open Go.ChangeShapes Go.WideShapes Go.ChangeAt Go.RowKit
set_option linter.unusedVariables false

set_option maxHeartbeats 4000000 in
theorem law_streams (A : Option Addr) (n0 c0 : Nat) (hm : n0 ≤ maxLen) (w : World) (hc : CodeOk w w.heap.size A n0) (hT : BitW w) :
    Calls Tryd.prog 8 #[.slice A n0 c0] w fun e w' => e = .returned (.bool true) ∧ Below w.heap.size w w' := by
  by_cases hbig : 1048576 < n0
  · clear hT
    go_enter Tryd.func8, Tryd.ntmps8
    go_wp2_with (go_at_call 13; refine (big_yes _ _ _ hbig hm _).mono ?_; rintro e w' ⟨rfl, rfl⟩)
    go_ret
    exact ⟨rfl, Below.refl _ _⟩
  · have hn : n0 ≤ 1048576 := by omega
    have Ha := Lib.hid (fun (w1 : World) (hb : Below w.heap.size w w1) i hi => at_any w.heap.size A n0 c0 hn i hi w1 (hc.more hb))
    have Hd := Lib.hid (draw_bytes A n0 c0 hn w hc)
    have HT := Lib.hid (fun W (hb : Below w.heap.size w W) => hT.more hb)
    clear hc hbig hT
    go_enter Tryd.func8, Tryd.ntmps8
    go_wp2_with (go_at_call 13; refine (big_no _ _ _ hn _).mono ?_; rintro e w' ⟨rfl, rfl⟩)
    refine Hd.out.mono ?_
    rintro e w1 ⟨s, hs, rfl, hb1⟩
    have B1 := Lib.hid hb1
    have hz1 := hb1.size
    clear hb1
    go_wp2_with fail
    refine (Ha.out _ B1.out 0 (by omega)).mono ?_
    rintro e w' ⟨x0, hx0, rfl, rfl⟩
    obtain ⟨n, hn1, hn5, en⟩ : ∃ n : Nat, 1 ≤ n ∧ n ≤ 5 ∧ 1 + (x0 : Int) % 5 = (n : Int) := ⟨1 + x0 % 5, by omega, by omega, by omega⟩
    obtain ⟨c, hcd⟩ : ∃ c, s.size / n = c := ⟨_, rfl⟩
    have hcn : c * n ≤ s.size := by rw [← hcd]; exact Nat.div_mul_le_self _ _
    have hcl : c ≤ 29 := by
      have := Nat.le_mul_of_pos_right c (show 0 < n by omega)
      omega
    have hcB : c * (4 + 2 * n) ≤ 29 * 14 := Nat.mul_le_mul hcl (by omega)
    have HCN := Lib.hid hcn
    have HCD := Lib.hid (show ∀ j, j * n + n ≤ s.size → j < c from fun j h => by
      have h2 : (j + 1) * n ≤ s.size := by rw [Nat.succ_mul]; exact h
      rw [← hcd]
      exact (Nat.le_div_iff_mul_le (show 0 < n by omega)).2 h2)
    have HFS := Lib.hid (findV_stream s n c hn1 (by omega) hcn (by omega))
    have HTS := Lib.hid (texts_stream s n c hn1 (by omega) hcn c (Nat.le_refl _))
    have HSZ := Lib.hid (fun j hj => streamT_size s n c hn1 (by omega) hcn j hj)
    have HPZ := Lib.hid (fun j hj => pieceT_size s n j c hcn hj)
    clear hcd hcn
    have O0 := Lib.hid (OwnS.empty w1 w.heap.size hz1)
    have B2 := Lib.hid (B1.out.alloc hz1 (.cells #[] 9))
    go_wp2
    go_loopg [5, 6, 7] c (fun g v5 v6 v7 wx => ∃ j P : Nat, j ≤ c ∧ g = c - j ∧ P = j * n ∧ P ≤ 100 ∧ v7 = .int .i64 (P : Int) ∧ v6 = .string (streamT s n j) ∧ OwnS wx w.heap.size v5 (piecesL s n j) ∧ Below w.heap.size w wx)
    case atStart => exact ⟨0, 0, by omega, rfl, by omega, by omega, rfl, rfl, O0.out, B2.out⟩
    case round =>
      obtain ⟨j, P, hj, rfl, hP, hP1, rfl, rfl, hown, hbel⟩ := hrel
      have HO := Lib.hid hown
      have HB := Lib.hid hbel
      have HP := Lib.hid hP
      have hsz := hbel.size
      have hjB : j * (4 + 2 * n) ≤ 29 * 14 := Nat.mul_le_mul (by omega) (by omega)
      have zS0 := HSZ.out j hj
      have zS : (streamT s n j).size ≤ 406 := by omega
      clear zS0 hbel
      by_cases hlt : P + n ≤ s.size
      · have hjc : j < c := HCD.out j (by rw [← HP.out]; exact hlt)
        have hd : decide ((P : Int) + (n : Int) ≤ (s.size : Int)) = true := by simp; omega
        have hsl := slice_mid s P (P + n) (by omega) hlt
        rw [show ((P + n : Nat) : Int) = (P : Int) + (n : Int) by omega, show s.extract P (P + n) = pieceT s n j by rw [HP.out]; rfl] at hsl
        have zp := HPZ.out j hjc
        have HM := Lib.hid (make_impl (pieceT s n j) (by omega))
        have zM0 := makeT_size (pieceT s n j) (by omega) (by omega)
        have zM : (makeT (pieceT s n j)).size ≤ 14 := by omega
        have HS1 := Lib.hid (streamT_succ s n j)
        have HP1 := Lib.hid (piecesL_succ s n j)
        have hpl := piecesL_len s n j
        have HPN := Lib.hid (show P + n = (j + 1) * n by rw [Nat.succ_mul, HP.out])
        clear zM0 hP hjB
        generalize makeT (pieceT s n j) = M at *
        generalize streamT s n j = S at *
        generalize pieceT s n j = p at *
        go_wp2_with (at_builtin; refine app_text wr rfl _ _ rfl w.heap.size u5 (piecesL s n j) p rfl hown _ 1 rfl ?c1 hsz ?_)
        case c1 => omega
        intro v' w2 hown' hbel' hsz'
        have B3 := Lib.hid (HB.out.trans hbel')
        have O3 := Lib.hid hown'
        clear hown hown' hbel'
        go_wp2_with fail
        refine (HM.out _ (HT.out _ B3.out)).mono ?_
        rintro e w3 ⟨rfl, hb3⟩
        have O4 := Lib.hid (O3.out.more hb3)
        have B4 := Lib.hid (B3.out.trans (hb3.mono B3.out.size))
        clear hb3
        go_wp2
        go_roundg (c - (j + 1))
        case measure => omega
        case rel => exact ⟨j + 1, P + n, by omega, rfl, HPN.out, by omega, by go_num, by rw [HS1.out], by rw [HP1.out]; exact O4.out, B4.out⟩
      · have hjc : j = c := by
          rcases Nat.lt_or_ge j c with h | h
          · exact absurd (by rw [HP.out]; exact mul_le_of HCN.out h) hlt
          · omega
        have hd : decide ((P : Int) + (n : Int) ≤ (s.size : Int)) = false := by simp; omega
        have h1 := blocks_impl (streamT s n c) (by rw [← hjc]; omega) (n : Int)
        rw [HFS.out, HTS.out.1, HTS.out.2] at h1
        have h2 := find_impl (streamT s n c) (by rw [← hjc]; omega) (n : Int)
        rw [HFS.out] at h2
        have H1 := Lib.hid h1
        have H2 := Lib.hid h2
        have hpl := piecesL_len s n c
        have HL := Lib.hid (show ∀ k (hk : k < ((List.range c).map fun i => ((i * (4 + 2 * n) + 4 : Nat) : Int)).length), ((List.range c).map fun i => ((i * (4 + 2 * n) + 4 : Nat) : Int))[k] = 4 + (k : Int) * (4 + 2 * (n : Int)) from fun k hk => by
          simp only [List.getElem_map, List.getElem_range]
          push_cast
          omega)
        have hll : ((List.range c).map fun i => ((i * (4 + 2 * n) + 4 : Nat) : Int)).length = c := by simp
        rw [← hjc] at H1 H2 HL hll hpl
        rw [hjc] at H1 H2 HL hll hpl
        subst hjc
        clear h1 h2 HFS HTS HSZ hP
        generalize ((List.range j).map fun i => ((i * (4 + 2 * n) + 4 : Nat) : Int)) = L at *
        generalize streamT s n j = S at *
        generalize piecesL s n j = Q at *
        obtain ⟨A5, c5, rfl⟩ := hown.form
        go_wp2_with fail
        refine (H1.out _ (HT.out _ HB.out)).mono ?_
        rintro e w4 ⟨v8, rfl, o8, hb4⟩
        have O8 := Lib.hid (o8)
        have O5 := Lib.hid (OwnS.more HO.out hb4)
        have B5 := Lib.hid (HB.out.trans (hb4.mono HB.out.size))
        obtain ⟨A8, c8, rfl⟩ := o8.form
        clear hb4 hown
        go_wp2_with fail
        refine (H2.out _).mono ?_
        rintro e w5 ⟨v10, rfl, o10, hb5⟩
        have O9 := Lib.hid (OwnS.more O8.out hb5)
        have O6 := Lib.hid (OwnS.more O5.out hb5)
        have B6 := Lib.hid (B5.out.trans (hb5.mono B5.out.size))
        obtain ⟨A10, c10, rfl⟩ := o10.form
        have O10 := Lib.hid o10
        clear hb5 o8
        have hlq : ((L.length : Int) == (Q.length : Int)) = true := by rw [hll, hpl]; simp
        have hrows : 0 < j → ∃ gi, A10 = some ⟨gi, 0, none⟩ ∧ ∀ k (hk : k < j), w5.cell? ⟨gi, k, none⟩ = some (.int .i64 (4 + (k : Int) * (4 + 2 * (n : Int)))) := fun h => by
          obtain ⟨gi, ci2, hvi, _, _, hcell, _⟩ := OwnI.rows O10.out (by omega)
          refine ⟨gi, by cases hvi; rfl, fun k hk => ?_⟩
          rw [hcell k (by omega), HL.out k (by omega)]
        have HR := Lib.hid hrows
        clear hrows o10 HL O10
        rw [hll]
        rw [hll] at hlq
        rw [hpl] at O9 O6
        go_wp2
        go_loopg [11] j (fun g v11 wx => ∃ k : Nat, k ≤ j ∧ g = j - k ∧ v11 = .int .i64 (k : Int) ∧ wx = w5)
        case atStart => exact ⟨0, by omega, rfl, rfl, rfl⟩
        case round =>
          obtain ⟨k, hk, rfl, rfl, rfl⟩ := hrel
          by_cases hkj : k < j
          · have hdk : decide ((k : Int) < (j : Int)) = true := by simp; omega
            have hdk' : decide (k < j) = true := by simp; omega
            obtain ⟨gi, rfl, hcell⟩ := HR.out (by omega)
            have hc := hcell k hkj
            have hkb := Nat.mul_le_mul (show k ≤ 29 by omega) (show 4 + 2 * n ≤ 14 by omega)
            have e1 : (k : Int) * (4 + 2 * (n : Int)) = ((k * (4 + 2 * n) : Nat) : Int) := by push_cast; rfl
            have b1 : (0 : Int) ≤ (k : Int) * (4 + 2 * (n : Int)) := by rw [e1]; exact Int.natCast_nonneg _
            have b2 : (k : Int) * (4 + 2 * (n : Int)) ≤ 406 := by rw [e1]; omega
            clear e1 hkb hcell HR
            go_wp2
            go_roundg (j - (k + 1))
            case measure => omega
            case rel => exact ⟨k + 1, by omega, rfl, by go_num, rfl⟩
          · have hdk : decide ((k : Int) < (j : Int)) = false := by simp; omega
            have hdk' : decide (k < j) = false := by simp; omega
            go_wp2_with fail
            refine (same_any _ _ _ _ _ Q (by omega) O9.out O6.out).mono ?_
            rintro e w6 ⟨rfl, d, rfl⟩
            go_wp2
            go_ret
            exact ⟨rfl, below_draws B6.out d⟩
end Go.Proofs.YtdponcannphboabDoor
