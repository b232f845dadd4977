/- What this text proves: the parts LNbLaw of the proof, each under its own words. -/
import Derived.Test.YtckofkdeedbbgaaNN26
import Derived.Test.YtckofkdeedbbgaaNN31
import Derived.Test.YtckofkdeedbbgaaNN11
import Derived.Test.YtckofkdeedbbgaaNN14
/- What this text proves: the law of FnExactNewBoard: the program and the model make the same board, for all arguments; the argument stays; the board owns its memory. -/
namespace Go.Proofs.Ytckofkdeedbbgaa
open Go.ChangeShapes Go.WideShapes Go.ChangeAt Go.RowKit
set_option linter.unusedVariables false

theorem Box.bd {W : World} {g : Nat} {b : Bd} {a : BdA} (h : Box W g (bdL b a)) : W.cell? ⟨g, 0, none⟩ = some (.int .i64 b.cl) ∧ W.cell? ⟨g, 1, none⟩ = some (.slice a.aP b.ps.length a.cP) ∧ W.cell? ⟨g, 2, none⟩ = some (.bool b.sf) ∧ W.cell? ⟨g, 3, none⟩ = some (.slice a.aL b.ls.length a.cL) ∧ W.cell? ⟨g, 4, none⟩ = some (.slice a.aO b.os.length a.cO) ∧ W.cell? ⟨g, 5, none⟩ = some (.slice a.aD b.ds.length a.cD) ∧ W.cell? ⟨g, 6, none⟩ = some (.int .i64 b.r) ∧ W.cell? ⟨g, 7, none⟩ = some (.slice a.aR b.rs.length a.cR) ∧ W.cell? ⟨g, 8, none⟩ = some (.slice a.aX b.xs.length a.cX) ∧ W.cell? ⟨g, 9, none⟩ = some (.int .i64 b.md) ∧ W.cell? ⟨g, 10, none⟩ = some (.int .i64 b.tk) ∧ W.cell? ⟨g, 11, none⟩ = some (.slice a.aQ b.qs.length a.cQ) := Box.twelve h
theorem nbR_small (r : Int) (ll : List Lm) : bdSum (nbR r ll).1 ≤ 1048576 := by
  by_cases hb : BrdOk (newB r ll)
  · rw [nbR_yes hb]
    have h8 : ll.length ≤ 8 := hb.ls.2
    show bdSum (newB r ll) ≤ _
    rw [newB_sum]; omega
  · rw [nbR_no hb]; show bdSum bd0 ≤ _; rw [bd0_sum]; omega
set_option maxRecDepth 20000 in
set_option maxHeartbeats 16000000 in
theorem law_newboard (r : Int) (A : Option Addr) (ll : List Lm) (c : Nat) (_ : -9223372036854775808 ≤ r ∧ r ≤ 9223372036854775807) (hm : ll.length ≤ maxLen) (w : World) (h : LsI 3 w w.heap.size A (ll.map lmC)) :
    Calls Try.prog 8 #[.int .i64 r, .slice A ll.length c] w fun e w' => e = .returned (.bool true) ∧ Below w.heap.size w w' := by
  have hs := sz_lms A ll.length c 1048576 hm (Nat.le_refl _) w
  have S0 := Lib.hid (St.start w)
  by_cases hL : ll.length ≤ 1048576
  · rw [if_pos (show ll.length ≤ 1048576 by omega)] at hs
    have HS := Lib.hid hs
    have dL : decide (((1048576 : Nat) : Int) - (ll.length : Int) < 0) = false := by simp; omega
    obtain ⟨LE, hLE⟩ : ∃ LE : Int, ((1048576 : Nat) : Int) - (ll.length : Int) = LE := ⟨_, rfl⟩
    rw [hLE] at HS dL
    clear hLE
    have HT := Lib.hid (fun W (hb : Below w.heap.size w W) => (to_lms A ll c (by omega) W (h.full hb)).mono fun e w' hh => (show Gives W (fun v => lsT 3 v (ll.map lmC)) e w' from by obtain ⟨v, g1, g2, g3⟩ := hh; exact ⟨v, g1, LsO.lower g2 (Nat.zero_le _), fun k hk => (LsO.up g2 k hk).1, g3⟩))
    have HE := Lib.hid (fun v1 v2 W (g1 : (lsT 3 v1 (ll.map lmC)).P W) (g2 : (lsT 3 v2 (ll.map lmC)).P W) => eqLm_any W 0 0 v1 v2 ll (by omega) g1 g2)
    have HM := Lib.hid (fun v W (g : (lsT 3 v (ll.map lmC)).P W) => (markLm_any W 0 v (ll.map lmC) (by rw [List.length_map]; omega) 1 (Nat.le_refl _) (by omega) g).mono fun e w' hh => (show e = .returned (.int .i64 (1 + 3 * (ll.length : Int))) ∧ Touch W w' (fun k => v.ownBlock = some k) ∧ (lsT 3 v ((List.range ll.length).map (mkLm 1))).P w' from by rw [List.length_map] at hh; exact ⟨hh.1, Touch.of_grown hh.2.1, hh.2.2⟩))
    have hHX : ∀ (v : Value) (W : World) (o : (lsT 3 v (ll.map lmC)).P W), Calls Try.prog 44 #[.int .i64 r, v] W (BbEnd W (nbR r ll)) := fun v W o => by
      obtain ⟨A', c', rfl⟩ := OwnLm.nform (w := W) (base := 0) o
      exact nb_spec r A' ll c' (by omega) W (LsO.ats o)
    have hHY : ∀ (v : Value) (W : World) (o : (lsT 3 v (ll.map lmC)).P W), Calls Try.prog 10 #[.int .i64 r, v] W (BbEnd W (nbR r ll)) := fun v W o => by
      obtain ⟨A', c', rfl⟩ := OwnLm.nform (w := W) (base := 0) o
      exact nb_impl r A' ll c' (by omega) W (LsO.ats o)
    have hbz := nbR_small r ll
    generalize nbR r ll = Z at *
    obtain ⟨B, t⟩ := Z
    simp only [] at hbz
    have HX := Lib.hid hHX
    have HY := Lib.hid hHY
    have HER := Lib.hid (fun v1 v2 W (g1 : (bdT v1 B).P W) (g2 : (bdT v2 B).P W) => eq_bdT B hbz v1 v2 W g1 g2)
    have HMR := Lib.hid (fun v W (g : (bdT v B).P W) => mark_bdT B hbz v W g)
    have HHR := Lib.hid (fun v W (g : (bmT v 1 B).P W) => held_bdT B hbz v W g)
    obtain ⟨kx, hkx⟩ : ∃ k : Int, 1 + 3 * (ll.length : Int) = k := ⟨_, rfl⟩
    obtain ⟨kg, hkg⟩ : ∃ k : Int, ((1 + bdN B : Nat) : Int) = k := ⟨_, rfl⟩
    have zkx : decide (kx < 0) = false := decide_eq_false (by omega)
    have zkg : decide (kg < 0) = false := decide_eq_false (by omega)
    have ykg : (kg != kg) = false := by simp
    have ytt : (t != t) = false := by simp
    simp only [hkx] at HM
    simp only [hkg] at HMR HHR
    clear hkx hkg hs hHX hHY hL h hbz hm
    go_enter Try.func8, Try.ntmps8
    go_wp2_with fail
    refine HS.out.mono ?_
    rintro e w0 ⟨rfl, rfl⟩
    clear HS
    go_wp2_with fail
    refine (HT.out _ S0.out.below).mono ?_
    rintro e w1 ⟨va, rfl, hp, hn, hb⟩
    have S1 := Lib.hid (S0.out.add (lsT 3 va (ll.map lmC)) hb hp hn)
    clear S0
    clear hp hn hb
    go_wp2_with fail
    refine (HX.out _ _ (S1.out.nth 0 _ rfl)).mono ?_
    rintro e w2 ⟨u, rfl, hp, hn, hb⟩
    obtain ⟨aw, rfl, _⟩ := id hp
    have S2 := Lib.hid (S1.out.add (bdT (bdV B aw) B) hb hp hn)
    clear S1
    have S3 := Lib.hid (S2.out.made (bdL B aw) 32)
    clear S2
    clear hp hn hb
    go_wp2_with fail
    refine (HT.out _ S3.out.below).mono ?_
    rintro e w3 ⟨vx, rfl, hp, hn, hb⟩
    have S4 := Lib.hid (S3.out.add (lsT 3 vx (ll.map lmC)) hb hp hn)
    clear S3
    clear hp hn hb
    go_wp2_with fail
    refine (HY.out _ _ (S4.out.nth 0 _ rfl)).mono ?_
    rintro e w4 ⟨u, rfl, hp, hn, hb⟩
    obtain ⟨ag, rfl, _⟩ := id hp
    have S5 := Lib.hid (S4.out.add (bdT (bdV B ag) B) hb hp hn)
    clear S4
    have S6 := Lib.hid (S5.out.made (bdL B ag) 32)
    clear S5
    clear hp hn hb
    obtain ⟨k0, k1, k2, k3, k4, k5, k6, k7, k8, k9, k10, k11⟩ := (S6.out.box 0 _ _ rfl).bd
    have kl := (S6.out.box 0 _ _ rfl).lt
    obtain ⟨m0, m1, m2, m3, m4, m5, m6, m7, m8, m9, m10, m11⟩ := (S6.out.box 3 _ _ rfl).bd
    have ml := (S6.out.box 3 _ _ rfl).lt
    go_wp2_with fail
    refine (HER.out _ _ _ (S6.out.nth 1 _ rfl) (S6.out.nth 4 _ rfl)).mono ?_
    rintro e w5 ⟨rfl, hb⟩
    have S7 := Lib.hid (S6.out.more hb)
    clear S6
    clear k0 k1 k2 k3 k4 k5 k6 k7 k8 k9 k10 k11 kl m0 m1 m2 m3 m4 m5 m6 m7 m8 m9 m10 m11 ml hb
    go_wp2_with fail
    refine (HT.out _ S7.out.below).mono ?_
    rintro e w6 ⟨vy, rfl, hp, hn, hb⟩
    have S8 := Lib.hid (S7.out.add (lsT 3 vy (ll.map lmC)) hb hp hn)
    clear S7
    clear hp hn hb
    go_wp2_with fail
    refine (HE.out _ _ _ (S8.out.nth 3 _ rfl) (S8.out.nth 0 _ rfl)).mono ?_
    rintro e w7 ⟨rfl, hb⟩
    have S9 := Lib.hid (S8.out.more hb)
    clear S8
    clear hb
    go_wp2_with fail
    refine (HM.out _ _ (S9.out.nth 3 _ rfl)).mono ?_
    rintro e w8 ⟨rfl, ht, hmk⟩
    have S10 := Lib.hid (S9.out.put 3 _ rfl ht (fun k hk => hk) (lsT 3 vx ((List.range ll.length).map (mkLm 1))) hmk (fun k hk => .inl hk))
    clear S9
    clear ht hmk
    obtain ⟨k0, k1, k2, k3, k4, k5, k6, k7, k8, k9, k10, k11⟩ := (S10.out.box 1 _ _ rfl).bd
    have kl := (S10.out.box 1 _ _ rfl).lt
    obtain ⟨m0, m1, m2, m3, m4, m5, m6, m7, m8, m9, m10, m11⟩ := (S10.out.box 4 _ _ rfl).bd
    have ml := (S10.out.box 4 _ _ rfl).lt
    go_wp2_with fail
    refine (HER.out _ _ _ (S10.out.nth 2 _ rfl) (S10.out.nth 5 _ rfl)).mono ?_
    rintro e w9 ⟨rfl, hb⟩
    have S11 := Lib.hid (S10.out.more hb)
    clear S10
    clear k0 k1 k2 k3 k4 k5 k6 k7 k8 k9 k10 k11 kl m0 m1 m2 m3 m4 m5 m6 m7 m8 m9 m10 m11 ml hb
    obtain ⟨k0, k1, k2, k3, k4, k5, k6, k7, k8, k9, k10, k11⟩ := (S11.out.box 1 _ _ rfl).bd
    have kl := (S11.out.box 1 _ _ rfl).lt
    go_wp2_with fail
    refine (HMR.out _ _ (S11.out.nth 2 _ rfl)).mono ?_
    rintro e w10 ⟨rfl, ht, hmk⟩
    have S12 := Lib.hid (S11.out.put 2 _ rfl ht (fun k hk => hk) (bmT (bdV B ag) 1 B) hmk (fun k hk => .inl hk))
    clear S11
    clear k0 k1 k2 k3 k4 k5 k6 k7 k8 k9 k10 k11 kl ht hmk
    obtain ⟨k0, k1, k2, k3, k4, k5, k6, k7, k8, k9, k10, k11⟩ := (S12.out.box 1 _ _ rfl).bd
    have kl := (S12.out.box 1 _ _ rfl).lt
    go_wp2_with fail
    refine (HHR.out _ _ (S12.out.nth 2 _ rfl)).mono ?_
    rintro e w11 ⟨rfl, hb⟩
    have S13 := Lib.hid (S12.out.more hb)
    clear S12
    clear k0 k1 k2 k3 k4 k5 k6 k7 k8 k9 k10 k11 kl hb
    go_wp2_with fail
    refine (HT.out _ S13.out.below).mono ?_
    rintro e w12 ⟨vz, rfl, hp, hn, hb⟩
    have S14 := Lib.hid (S13.out.add (lsT 3 vz (ll.map lmC)) hb hp hn)
    clear S13
    clear hp hn hb
    go_wp2_with fail
    refine (HY.out _ _ (S14.out.nth 0 _ rfl)).mono ?_
    rintro e w13 ⟨u, rfl, hp, hn, hb⟩
    obtain ⟨ah, rfl, _⟩ := id hp
    have S15 := Lib.hid (S14.out.add (bdT (bdV B ah) B) hb hp hn)
    clear S14
    have S16 := Lib.hid (S15.out.made (bdL B ah) 32)
    clear S15
    clear hp hn hb
    obtain ⟨k0, k1, k2, k3, k4, k5, k6, k7, k8, k9, k10, k11⟩ := (S16.out.box 0 _ _ rfl).bd
    have kl := (S16.out.box 0 _ _ rfl).lt
    obtain ⟨m0, m1, m2, m3, m4, m5, m6, m7, m8, m9, m10, m11⟩ := (S16.out.box 7 _ _ rfl).bd
    have ml := (S16.out.box 7 _ _ rfl).lt
    go_wp2_with fail
    refine (HER.out _ _ _ (S16.out.nth 1 _ rfl) (S16.out.nth 8 _ rfl)).mono ?_
    rintro e w14 ⟨rfl, hb⟩
    have S17 := Lib.hid (S16.out.more hb)
    clear S16
    clear k0 k1 k2 k3 k4 k5 k6 k7 k8 k9 k10 k11 kl m0 m1 m2 m3 m4 m5 m6 m7 m8 m9 m10 m11 ml hb
    obtain ⟨k0, k1, k2, k3, k4, k5, k6, k7, k8, k9, k10, k11⟩ := (S17.out.box 4 _ _ rfl).bd
    have kl := (S17.out.box 4 _ _ rfl).lt
    go_wp2_with fail
    refine (HHR.out _ _ (S17.out.nth 5 _ rfl)).mono ?_
    rintro e w15 ⟨rfl, hb⟩
    have S18 := Lib.hid (S17.out.more hb)
    clear S17
    clear k0 k1 k2 k3 k4 k5 k6 k7 k8 k9 k10 k11 kl hb
    go_wp2
    go_ret
    exact ⟨rfl, S18.out.below⟩
  · rw [if_neg hL] at hs
    have HS := Lib.hid hs
    clear hs hL h hm
    go_enter Try.func8, Try.ntmps8
    go_wp2_with fail
    refine HS.out.mono ?_
    rintro e w0 ⟨rfl, rfl⟩
    go_wp2
    go_ret
    exact ⟨rfl, S0.out.below⟩
end Go.Proofs.Ytckofkdeedbbgaa
