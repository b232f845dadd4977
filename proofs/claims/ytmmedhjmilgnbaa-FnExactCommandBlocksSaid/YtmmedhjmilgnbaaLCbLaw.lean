/- What this text proves: the law of FnExactCommandBlocks: the program and the model answer alike, for every sender; the argument stays; the answer owns its memory. -/
import Derived.Test.YtmmedhjmilgnbaaICb
import Derived.Test.YtmmedhjmilgnbaaMarkS
import Derived.Test.YtmmedhjmilgnbaaSnd
import Derived.Test.YtmmedhjmilgnbaaRowC
import Derived.Deep.RegionHeld3
import Derived.Deep.Cut
import Derived.Deep.CutRange
namespace Go.Proofs.Ytmmedhjmilgnbaa
open Go.ChangeShapes Go.WideShapes Go.ChangeAt Go.RowKit
set_option linter.unusedVariables false

theorem cbL_small (n b : Int) (l : List Sn) (d : Int) : (cbL n b l d).length ≤ 20 := by
  cases h : snB n b l d with
  | true =>
    have h1 := snB_of h
    rw [cbL_yes h]
    unfold cbk
    rw [List.length_map]
    have := h1.1.2.2.2
    have := h1.1.2.1.2
    omega
  | false => rw [cbL_no h]; exact Nat.zero_le _
theorem OwnS.grown {W W' : World} {b : Nat} {v : Value} {l : List ByteArray} {row : Option Nat} (h : OwnS W b v l) (hg : W.grownBy W' row) (hne : ∀ k, v.ownBlock = some k → row ≠ some k) : OwnS W' b v l := by
  refine World.ownsRow.kept (row := row) h hg ?_
  cases hv : v.ownBlock with
  | none => exact .inl rfl
  | some k => exact .inr (fun e => hne k hv e.symm)

set_option maxRecDepth 8000 in
set_option maxHeartbeats 8000000 in
theorem law_commandblocks (n b : Int) (A : Option Addr) (l : List Sn) (k : Nat) (d : Int) (hl : l.length ≤ maxLen) (hs0 : ∀ j (hj : j < l.length), l[j].2.size ≤ maxLen) (w : World) (h : SnsAt w w.heap.size A l) :
    Calls Try.prog 9 #[seV n b (.slice A l.length k) d] w fun e w' => e = .returned (.bool true) ∧ Below w.heap.size w w' := by
  have F0 := Fit.made w (seL n b (.slice A l.length k) d) 37
  have hs := sz_snd n b d A l k 1048576 hl hs0 (Nat.le_refl _) _ ((h.more ((Below.refl _ w).alloc (Nat.le_refl _) (.cells (seL n b (.slice A l.length k) d).toArray 37))).raise (by simp))
  by_cases hL : l.length + totN l l.length ≤ 1048576
  · have hsz : ∀ j (hj : j < l.length), l[j].2.size ≤ 1100000 := fun j hj => by have := totN_at l hj; omega
    have HT := Lib.hid (fun W (hb : Below w.heap.size w W) => to_snd n b d A l k (by omega) W ((h.more hb).raise hb.size))
    have hx : ∀ A2 c2 W B, OwnN W B (.slice A2 l.length c2) l → Calls Try.prog 33 #[seV n b (.slice A2 l.length c2) d] W fun e w' => ∃ v, e = .returned v ∧ OwnS w' W.heap.size v (cbL n b l d) ∧ Below W.heap.size W w' :=
      fun A2 c2 W B ho => cb_spec n b d A2 l c2 (by omega) hsz W ho.ats
    have hy : ∀ A2 c2 W B, OwnN W B (.slice A2 l.length c2) l → Calls Try.prog 34 #[seV n b (.slice A2 l.length c2) d] W fun e w' => ∃ v, e = .returned v ∧ OwnS w' W.heap.size v (cbL n b l d) ∧ Below W.heap.size W w' :=
      fun A2 c2 W B ho => cb_impl n b d A2 l c2 (by omega) hsz W ho.ats
    have hLl := cbL_small n b l d
    generalize cbL n b l d = L at *
    have HX := Lib.hid hx
    have HY := Lib.hid hy
    have HE := Lib.hid (fun v1 v2 b1 b2 W => eq_snd n b d l (by omega) v1 v2 b1 b2 W)
    have HER := Lib.hid (fun v1 v2 b1 b2 W => eq_any W b1 b2 v1 v2 L (by omega))
    have HMX := Lib.hid (fun v base W => mark_snd n b d l (by omega) v base W)
    have hmg := fun v base W => mark_any W base v L (by omega)
    have hhg := fun v base W => held_any W base L.length v (by omega)
    obtain ⟨K, hK⟩ : ∃ K, 1 + 2 * (l.length : Int) = K := ⟨_, rfl⟩
    obtain ⟨M, hM⟩ : ∃ M, ((1 + L.length : Nat) : Int) = M := ⟨_, rfl⟩
    have hK0 : decide (K < 0) = false := by simp; omega
    have hM0 : decide (M < 0) = false := by simp; omega
    have hMM : (M != M) = false := by simp
    simp only [hK] at HMX
    simp only [hM] at hmg hhg
    have HMG := Lib.hid hmg
    have HHG := Lib.hid hhg
    simp only [if_pos hL] at hs
    have hd0 : decide (1048576 - ((l.length : Int) + (totN l l.length : Int)) < 0) = false := by simp; omega
    have HS := Lib.hid hs
    clear hs h hs0 hsz hx hy hK hM hLl hmg hhg
    generalize (totN l l.length : Int) = tot at *
    go_enter Try.func9, Try.ntmps9
    go_wp2_with fail
    refine HS.out.mono ?_
    rintro e w1 ⟨rfl, hb1⟩
    have F1 := Lib.hid (F0.more hb1)
    obtain ⟨k0, k1, k2, k3⟩ := F1.out.box.fourS
    have hz1 : w.heap.size + 1 ≤ w1.heap.size := F1.out.box.lt
    clear hb1 F0
    go_wp2_with fail
    refine (HT.out _ F1.out.below).mono ?_
    rintro e w2 ⟨A2, c2, rfl, ho2, hb2⟩
    have F2 := Lib.hid (F1.out.more hb2)
    have hz2 := hb2.size
    have HX2 := Lib.hid (HX.out A2 c2 w2 _ ho2)
    clear hb2 k0 k1 k2 k3 ho2
    go_wp2_with fail
    refine HX2.out.mono ?_
    rintro e w3 ⟨v3, rfl, ho3, hb3⟩
    have hz3 := hb3.size
    have F3 := Lib.hid (F2.out.more hb3)
    have O3 := Lib.hid ho3
    clear hb3 ho3 HX2 F2
    obtain ⟨k0, k1, k2, k3⟩ := F3.out.box.fourS
    go_wp2_with fail
    refine (HT.out _ F3.out.below).mono ?_
    rintro e w4 ⟨A4, c4, rfl, ho4, hb4⟩
    have hz4 := hb4.size
    have F4 := Lib.hid ((F3.out.more hb4).more ((Below.refl _ _).alloc (Nat.le_refl _) (.cells (seL n b (.slice A4 l.length c4) d).toArray 42)))
    have C4 := Lib.hid (hb4.alloc hb4.size (.cells (seL n b (.slice A4 l.length c4) d).toArray 42))
    have X4 := Lib.hid (Box.made w4 (seL n b (.slice A4 l.length c4) d) 42 w4.heap.size rfl)
    have UX4 := Lib.hid (OwnR.upto ho4)
    have OX4 := Lib.hid (OwnR.more ho4 ((Below.refl _ _).alloc (Nat.le_refl _) (.cells (seL n b (.slice A4 l.length c4) d).toArray 42)))
    have HY4 := Lib.hid (HY.out A4 c4 _ _ OX4.out)
    clear hb4 ho4 k0 k1 k2 k3 F3
    obtain ⟨k0, k1, k2, k3⟩ := X4.out.fourS
    go_wp2_with fail
    refine HY4.out.mono ?_
    rintro e w5 ⟨v5, rfl, ho5, hb5⟩
    have hz5 : w4.heap.size + 1 ≤ w5.heap.size := by have := hb5.size; simpa using this
    have F5 := Lib.hid (F4.out.more hb5)
    have X5 := Lib.hid (X4.out.more hb5)
    have OX5 := Lib.hid (OwnR.more OX4.out hb5)
    have C5 := Lib.hid (C4.out.trans (hb5.mono C4.out.size))
    have O5 := Lib.hid (show OwnS w5 (w4.heap.size + 1) v5 L from by simpa using ho5)
    clear hb5 ho5 k0 k1 k2 k3 X4 OX4 HY4 F4 C4
    have HE5 := Lib.hid (HER.out _ _ _ _ _ O5.out (O3.out.more C5.out))
    go_wp2_with fail
    refine HE5.out.mono ?_
    rintro e w6 ⟨rfl, d6, hw6⟩
    have hb6 : Below w5.heap.size w5 w6 := by rw [hw6]; exact below_draws (Below.refl _ _) d6
    have F6 := Lib.hid (F5.out.more hb6).drew
    have X6 := Lib.hid (X5.out.more hb6).drew
    have OX6 := Lib.hid (OwnR.more (OwnR.more OX5.out hb6) (Below.refl _ _).drew)
    have C6 := Lib.hid (C5.out.trans (hb6.mono C5.out.size)).drew
    have O6 := Lib.hid ((O5.out.more hb6).more (Below.refl _ _).drew)
    have hz6 : w4.heap.size + 1 ≤ w6.drew.heap.size := Nat.le_trans hz5 hb6.size
    clear hb6 hw6 F5 X5 OX5 C5 O5 HE5 hz5
    obtain ⟨k0, k1, k2, k3⟩ := F6.out.box.fourS
    obtain ⟨m0, m1, m2, m3⟩ := X6.out.fourS
    generalize w4.heap.size = gx at *
    have HT6 := Lib.hid ((HT.out _ F6.out.below).mono fun e w' h => (show ∃ A1 c1, e = .returned (seV n b (.slice A1 l.length c1) d) ∧ OwnN w' w.heap.size (.slice A1 l.length c1) l ∧ Below w6.drew.heap.size w6.drew w' ∧ Cells4S w' w.heap.size (.int .i64 n) (.int .i64 b) (.slice A l.length k) (.int .i64 d) ∧ Cells4S w' gx (.int .i64 n) (.int .i64 b) (.slice A4 l.length c4) (.int .i64 d) from by
      obtain ⟨A1, c1, h1, h2, h3⟩ := h
      exact ⟨A1, c1, h1, OwnR.lower h2 F6.out.below.size, h3, (F6.out.more h3).box.fourS, (X6.out.more h3).fourS⟩))
    go_wp2
    go_region_held3 (fun w' => w'.cell? ⟨w.heap.size, 0, none⟩ = some (.int .i64 n) ∧ w'.cell? ⟨w.heap.size, 1, none⟩ = some (.int .i64 b) ∧ w'.cell? ⟨w.heap.size, 2, none⟩ = some (.slice A l.length k) ∧ w'.cell? ⟨w.heap.size, 3, none⟩ = some (.int .i64 d) ∧ w'.cell? ⟨gx, 0, none⟩ = some (.int .i64 n) ∧ w'.cell? ⟨gx, 1, none⟩ = some (.int .i64 b) ∧ w'.cell? ⟨gx, 2, none⟩ = some (.slice A4 l.length c4) ∧ w'.cell? ⟨gx, 3, none⟩ = some (.int .i64 d)) (first | exact ⟨k0, k1, k2, k3, m0, m1, m2, m3⟩ | exact ⟨l4, l5, l6, l7, l0, l1, l2, l3⟩ | exact ⟨n4, n5, n6, n7, n0, n1, n2, n3⟩)
      (first
        | (go_at_call 22; (with_reducible refine HT6.out.mono ?_); rintro e w7 ⟨A7, c7, rfl, O7, B7, ⟨l4, l5, l6, l7⟩, l0, l1, l2, l3⟩)
        | (go_at_call 24; (with_reducible refine (HE.out _ _ w3.heap.size w.heap.size _ (OwnR.more OX6.out B7) O7).mono ?_); rintro e w8 ⟨rfl, B8⟩; obtain ⟨n0, n1, n2, n3⟩ := ((X6.out.more B7).more B8).fourS; obtain ⟨n4, n5, n6, n7⟩ := ((F6.out.more B7).more B8).box.fourS))
    all_goals
      have B68 : Below w6.drew.heap.size w6.drew w8 := B7.trans (B8.mono B7.size)
      have F8 := Lib.hid (F6.out.more B68)
      have X8 := Lib.hid (X6.out.more B68)
      have OX8 := Lib.hid (OwnR.more OX6.out B68)
      have C8 := Lib.hid (C6.out.trans (B68.mono C6.out.size))
      have O8 := Lib.hid (O6.out.more B68)
      have hz8 : gx + 1 ≤ w8.heap.size := Nat.le_trans hz6 B68.size
      have hx8 : w3.heap.size ≤ w8.heap.size := C8.out.size
      clear k0 k1 k2 k3 m0 m1 m2 m3 l0 l1 l2 l3 l4 l5 l6 l7 n0 n1 n2 n3 n4 n5 n6 n7 B7 B8 B68 O7 HT6 F6 X6 OX6 C6 O6 hz6
      obtain ⟨k0, k1, k2, k3⟩ := X8.out.fourS
      go_wp2_with fail
      refine (HMX.out _ _ _ OX8.out hx8).mono ?_
      rintro e w9 ⟨rfl, hg9, _⟩
      have hux : ∀ j, (Value.slice A4 l.length c4).ownBlock = some j → w3.heap.size ≤ j ∧ j < gx := fun j hj => ⟨(OwnR.upto OX8.out j hj).1, (UX4.out j hj).2⟩
      have C9 := Lib.hid (C8.out.grown hg9 C8.out.size (fun j hj => (hux j hj).1))
      have P9 := Lib.hid (F8.out.box.grown hg9 (fun e => by have := (hux _ e).1; omega))
      have Z9 := Lib.hid (F8.out.below.grown hg9 F8.out.below.size (fun j hj => by have := (hux j hj).1; omega))
      have O9 := Lib.hid (O8.out.grown hg9 (fun j hj e => by have h1 := (World.ownsRow.lt O8.out j hj).1; have h2 := (hux j e).2; omega))
      have hz9 := Nat.le_trans hz8 hg9.size
      clear hg9 hux k0 k1 k2 k3 X8 OX8 C8 O8 F8
      have HE9 := Lib.hid (HER.out _ _ _ _ _ O9.out (O3.out.more C9.out))
      go_wp2_with fail
      refine HE9.out.mono ?_
      rintro e w10 ⟨rfl, d10, hw10⟩
      have hb10 : Below w9.heap.size w9 w10 := by rw [hw10]; exact below_draws (Below.refl _ _) d10
      have C10 := Lib.hid (C9.out.trans (hb10.mono C9.out.size))
      have P10 := Lib.hid (P9.out.more hb10)
      have Z10 := Lib.hid (Z9.out.trans (hb10.mono Z9.out.size))
      have O10 := Lib.hid (O9.out.more hb10)
      have hz10 := Nat.le_trans hz9 hb10.size
      clear hb10 hw10 C9 P9 Z9 O9 HE9 hz9
      go_wp2_with fail
      refine (HMG.out _ _ _ O10.out hz10).mono ?_
      rintro e w11 ⟨rfl, om11, hb11, hs11⟩
      have C11 := Lib.hid (C10.out.trans (hb11.mono (by omega)))
      have P11 := Lib.hid (P10.out.moreAt hb11 (by omega) hs11)
      have Z11 := Lib.hid (Z10.out.trans (hb11.mono (by omega)))
      have O11 := Lib.hid om11
      clear hb11 om11 hs11 C10 P10 Z10 O10
      go_wp2_with fail
      refine (HHG.out _ _ _ O11.out).mono ?_
      rintro e w12 ⟨rfl, hb12⟩
      have C12 := Lib.hid (C11.out.trans (hb12.mono C11.out.size))
      have P12 := Lib.hid (P11.out.more hb12)
      have Z12 := Lib.hid (Z11.out.trans (hb12.mono Z11.out.size))
      have O12 := Lib.hid (O11.out.more hb12)
      clear hb12 C11 P11 Z11 O11
      obtain ⟨k0, k1, k2, k3⟩ := P12.out.fourS
      go_wp2_with fail
      refine (HT.out _ Z12.out).mono ?_
      rintro e w13 ⟨A13, c13, rfl, ho13, hb13⟩
      have C13 := Lib.hid (C12.out.trans (hb13.mono C12.out.size))
      have Z13 := Lib.hid (Z12.out.trans (hb13.mono Z12.out.size))
      have O13 := Lib.hid (O12.out.more hb13)
      have HY13 := Lib.hid (HY.out A13 c13 w13 _ ho13)
      clear hb13 ho13 k0 k1 k2 k3 P12 C12 Z12 O12
      go_wp2_with fail
      refine HY13.out.mono ?_
      rintro e w14 ⟨v14, rfl, ho14, hb14⟩
      have C14 := Lib.hid (C13.out.trans (hb14.mono C13.out.size))
      have Z14 := Lib.hid (Z13.out.trans (hb14.mono Z13.out.size))
      have O14 := Lib.hid (O13.out.more hb14)
      have HE14 := Lib.hid (HER.out _ _ _ _ _ ho14 (O3.out.more C14.out))
      clear hb14 ho14 C13 Z13 O13 HY13
      go_wp2_with fail
      refine HE14.out.mono ?_
      rintro e w15 ⟨rfl, d15, hw15⟩
      have hb15 : Below w14.heap.size w14 w15 := by rw [hw15]; exact below_draws (Below.refl _ _) d15
      have Z15 := Lib.hid (Z14.out.trans (hb15.mono Z14.out.size))
      have O15 := Lib.hid (O14.out.more hb15)
      clear hb15 hw15 C14 Z14 O14 HE14
      go_wp2_with fail
      refine (HHG.out _ _ _ O15.out).mono ?_
      rintro e w16 ⟨rfl, hb16⟩
      have Z16 := Lib.hid (Z15.out.trans (hb16.mono Z15.out.size))
      clear hb16 Z15 O15
      go_wp2
      go_ret
      exact ⟨rfl, Z16.out⟩
  · simp only [if_neg hL] at hs
    have HS := Lib.hid hs
    clear hs h
    go_enter Try.func9, Try.ntmps9
    go_wp2_with fail
    refine HS.out.mono ?_
    rintro e w1 ⟨rfl, hb1⟩
    have F1 := Lib.hid (F0.more hb1)
    clear hb1 F0
    go_wp2
    go_ret
    exact ⟨rfl, F1.out.below⟩
end Go.Proofs.Ytmmedhjmilgnbaa
