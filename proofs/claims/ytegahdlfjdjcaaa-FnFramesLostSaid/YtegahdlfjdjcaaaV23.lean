/- What this text proves: the parts IPe, IPk2, IPk3 of the proof, each under its own words. -/
import Derived.Test.YtegahdlfjdjcaaaV22
import Derived.Test.YtegahdlfjdjcaaaV06
import Derived.Deep.RegionLaw
import Derived.Outline
/- What this text proves: the contract of the program's EncodePacket. -/
namespace Go.Proofs.Ytegahdlfjdjcaaa
open Go.ChangeShapes Go.WideShapes Go.ChangeAt Go.RowKit
set_option linter.unusedVariables false

set_option maxHeartbeats 2000000 in
theorem enc_impl (a q : Int) (d : ByteArray) (hd : d.size ≤ 1048576) (w : World) :
    Calls Try.prog 17 #[pkV a q d] w fun e w' => e = .returned (.string (pkT a q d)) ∧ Below w.heap.size w w' := by
  have H1 := Lib.hid (pk_impl a q d)
  by_cases hk : PkOk a q d
  · rw [decide_eq_true hk] at H1
    have HV := Lib.hid (show pkT a q d = putS a 1 ++ putS q 2 ++ putS (d.size : Int) 1 ++ d by unfold pkT; rw [if_pos hk])
    have FA := Lib.hid (fun W (hf : Fit w W w.heap.size (pkL a q d)) => (put_impl a 1 W).mono fun e w' h => (⟨h.1, hf.more h.2, (hf.more h.2).box.three⟩ : e = .returned (.string (putS a 1)) ∧ Fit w w' w.heap.size (pkL a q d) ∧ Cells3 w' w.heap.size (.int .i64 a) (.int .i64 q) (.string d)))
    have FB := Lib.hid (fun W (hf : Fit w W w.heap.size (pkL a q d)) => (put_impl q 2 W).mono fun e w' h => (⟨h.1, hf.more h.2, (hf.more h.2).box.three⟩ : e = .returned (.string (putS q 2)) ∧ Fit w w' w.heap.size (pkL a q d) ∧ Cells3 w' w.heap.size (.int .i64 a) (.int .i64 q) (.string d)))
    have FC := Lib.hid (fun W (hf : Fit w W w.heap.size (pkL a q d)) => (put_impl (d.size : Int) 1 W).mono fun e w' h => (⟨h.1, hf.more h.2, (hf.more h.2).box.three⟩ : e = .returned (.string (putS (d.size : Int) 1)) ∧ Fit w w' w.heap.size (pkL a q d) ∧ Cells3 w' w.heap.size (.int .i64 a) (.int .i64 q) (.string d)))
    have zA := putS_four_le a 1
    have zB := putS_four_le q 2
    have zC := putS_four_le (d.size : Int) 1
    generalize putS a 1 = A at *
    generalize putS q 2 = B at *
    generalize putS (d.size : Int) 1 = C at *
    have b1 : ¬ 9223372036854775807 < A.size + B.size := by omega
    have b2 : ¬ 9223372036854775807 < A.size + B.size + C.size := by omega
    have b3 : ¬ 9223372036854775807 < A.size + B.size + C.size + d.size := by omega
    go_enter Try.func17, Try.ntmps17
    go_wp2_with fail
    refine (H1.out _).mono ?_
    rintro e w1 ⟨rfl, hb1⟩
    have F1 := Lib.hid ((Fit.made w (pkL a q d) _).more hb1)
    obtain ⟨k0, k1, k2⟩ := F1.out.drew.box.three
    have F1d := Lib.hid F1.out.drew
    clear hb1
    go_wp2
    go_region_held3 (fun w' => w'.cell? ⟨w.heap.size, 0, none⟩ = some (.int .i64 a) ∧ w'.cell? ⟨w.heap.size, 1, none⟩ = some (.int .i64 q) ∧ w'.cell? ⟨w.heap.size, 2, none⟩ = some (.string d)) (first | exact ⟨k0, k1, k2⟩ | exact ⟨l0, l1, l2⟩ | exact ⟨m0, m1, m2⟩ | exact ⟨n0, n1, n2⟩)
      (first
        | (go_at_call 57; (with_reducible refine (FA.out _ F1d.out).mono ?_); rintro e w2 ⟨rfl, F2, l0, l1, l2⟩)
        | (go_at_call 57; (with_reducible refine (FB.out _ F2).mono ?_); rintro e w3 ⟨rfl, F3, m0, m1, m2⟩)
        | (go_at_call 57; (with_reducible refine (FC.out _ F3).mono ?_); rintro e w4 ⟨rfl, F4, n0, n1, n2⟩))
    all_goals go_wp2
    all_goals go_ret
    all_goals exact ⟨by rw [HV.out]; rfl, F4.below⟩
  · rw [decide_eq_false hk] at H1
    have HV := Lib.hid (show pkT a q d = ⟨#[]⟩ by unfold pkT; rw [if_neg hk])
    go_enter Try.func17, Try.ntmps17
    go_wp2_with fail
    refine (H1.out _).mono ?_
    rintro e w1 ⟨rfl, hb1⟩
    go_wp2
    go_ret
    exact ⟨by rw [HV.out]; rfl, ((Below.refl _ w).alloc (Nat.le_refl _) _).trans (hb1.mono (by simp))⟩
end Go.Proofs.Ytegahdlfjdjcaaa
/- What this text proves: the contracts of a packer at work: what it answers, what a packet put into it makes of it. -/
namespace Go.Proofs.Ytegahdlfjdjcaaa
open Go.ChangeShapes Go.WideShapes Go.ChangeAt Go.RowKit
set_option linter.unusedVariables false

/-- An append of one number in a region that has drawn its order. -/
theorem step_app_int {ops : Array Oper} {o : Oper} {a : Act} {K : Act → World → Prop} {Q : Exit → Act → World → Prop} {E : Prop} (W X : World) (hbe : Below W.heap.size W X) (hgd : o.guard = none) (s x : Operand)
    (ho : o.op = .call { callee := .builtin .append, args := #[s, x], argTypes := #[32, 32] })
    (base : Nat) (v : Value) (l : List Int) (t : Int) (hs : a.eval s = v) (gx c : Nat)
    (hx : a.eval x = .slice (some ⟨gx, 0, none⟩) 1 c) (hown : OwnI W base v l)
    (hcell : X.cell? ⟨gx, 0, none⟩ = some (.int .i64 t))
    (hlen : l.length ≤ 1099511626) (hbase : base ≤ W.heap.size)
    (h : ∀ v' w', OwnI w' base v' (l ++ [t]) → X.grownBy w' v.ownBlock → (v'.ownBlock = v.ownBlock ∨ v'.ownBlock = some X.heap.size) → K (a.put o.dst v') w') :
    if Region.wanted o (yielded ops a.tmps) = true then Oper.wp Try.prog o a X K Q else E := by
  have hw : Region.wanted o (yielded ops a.tmps) = true := by simp [Region.wanted, hgd]
  rw [if_pos hw]
  have hXo : OwnI X base v l := hown.more hbe
  have hi : IntsAt X X.heap.size (some ⟨gx, 0, none⟩) [t] := .inr ⟨gx, 0, rfl, (by
    rcases Nat.lt_or_ge gx X.heap.size with h1 | h1
    · exact h1
    · simp [World.cell?, Array.getElem?_eq_none h1] at hcell), fun j hj => by
      obtain rfl : j = 0 := by simpa using hj
      exact hcell⟩
  obtain ⟨v', w', hr, h2, h3, h4⟩ := run_ints X o.type base v l hXo X.heap.size (some ⟨gx, 0, none⟩) [t] c hi (by simp only [List.length_cons, List.length_nil]; omega) (Nat.le_trans hbase hbe.size)
  unfold Oper.wp execOp
  simp only [ho, resolve, invoke, builtin, Sem.run_bind, Sem.run_pure, Result.andThen_ok, List.map_toArray, List.map_cons, List.map_nil, hs, hx]
  simp only [List.length_cons, List.length_nil, Nat.zero_add] at hr
  simp only [hr, Result.andThen_ok]
  exact h v' w' h2 h3 h4

set_option maxHeartbeats 1000000 in
theorem packer_of (c n : Int) (r : ByteArray) (A : Option Addr) (m k g : Nat) (w : World) (hb : Box w g (kL c n r (.slice A m k))) :
    Calls Try.prog 63 #[ptr g] w fun e w' => e = .returned (paV c n r (.slice A m k)) ∧ Below w.heap.size w w' := by
  have HX := Lib.hid ((hb.alloc (.cells #[.int .i64 0, .int .i64 0, .string ⟨#[]⟩, .slice none 0 0] 34)).drew)
  have BR := Lib.hid ((Box.made w (paL 0 0 ⟨#[]⟩ (.slice none 0 0)) 34 _ rfl).drew)
  have BB := Lib.hid (((Below.refl _ w).alloc (Nat.le_refl _) (.cells #[.int .i64 0, .int .i64 0, .string ⟨#[]⟩, .slice none 0 0] 34)).drew)
  obtain ⟨k0, k1, k2, k3⟩ := HX.out.fourK
  obtain ⟨q0, q1, q2, q3⟩ := hb.fourK
  obtain ⟨m0, m1, m2, m3⟩ := BR.out.fourP
  have mi := BR.out.ice
  have BF := Lib.hid (BR.out.all (us := paL c n r (.slice A m k)) rfl)
  have BWF := Lib.hid (below_setCells (Nat.le_refl w.heap.size) (paL c n r (.slice A m k)) 0 _ BB.out)
  clear hb
  go_enter Try.func63, Try.ntmps63
  go_wp2
  go_region
  all_goals go_wp2
  all_goals
    refine bodyPost_ret_by (v := paV c n r (.slice A m k)) ?_ rfl ⟨rfl, ((Below.refl _ w).alloc (Nat.le_refl _) _).drew⟩
    simp [results, Try.f63, go_sem]

/-- The boxes of a walk over a packer at work: its cells at g, another variable's at gx. -/
structure PG (w W : World) (b g gx : Nat) (ks xs : List Value) (v : Value) (l : List Int) : Prop where
  below : Below b w W
  bk : Box W g ks
  bx : Box W gx xs
  own : OwnI W b v l
  ne : v.ownBlock ≠ some g
  nex : v.ownBlock ≠ some gx
  far : b ≤ g
  gxg : gx ≠ g
  hz : w.heap.size ≤ W.heap.size
theorem PG.bz {w W : World} {b g gx : Nat} {ks xs : List Value} {v : Value} {l : List Int} (h : PG w W b g gx ks xs v l) : b ≤ W.heap.size := Nat.le_trans h.far (Nat.le_of_lt h.bk.lt)
theorem PG.more {w W W' : World} {b g gx : Nat} {ks xs : List Value} {v : Value} {l : List Int} (h : PG w W b g gx ks xs v l) (hb : Below W.heap.size W W') : PG w W' b g gx ks xs v l :=
  ⟨h.below.trans (hb.mono h.bz), h.bk.more hb, h.bx.more hb, h.own.more hb, h.ne, h.nex, h.far, h.gxg, Nat.le_trans h.hz hb.size⟩
theorem PG.app {w X W' : World} {b g gx : Nat} {ks xs : List Value} {v v2 : Value} {l l2 : List Int} (h : PG w X b g gx ks xs v l) (ho : OwnI W' b v2 l2) (hg : X.grownBy W' v.ownBlock) (hor : v2.ownBlock = v.ownBlock ∨ v2.ownBlock = some X.heap.size) : PG w W' b g gx ks xs v2 l2 := by
  have hlt := World.ownsRow.lt h.own
  refine ⟨h.below.grown hg h.bz (fun k hk => (hlt k hk).1), h.bk.grown hg h.ne, h.bx.grown hg h.nex, ho, fun e => ?_, fun e => ?_, h.far, h.gxg, Nat.le_trans h.hz hg.size⟩
  · rcases hor with h1 | h1
    · exact h.ne (h1 ▸ e)
    · have := h.bk.lt
      rw [h1] at e
      injection e with e
      omega
  · rcases hor with h1 | h1
    · exact h.nex (h1 ▸ e)
    · have := h.bx.lt
      rw [h1] at e
      injection e with e
      omega
theorem PG.put {w W : World} {b g gx : Nat} {ks xs : List Value} {v : Value} {l : List Int} (h : PG w W b g gx ks xs v l) (j : Nat) (hj : j < ks.length) (u : Value) : PG w (W.setCell ⟨g, j, none⟩ u) b g gx (ks.set j u) xs v l :=
  ⟨h.below.setCell (p := ⟨g, j, none⟩) h.far u, h.bk.set j hj u, h.bx.other (Ne.symm h.gxg) j u, h.own.away h.ne u, h.ne, h.nex, h.far, h.gxg, by have := h.hz; simpa using this⟩

end Go.Proofs.Ytegahdlfjdjcaaa
/- What this text proves: what a packet put into a packer at work makes of it. -/
namespace Go.Proofs.Ytegahdlfjdjcaaa
open Go.ChangeShapes Go.WideShapes Go.ChangeAt Go.RowKit
set_option linter.unusedVariables false

set_option maxHeartbeats 2000000 in
theorem put_packet (c n : Int) (r : ByteArray) (l : List Int) (a q : Int) (d : ByteArray) (v : Value) (g b : Nat) (w : World) (hb : Box w g (kL c n r v)) (ho : OwnI w b v l) (hne : v.ownBlock ≠ some g) (hbg : b ≤ g)
    (hl : l.length ≤ 1048577) (hr : r.size ≤ 1048577) (hd : d.size ≤ 1048576) :
    Calls Try.prog 62 #[ptr g, pkV a q d] w fun e w' => e = .returned (.tuple #[]) ∧ ∃ v', Box w' g (kL c n (r ++ pkT a q d) v') ∧ OwnI w' b v' (l ++ [(r.size : Int)]) ∧ v'.ownBlock ≠ some g ∧ Below b w w' ∧ w.heap.size ≤ w'.heap.size := by
  obtain ⟨A, c0, rfl⟩ := ho.form
  have hlt := hb.lt
  have P1 : PG w (w.alloc (.cells #[.int .i64 a, .int .i64 q, .string d] 28)) b g w.heap.size (kL c n r (.slice A l.length c0)) (pkL a q d) (.slice A l.length c0) l :=
    ⟨(Below.refl b w).alloc (by omega) _, hb.alloc _, Box.made w (pkL a q d) _ _ rfl, ho.more ((Below.refl _ w).alloc (Nat.le_refl _) _), hne, fun e => by have := (World.ownsRow.lt ho _ e).2; omega, hbg, by omega, by simp⟩
  have HP1 := Lib.hid P1
  have HEN := Lib.hid (enc_impl a q d hd)
  have hT : (pkT a q d).size ≤ 1048600 := by
    have := putS_four_le a 1
    have := putS_four_le q 2
    have := putS_four_le (d.size : Int) 1
    unfold pkT
    split
    · simp only [ByteArray.size_append]; omega
    · decide
  generalize pkT a q d = T at *
  clear hb ho P1 hlt
  go_enter Try.func62, Try.ntmps62
  go_upto_region 1 with fail
  generalize w.alloc (.cells #[.int .i64 a, .int .i64 q, .string d] 28) = W1 at *
  generalize w.heap.size = gx at *
  obtain ⟨k0, _, _, k3⟩ := (HP1.out.more (Below.refl _ _).drew).bk.fourK
  obtain ⟨_, _, _, a3⟩ := (HP1.out.more ((Below.refl _ _).alloc (Nat.le_refl _) (.cells #[.int .i64 (r.size : Int)] 3))).bk.fourK
  have HS := Lib.hid (size_q r g W1.drew k0)
  clear k0
  have hw1 : b ≤ W1.heap.size := HP1.out.bz
  have hl2 : l.length ≤ 1099511626 := by omega
  go_wp2
  go_region_law ((first
      | (refine step_app_int W1 _ (by first | exact ((Below.refl _ _).alloc (Nat.le_refl _) _).drew | exact (Below.refl _ _).drew.alloc (by simp) _) rfl (.tmp 8) (.tmp 13) rfl b (.slice A l.length c0) l (r.size : Int) rfl W1.heap.size _ rfl HP1.out.own (by first | exact World.cell?_alloc_at _ _ _ _ rfl | simp) hl2 hw1 ?_; intro v2 w2 hown2 hg2 hor2; obtain ⟨l2, hl3⟩ : ∃ l2, l2 = l ++ [(r.size : Int)] := ⟨_, rfl⟩; rw [← hl3] at hown2; have HL3 := Lib.hid hl3; clear hl3; obtain ⟨A2, c2, hv2⟩ := hown2.form; subst hv2; have P2 := PG.app (W' := w2) (HP1.out.more (by first | exact ((Below.refl _ _).alloc (Nat.le_refl _) _).drew | exact (Below.refl _ _).drew.alloc (by simp) _)) hown2 hg2 hor2; have m3 := P2.bk.fourK.2.2.2; have mi := P2.bk.ice 3)
      | (go_simp; go_at_call 84; (with_reducible refine HS.out.mono ?_); rintro e w' ⟨rfl, rfl⟩)))
  all_goals
    have P3 := P2.put 3 (by simp) (.slice A2 l2.length c2)
    have HP3 := Lib.hid (show PG w _ b g gx (kL c n r (.slice A2 l2.length c2)) (pkL a q d) (.slice A2 l2.length c2) l2 from P3)
    clear P3 P2 hown2 hg2 hor2 m3 k3 a3 HS
    go_upto_region 2 with fail
    clear mi
    generalize w2.setCell ⟨g, 3, none⟩ _ = W3 at *
    obtain ⟨x0, x1, x2⟩ := (HP3.out.more (Below.refl _ _).drew).bx.three
    go_wp2
    go_region_law ((first
        | (go_simp; go_at_call 17; (with_reducible refine (HEN.out _).mono ?_); rintro e w4 ⟨rfl, hb4⟩; have P4 := (HP3.out.more (Below.refl _ _).drew).more hb4; have PUT := put_q r T g w4 P4.bk.fourK.1 (P4.bk.ice 0) (by omega))
        | (go_simp; go_at_call 85; (with_reducible refine PUT.mono ?_); rintro e w5 ⟨rfl, rfl⟩)))
  all_goals
    have P5 := Lib.hid (P4.put 0 (by simp) (.string (r ++ T)))
    clear P4 PUT hb4 x0 x1 x2
    go_wp2
    go_end0
    exact ⟨rfl, _, P5.out.bk, by rw [← HL3.out]; exact P5.out.own, P5.out.ne, P5.out.below, by first | exact P5.out.hz | exact Nat.le_of_lt P5.out.bx.lt⟩
end Go.Proofs.Ytegahdlfjdjcaaa
