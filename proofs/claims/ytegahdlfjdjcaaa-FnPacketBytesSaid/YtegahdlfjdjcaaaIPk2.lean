/- What this text proves: the contracts of a packer at work: what it answers, what a packet put into it makes of it. -/
import Derived.Test.YtegahdlfjdjcaaaIPk1
import Derived.Test.YtegahdlfjdjcaaaIPe
import Derived.Deep.RegionLaw
import Derived.Outline
namespace Go.Proofs.Ytegahdlfjdjcaaa
open Go.ChangeShapes Go.WideShapes Go.ChangeAt Go.RowKit
set_option linter.unusedVariables false

/-- An append of one number in a region that has drawn its order. -/
theorem step_app_int {ops : Array Oper} {o : Oper} {a : Act} {K : Act → World → Prop} {Q : Exit → Act → World → Prop} {E : Prop} (W X : World) (hbe : Below W.heap.size W X) (hgd : o.guard = none) (s x : Operand)
    (ho : o.op = .call { callee := .builtin .append, args := #[s, x], argTypes := #[32, 32] })
    (base : Nat) (v : Value) (l : List Int) (t : Int) (hs : a.eval s = v) (gx c : Nat)
    (hx : a.eval x = .slice (some ⟨gx, 0, none⟩) 1 c) (hown : OwnI W base v l)
    (hcell : X.cell? ⟨gx, 0, none⟩ = some (.int .i64 t))
    (hlen : l.length ≤ 1099511626) (hbase : base ≤ W.heap.size)
    (h : ∀ v' w', OwnI w' base v' (l ++ [t]) → X.grownBy w' v.ownBlock → (v'.ownBlock = v.ownBlock ∨ v'.ownBlock = some X.heap.size) → K (a.put o.dst v') w') :
    if Region.wanted o (yielded ops a.tmps) = true then Oper.wp Try.prog o a X K Q else E := by
  have hw : Region.wanted o (yielded ops a.tmps) = true := by simp [Region.wanted, hgd]
  rw [if_pos hw]
  have hXo : OwnI X base v l := hown.more hbe
  have hi : IntsAt X X.heap.size (some ⟨gx, 0, none⟩) [t] := .inr ⟨gx, 0, rfl, (by
    rcases Nat.lt_or_ge gx X.heap.size with h1 | h1
    · exact h1
    · simp [World.cell?, Array.getElem?_eq_none h1] at hcell), fun j hj => by
      obtain rfl : j = 0 := by simpa using hj
      exact hcell⟩
  obtain ⟨v', w', hr, h2, h3, h4⟩ := run_ints X o.type base v l hXo X.heap.size (some ⟨gx, 0, none⟩) [t] c hi (by simp only [List.length_cons, List.length_nil]; omega) (Nat.le_trans hbase hbe.size)
  unfold Oper.wp execOp
  simp only [ho, resolve, invoke, builtin, Sem.run_bind, Sem.run_pure, Result.andThen_ok, List.map_toArray, List.map_cons, List.map_nil, hs, hx]
  simp only [List.length_cons, List.length_nil, Nat.zero_add] at hr
  simp only [hr, Result.andThen_ok]
  exact h v' w' h2 h3 h4

set_option maxHeartbeats 1000000 in
theorem packer_of (c n : Int) (r : ByteArray) (A : Option Addr) (m k g : Nat) (w : World) (hb : Box w g (kL c n r (.slice A m k))) :
    Calls Try.prog 63 #[ptr g] w fun e w' => e = .returned (paV c n r (.slice A m k)) ∧ Below w.heap.size w w' := by
  have HX := Lib.hid ((hb.alloc (.cells #[.int .i64 0, .int .i64 0, .string ⟨#[]⟩, .slice none 0 0] 34)).drew)
  have BR := Lib.hid ((Box.made w (paL 0 0 ⟨#[]⟩ (.slice none 0 0)) 34 _ rfl).drew)
  have BB := Lib.hid (((Below.refl _ w).alloc (Nat.le_refl _) (.cells #[.int .i64 0, .int .i64 0, .string ⟨#[]⟩, .slice none 0 0] 34)).drew)
  obtain ⟨k0, k1, k2, k3⟩ := HX.out.fourK
  obtain ⟨q0, q1, q2, q3⟩ := hb.fourK
  obtain ⟨m0, m1, m2, m3⟩ := BR.out.fourP
  have mi := BR.out.ice
  have BF := Lib.hid (BR.out.all (us := paL c n r (.slice A m k)) rfl)
  have BWF := Lib.hid (below_setCells (Nat.le_refl w.heap.size) (paL c n r (.slice A m k)) 0 _ BB.out)
  clear hb
  go_enter Try.func63, Try.ntmps63
  go_wp2
  go_region
  all_goals go_wp2
  all_goals
    refine bodyPost_ret_by (v := paV c n r (.slice A m k)) ?_ rfl ⟨rfl, ((Below.refl _ w).alloc (Nat.le_refl _) _).drew⟩
    simp [results, Try.f63, go_sem]

/-- The boxes of a walk over a packer at work: its cells at g, another variable's at gx. -/
structure PG (w W : World) (b g gx : Nat) (ks xs : List Value) (v : Value) (l : List Int) : Prop where
  below : Below b w W
  bk : Box W g ks
  bx : Box W gx xs
  own : OwnI W b v l
  ne : v.ownBlock ≠ some g
  nex : v.ownBlock ≠ some gx
  far : b ≤ g
  gxg : gx ≠ g
  hz : w.heap.size ≤ W.heap.size
theorem PG.bz {w W : World} {b g gx : Nat} {ks xs : List Value} {v : Value} {l : List Int} (h : PG w W b g gx ks xs v l) : b ≤ W.heap.size := Nat.le_trans h.far (Nat.le_of_lt h.bk.lt)
theorem PG.more {w W W' : World} {b g gx : Nat} {ks xs : List Value} {v : Value} {l : List Int} (h : PG w W b g gx ks xs v l) (hb : Below W.heap.size W W') : PG w W' b g gx ks xs v l :=
  ⟨h.below.trans (hb.mono h.bz), h.bk.more hb, h.bx.more hb, h.own.more hb, h.ne, h.nex, h.far, h.gxg, Nat.le_trans h.hz hb.size⟩
theorem PG.app {w X W' : World} {b g gx : Nat} {ks xs : List Value} {v v2 : Value} {l l2 : List Int} (h : PG w X b g gx ks xs v l) (ho : OwnI W' b v2 l2) (hg : X.grownBy W' v.ownBlock) (hor : v2.ownBlock = v.ownBlock ∨ v2.ownBlock = some X.heap.size) : PG w W' b g gx ks xs v2 l2 := by
  have hlt := World.ownsRow.lt h.own
  refine ⟨h.below.grown hg h.bz (fun k hk => (hlt k hk).1), h.bk.grown hg h.ne, h.bx.grown hg h.nex, ho, fun e => ?_, fun e => ?_, h.far, h.gxg, Nat.le_trans h.hz hg.size⟩
  · rcases hor with h1 | h1
    · exact h.ne (h1 ▸ e)
    · have := h.bk.lt
      rw [h1] at e
      injection e with e
      omega
  · rcases hor with h1 | h1
    · exact h.nex (h1 ▸ e)
    · have := h.bx.lt
      rw [h1] at e
      injection e with e
      omega
theorem PG.put {w W : World} {b g gx : Nat} {ks xs : List Value} {v : Value} {l : List Int} (h : PG w W b g gx ks xs v l) (j : Nat) (hj : j < ks.length) (u : Value) : PG w (W.setCell ⟨g, j, none⟩ u) b g gx (ks.set j u) xs v l :=
  ⟨h.below.setCell (p := ⟨g, j, none⟩) h.far u, h.bk.set j hj u, h.bx.other (Ne.symm h.gxg) j u, h.own.away h.ne u, h.ne, h.nex, h.far, h.gxg, by have := h.hz; simpa using this⟩

end Go.Proofs.Ytegahdlfjdjcaaa
