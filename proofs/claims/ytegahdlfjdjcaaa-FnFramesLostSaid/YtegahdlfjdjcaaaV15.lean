/- What this text proves: the parts PakT, PakC of the proof, each under its own words. -/
import Derived.Test.YtegahdlfjdjcaaaV14
import Derived.OwnWalk
import Derived.Maps.AppendAt
/- What this text proves: the contract of the laws' own copy of a packer: its Starts lie in memory of their own. -/
namespace Go.Proofs.Ytegahdlfjdjcaaa
open Go.ChangeShapes Go.WideShapes Go.ChangeAt Go.RowKit
set_option linter.unusedVariables false

theorem OwnI.past {W : World} {base g j : Nat} {v : Value} {l : List Int} (h : OwnI W base v l) (hg : g < base) (u : Value) : OwnI (W.setCell ⟨g, j, none⟩ u) base v l := by
  refine World.ownsRow.kept (row := some g) h ⟨rfl, rfl, rfl, by simp, fun k hk hne => Below.heap_setCell W _ u k (fun e => hne (by rw [e]))⟩ ?_
  by_cases he : v.ownBlock = none
  · exact .inl he
  · refine .inr fun e => ?_
    have := (World.ownsRow.lt h g e).1
    omega
abbrev Cells4P (W : World) (g : Nat) (x y z u : Value) : Prop := W.cell? ⟨g, 0, none⟩ = some x ∧ W.cell? ⟨g, 1, none⟩ = some y ∧ W.cell? ⟨g, 2, none⟩ = some z ∧ W.cell? ⟨g, 3, none⟩ = some u
theorem Box.fourP {W : World} {g : Nat} {x y z u : Value} (h : Box W g [x, y, z, u]) : Cells4P W g x y z u := ⟨h.cell 0 (by simp), h.cell 1 (by simp), h.cell 2 (by simp), h.cell 3 (by simp)⟩

set_option maxHeartbeats 2000000 in
theorem to_pak (c n : Int) (r : ByteArray) (A : Option Addr) (l : List Int) (k : Nat) (hl : l.length ≤ 1048576) (w : World) (h : IntsAt w w.heap.size A l) :
    Calls Try.prog 48 #[paV c n r (.slice A l.length k)] w fun e w' => ∃ v, e = .returned (paV c n r v) ∧ OwnI w' w.heap.size v l ∧ Below w.heap.size w w' := by
  have HT := Lib.hid (fun W (hb : Below w.heap.size w W) => toI_any A l k hl W (by
    rcases h.more hb with h0 | ⟨b, off, hA, hlt, hc⟩
    · exact .inl h0
    · exact .inr ⟨b, off, hA, Nat.lt_of_lt_of_le hlt hb.size, hc⟩))
  clear h
  go_enter Try.func48, Try.ntmps48
  go_wp2_with fail
  have BR := ((Box.made (w.alloc (.cells (paL c n r (.slice A l.length k)).toArray 72)) (paL 0 0 ⟨#[]⟩ (.slice none 0 0)) 34 (w.heap.size + 1) (by simp)).alloc (.cells (paL c n r (.slice none 0 0)).toArray 34))
  have BO := Box.made ((w.alloc (.cells (paL c n r (.slice A l.length k)).toArray 72)).alloc (.cells (paL 0 0 ⟨#[]⟩ (.slice none 0 0)).toArray 34)) (paL c n r (.slice none 0 0)) 34 (w.heap.size + 1 + 1) (by simp)
  have BB : Below w.heap.size w (((w.alloc (.cells (paL c n r (.slice A l.length k)).toArray 72)).alloc (.cells (paL 0 0 ⟨#[]⟩ (.slice none 0 0)).toArray 34)).alloc (.cells (paL c n r (.slice none 0 0)).toArray 34)) := (((Below.refl _ w).alloc (Nat.le_refl _) _).alloc (by simp) _).alloc (by simp; omega) _
  have hz : (((w.alloc (.cells (paL c n r (.slice A l.length k)).toArray 72)).alloc (.cells (paL 0 0 ⟨#[]⟩ (.slice none 0 0)).toArray 34)).alloc (.cells (paL c n r (.slice none 0 0)).toArray 34)).heap.size = w.heap.size + 3 := by simp
  refine (HT.out _ BB).mono ?_
  rintro e w2 ⟨v, rfl, hown, hb⟩
  have BR2 := BR.more hb
  have BO2 := BO.more hb
  have BB2 := BB.trans (hb.mono (by omega))
  rw [hz] at hown
  have BO3 := BO2.set 3 (by simp) v
  have BR3 := (BR2.other (ga := w.heap.size + 1 + 1) (by omega) 3 v)
  have HB3 := Lib.hid ((BB2.setCell (p := ⟨w.heap.size + 1 + 1, 3, none⟩) (by simp; omega) v))
  have HO3 := Lib.hid (hown.past (g := w.heap.size + 1 + 1) (j := 3) (by omega) v)
  obtain ⟨A2, c2, rfl⟩ := hown.form
  obtain ⟨m0, m1, m2, m3⟩ := BO2.fourP
  have mi := BO2.ice
  obtain ⟨k0, k1, k2, k3⟩ := (show Box _ _ (paL c n r (.slice A2 l.length c2)) from BO3).fourP
  obtain ⟨r0, r1, r2, r3⟩ := BR3.fourP
  have ri := BR3.ice
  have BF := Lib.hid (BR3.all (us := paL c n r (.slice A2 l.length c2)) rfl)
  have HBF := Lib.hid (below_setCells (B := w.heap.size) (ga := w.heap.size + 1) (by omega) (paL c n r (.slice A2 l.length c2)) 0 _ HB3.out)
  have past4 : ∀ (us : List Value) (o : Nat) (W : World), OwnI W (w.heap.size + 3) (.slice A2 l.length c2) l → OwnI (W.setCells (w.heap.size + 1) o us) (w.heap.size + 3) (.slice A2 l.length c2) l := by
    intro us
    induction us with
    | nil => intro o W h; exact h
    | cons u r ih => intro o W h; exact ih _ _ (h.past (by omega) u)
  have HOF := Lib.hid (past4 (paL c n r (.slice A2 l.length c2)) 0 _ HO3.out)
  clear BR BO BB BR2 BO2 BB2 BO3 BR3 hown hb past4 hz
  go_wp2
  show bodyPost Try.prog Try.f48 _ Exit.ret _ ((w2.setCell ⟨w.heap.size + 1 + 1, 3, none⟩ (.slice A2 l.length c2)).setCells (w.heap.size + 1) 0 (paL c n r (.slice A2 l.length c2)))
  generalize (w2.setCell ⟨w.heap.size + 1 + 1, 3, none⟩ (.slice A2 l.length c2)).setCells (w.heap.size + 1) 0 (paL c n r (.slice A2 l.length c2)) = WE at *
  obtain ⟨c0, c1, c3, c4⟩ := BF.out.fourP
  refine bodyPost_ret_by (v := paV c n r (.slice A2 l.length c2)) ?_ rfl ⟨_, rfl, HOF.out.lower (by omega), HBF.out⟩
  simp [results, Try.f48, go_sem, c0, c1, c3, c4]
end Go.Proofs.Ytegahdlfjdjcaaa
/- What this text proves: numbers appended at once to a slice of the call's own; the contract of the model's own copy of a packer. -/
namespace Go.Proofs.Ytegahdlfjdjcaaa
open Go.ChangeShapes Go.WideShapes Go.ChangeAt Go.RowKit
set_option linter.unusedVariables false

theorem run_ints (w : World) (ty : TypeId) (base : Nat) (v : Value) (l0 : List Int) (hown : OwnI w base v l0) (B : Nat) (A : Option Addr) (l : List Int) (k : Nat) (hi : IntsAt w B A l)
    (hlen : l0.length + l.length ≤ 1099511627) (hbase : base ≤ w.heap.size) :
    ∃ v' w', (Builtin.append_ #[32, 32] ty #[v, .slice A l.length k]).run Try.prog w = .ok v' w' ∧ OwnI w' base v' (l0 ++ l) ∧ w.grownBy w' v.ownBlock ∧ (v'.ownBlock = v.ownBlock ∨ v'.ownBlock = some w.heap.size) := by
  obtain ⟨i, hii, hz0, hz1, hz2⟩ := info_parts info_int
  have done : ∀ (a : Addr), (∀ j u, (l.map (Value.int .i64))[j]? = some u → w.cell? (a.add j) = some u) → ∃ v' w', (Builtin.append_ #[32, 32] ty #[v, .slice (some a) l.length k]).run Try.prog w = .ok v' w' ∧ OwnI w' base v' (l0 ++ l) ∧ w.grownBy w' v.ownBlock ∧ (v'.ownBlock = v.ownBlock ∨ v'.ownBlock = some w.heap.size) := by
    intro a ha
    obtain ⟨v', w', h1, h2, h3, _, h4⟩ := run_append_own_at (P := Try.prog) w base 32 ty 3 i (.int .i64 0) 1 8 Try.underlying32 hii hz0 hz1 hz2 rfl (by decide) v l0.length (l0.map (Value.int .i64)) hown a l.length k (l.map (Value.int .i64)) (by simp) ha (fun u hu => by
      obtain ⟨x, _, rfl⟩ := List.mem_map.mp hu
      rfl) (by unfold maxLen; omega) (by omega) hbase
    refine ⟨v', w', h1, ?_, h3, h4⟩
    unfold OwnI
    rw [List.length_append, List.map_append]
    exact h2
  rcases hi with h0 | ⟨b, off, rfl, hb, hc⟩
  · obtain rfl : l = [] := List.eq_nil_of_length_eq_zero h0
    cases A with
    | some a => exact done a (fun j u hu => by simp at hu)
    | none =>
      refine ⟨v, w, ?_, by rw [List.append_nil]; exact hown, ⟨rfl, rfl, rfl, Nat.le_refl _, fun _ _ _ => rfl⟩, .inl rfl⟩
      have hcap : ∃ A0 c0, v = .slice A0 l0.length c0 ∧ l0.length ≤ c0 := by
        rcases hown.2 with ⟨rfl, hn⟩ | ⟨g, cap, cur, rfl, _, _, hle, _⟩
        · exact ⟨none, 0, by rw [hn], by omega⟩
        · exact ⟨_, _, rfl, hle⟩
      obtain ⟨A0, c0, rfl, hle⟩ := hcap
      cases A0 with
      | none => simp [Builtin.append_, run_underlying (Try.underlying32), sizeOf, typeInfo, hii, Builtin.lenOf, Builtin.firstCells, hle]
      | some a0 => simp [Builtin.append_, run_underlying (Try.underlying32), sizeOf, typeInfo, hii, Builtin.lenOf, Builtin.firstCells, hle, storeCells]
  · refine done _ (fun j u hu => ?_)
    rw [show (⟨b, off, none⟩ : Addr).add j = ⟨b, off + j, none⟩ from by unfold Addr.add; split <;> simp_all]
    simp only [List.getElem?_map, Option.map_eq_some_iff] at hu
    obtain ⟨x, hx, rfl⟩ := hu
    obtain ⟨hj, rfl⟩ := List.getElem?_eq_some_iff.mp hx
    exact hc j hj

theorem app_ints {ops : Array Oper} {rest : List Oper} {o : Oper} {a : Act} {Q : Exit → Act → World → Prop} (w : World) (hgd : o.guard = none) (s x : Operand)
    (ho : o.op = .call { callee := .builtin .append, args := #[s, x], argTypes := #[32, 32] })
    (base : Nat) (v : Value) (l0 : List Int) (hs : a.eval s = v) (hown : OwnI w base v l0) (B : Nat) (A : Option Addr) (l : List Int) (k : Nat) (hx : a.eval x = .slice A l.length k) (hi : IntsAt w B A l)
    (hlen : l0.length + l.length ≤ 1099511627) (hbase : base ≤ w.heap.size)
    (h : ∀ v' w', OwnI w' base v' (l0 ++ l) → w.grownBy w' v.ownBlock → (v'.ownBlock = v.ownBlock ∨ v'.ownBlock = some w.heap.size) → wpList Try.prog ops Q rest (a.put o.dst v') w') :
    wpList Try.prog ops Q (o :: rest) a w := by
  refine wpList_plain hgd fun _ hK => ?_
  obtain ⟨v', w', hr, h2, h3, h4⟩ := run_ints w o.type base v l0 hown B A l k hi hlen hbase
  unfold Oper.wp execOp
  simp only [ho, resolve, invoke, builtin, Sem.run_bind, Sem.run_pure, Result.andThen_ok, List.map_toArray, List.map_cons, List.map_nil, hs, hx, hr]
  exact hK _ _ (h v' w' h2 h3 h4)

theorem OwnI.away {W : World} {base g j : Nat} {v : Value} {l : List Int} (h : OwnI W base v l) (hg : v.ownBlock ≠ some g) (u : Value) : OwnI (W.setCell ⟨g, j, none⟩ u) base v l :=
  World.ownsRow.kept (row := some g) h ⟨rfl, rfl, rfl, by simp, fun k hk hne => Below.heap_setCell W _ u k (fun e => hne (by rw [e]))⟩ (.inr hg)
theorem Box.grown {W W' : World} {g : Nat} {vs : List Value} {row : Option Nat} (h : Box W g vs) (hb : W.grownBy W' row) (hne : row ≠ some g) : Box W' g vs := by
  have hk := hb.block g h.lt (fun e => hne e.symm)
  exact ⟨Nat.lt_of_lt_of_le h.lt hb.size, fun j hj => (World.cell?_of_block (a := ⟨g, j, none⟩) hk).trans (h.cell j hj), fun j => (World.frozen?_of_block (a := ⟨g, j, none⟩) hk).trans (h.ice j)⟩
theorem OwnI.ints {W : World} {base : Nat} {A : Option Addr} {c n : Nat} {l : List Int} (h : OwnI W base (.slice A n c) l) : IntsAt W W.heap.size A l := by
  by_cases h0 : l.length = 0
  · exact .inl h0
  · rcases h.2 with ⟨_, hn⟩ | ⟨g, cap, cur, hv, hbg, hg, hnc, _, hs, ht⟩
    · omega
    · have hlt := (World.ownsRow.lt h g (by rw [hv]; rfl)).2
      have hc := World.ownsRow.cells h (g := g) (by rw [hv]; rfl)
      injection hv with h1 h2 h3
      refine .inr ⟨g, 0, h1, hlt, fun j hj => ?_⟩
      have h5 := hc j (.int .i64 l[j]) (by simp [hj])
      rw [show (⟨g, 0, none⟩ : Addr).add j = ⟨g, 0 + j, none⟩ from by unfold Addr.add; split <;> simp_all] at h5
      exact h5

theorem IntsAt.raise {W : World} {B B' : Nat} {A : Option Addr} {l : List Int} (h : IntsAt W B A l) (hb : B ≤ B') : IntsAt W B' A l := by
  rcases h with h0 | ⟨b, off, hA, hlt, hc⟩
  · exact .inl h0
  · exact .inr ⟨b, off, hA, Nat.lt_of_lt_of_le hlt hb, hc⟩

set_option maxHeartbeats 2000000 in
theorem copy_pak (c n : Int) (r : ByteArray) (A : Option Addr) (l : List Int) (k : Nat) (hl : l.length ≤ 1099511627) (w : World) (h : IntsAt w w.heap.size A l) :
    Calls Try.prog 76 #[paV c n r (.slice A l.length k)] w fun e w' => ∃ v, e = .returned (paV c n r v) ∧ OwnI w' w.heap.size v l ∧ Below w.heap.size w w' := by
  have BO := Lib.hid (((Box.made w (paL c n r (.slice A l.length k)) 34 _ rfl).alloc (.cells (paL 0 0 ⟨#[]⟩ (.slice none 0 0)).toArray 34)).alloc (.cells #[] 3))
  have BR := Lib.hid ((Box.made (w.alloc (.cells (paL c n r (.slice A l.length k)).toArray 34)) (paL 0 0 ⟨#[]⟩ (.slice none 0 0)) 34 (w.heap.size + 1) (by simp)).alloc (.cells #[] 3))
  have BB := Lib.hid ((((Below.refl _ w).alloc (Nat.le_refl _) (.cells (paL c n r (.slice A l.length k)).toArray 34)).alloc (by simp) (.cells (paL 0 0 ⟨#[]⟩ (.slice none 0 0)).toArray 34)).alloc (by simp; omega) (.cells #[] 3))
  have HI := Lib.hid (h.more BB.out)
  have HE : Hid (OwnI (((w.alloc (.cells (paL c n r (.slice A l.length k)).toArray 34)).alloc (.cells (paL 0 0 ⟨#[]⟩ (.slice none 0 0)).toArray 34)).alloc (.cells #[] 3)) (w.heap.size + 2) (.slice (some ⟨w.heap.size + 1 + 1, 0, none⟩) 0 0) []) := Lib.hid (by
    have h0 := OwnI.empty ((w.alloc (.cells (paL c n r (.slice A l.length k)).toArray 34)).alloc (.cells (paL 0 0 ⟨#[]⟩ (.slice none 0 0)).toArray 34)) (w.heap.size + 2) (by simp)
    rw [show ((w.alloc (.cells (paL c n r (.slice A l.length k)).toArray 34)).alloc (.cells (paL 0 0 ⟨#[]⟩ (.slice none 0 0)).toArray 34)).heap.size = w.heap.size + 1 + 1 by simp] at h0
    exact h0)
  clear h
  go_enter Try.func76, Try.ntmps76
  go_wp2_with (at_builtin; go_loud (refine app_ints _ rfl _ _ rfl (w.heap.size + 2) (.slice (some ⟨w.heap.size + 1 + 1, 0, none⟩) 0 0) [] rfl HE.out w.heap.size A l k rfl HI.out (by simpa using hl) (by simp) ?_))
  intro v w2 hown hg _
  replace hown : OwnI w2 (w.heap.size + 2) v l := hown
  have hb2 : Below (w.heap.size + 2) _ w2 := (Below.refl (w.heap.size + 2) _).grown hg (by simp) fun k hk => (World.ownsRow.lt HE.out k hk).1
  have hz2 := hg.size
  have BO2 := BO.out.moreAt hb2 (by omega) hz2
  have BR2 := BR.out.moreAt hb2 (by omega) hz2
  have BB2 := BB.out.trans (hb2.mono (by omega))
  have BO3 := BO2.set 3 (by simp) v
  have BR3 := (BR2.other (ga := w.heap.size) (by omega) 3 v)
  have HB3 := Lib.hid ((BB2.setCell (p := ⟨w.heap.size, 3, none⟩) (by simp) v))
  have HO3 := Lib.hid (hown.past (g := w.heap.size) (j := 3) (by omega) v)
  obtain ⟨A2, c2, rfl⟩ := hown.form
  obtain ⟨m0, m1, m2, m3⟩ := BO2.fourP
  have mi := BO2.ice
  obtain ⟨k0, k1, k2, k3⟩ := (show Box _ _ (paL c n r (.slice A2 l.length c2)) from BO3).fourP
  obtain ⟨r0, r1, r2, r3⟩ := BR3.fourP
  have ri := BR3.ice
  have BF := Lib.hid (BR3.all (us := paL c n r (.slice A2 l.length c2)) rfl)
  have HBF := Lib.hid (below_setCells (B := w.heap.size) (ga := w.heap.size + 1) (by omega) (paL c n r (.slice A2 l.length c2)) 0 _ HB3.out)
  have past4 : ∀ (us : List Value) (o : Nat) (W : World), OwnI W (w.heap.size + 2) (.slice A2 l.length c2) l → OwnI (W.setCells (w.heap.size + 1) o us) (w.heap.size + 2) (.slice A2 l.length c2) l := by
    intro us
    induction us with
    | nil => intro o W h; exact h
    | cons u r ih => intro o W h; exact ih _ _ (h.past (by omega) u)
  have HOF := Lib.hid (past4 (paL c n r (.slice A2 l.length c2)) 0 _ HO3.out)
  clear BO2 BB2 BO3 BR3 BR2 hown hb2 past4 hz2 hg
  go_wp2
  show bodyPost Try.prog Try.f76 _ Exit.ret _ ((w2.setCell ⟨w.heap.size, 3, none⟩ (.slice A2 l.length c2)).setCells (w.heap.size + 1) 0 (paL c n r (.slice A2 l.length c2)))
  generalize (w2.setCell ⟨w.heap.size, 3, none⟩ (.slice A2 l.length c2)).setCells (w.heap.size + 1) 0 (paL c n r (.slice A2 l.length c2)) = WE at *
  obtain ⟨c0, c1, c3, c4⟩ := BF.out.fourP
  refine bodyPost_ret_by (v := paV c n r (.slice A2 l.length c2)) ?_ rfl ⟨_, rfl, HOF.out.lower (by omega), HBF.out⟩
  simp [results, Try.f76, go_sem, c0, c1, c3, c4]
end Go.Proofs.Ytegahdlfjdjcaaa
