/- What this text proves: the parts FoN, StR, StI of the proof, each under its own words. -/
import Derived.Test.YtckofkdeedbbgaaV18
import Derived.Test.YtckofkdeedbbgaaV15
import Derived.Test.YtckofkdeedbbgaaV10
import Derived.RegionTactic
/- What this text proves: the contracts of NewFileOut, of the program and the model. -/
namespace Go.Proofs.Ytckofkdeedbbgaa
open Go.ChangeShapes Go.WideShapes Go.ChangeAt Go.RowKit
set_option linter.unusedVariables false

/-- The first k numbers. -/
def upI (k : Nat) : List Int := (List.range k).map fun (j : Nat) => (j : Int)
theorem upI_len (k : Nat) : (upI k).length = k := by simp [upI]
theorem upI_succ (k : Nat) : (upI (k + 1)).map inC = (upI k).map inC ++ [inC (k : Int)] := by simp [upI, List.range_succ]
theorem St.nilRow {w W : World} {L : List Thing} (h : St w W L) (E : TypeId) (sz : Nat) : St w W (rowT E sz (.slice none 0 0) [] :: L) :=
  h.addAt _ (OwnR.nil E sz W 0) (fun k hk => by cases (show (none : Option Nat) = some k from hk)) (fun b hb k hk => by cases (show (none : Option Nat) = some k from hk))
/-- The queue of a new sender. -/
def newQ (d : ByteArray) : List Int := upI (cntS d.size).toNat ++ [-1]
theorem newQ_len (d : ByteArray) : (newQ d).length ≤ 26 := by
  have := cntS_bd d.size
  unfold newQ
  rw [List.length_append, upI_len]
  simp
  omega
noncomputable def newO (f : Int) (d : ByteArray) : Int × ByteArray × List Int × Bool × Bool := open Classical in if FoOk f d (newQ d) then (f, d, newQ d, false, true) else (0, ⟨#[]⟩, [], false, false)
theorem newO_yes {f : Int} {d : ByteArray} (h : FoOk f d (newQ d)) : newO f d = (f, d, newQ d, false, true) := by unfold newO; exact if_pos h
theorem newO_no {f : Int} {d : ByteArray} (h : ¬ FoOk f d (newQ d)) : newO f d = (0, ⟨#[]⟩, [], false, false) := by unfold newO; exact if_neg h
theorem newO_len (f : Int) (d : ByteArray) : (newO f d).2.2.1.length ≤ 26 := by
  by_cases h : FoOk f d (newQ d)
  · rw [newO_yes h]; exact newQ_len d
  · rw [newO_no h]; exact Nat.zero_le _
def FobEnd (w : World) (r : Int × ByteArray × List Int × Bool × Bool) (e : Ending) (w' : World) : Prop := ∃ v, e = .returned (.tuple #[v, .bool r.2.2.2.2]) ∧ (foT v r.1 r.2.1 r.2.2.2.1 r.2.2.1).P w' ∧ (∀ k, (foT v r.1 r.2.1 r.2.2.2.1 r.2.2.1).F k → w.heap.size ≤ k) ∧ Below w.heap.size w w'

set_option maxRecDepth 20000 in
set_option maxHeartbeats 8000000 in
theorem nfo_impl (f : Int) (d : ByteArray) (hd : d.size ≤ 1048576) (w : World) :
    Calls Try.prog 25 #[.int .i64 f, .string d] w (FobEnd w (newO f d)) := by
  have S0 := (((St.start w).made [.int .i64 0, .string ⟨#[]⟩, .slice none 0 0, .bool false] 62).made (foL f d false (.slice none 0 0)) 62)
  have S1 := Lib.hid (show St w ((w.alloc (.cells [.int .i64 0, .string ⟨#[]⟩, .slice none 0 0, .bool false].toArray 62)).alloc (.cells (foL f d false (.slice none 0 0)).toArray 62)) [rowT 3 1 (.slice none 0 0) ((upI 0).map inC), boxT (w.heap.size + 1) (foL f d false (.slice none 0 0)), boxT w.heap.size [.int .i64 0, .string ⟨#[]⟩, .slice none 0 0, .bool false]] from by have h := S0.nilRow 3 1; have e : (upI 0).map inC = [] := rfl; rw [e]; simpa using h)
  have HC := Lib.hid (cnt_impl d.size)
  have HK := Lib.hid (fun A l q (hl : List.length (α := Int) l ≤ 1000) W (h : LsI 1 W W.heap.size A (l.map inC)) => fook_impl f d A l q false hd (by omega) W h)
  have HB := cntS_bd d.size
  have HY := Lib.hid (fun h => newO_yes (f := f) (d := d) h)
  have HN := Lib.hid (fun h => newO_no (f := f) (d := d) h)
  have HQL := Lib.hid (show newQ d = upI (cntS d.size).toNat ++ [-1] from rfl)
  obtain ⟨n, hn⟩ : ∃ n : Nat, cntS d.size = (n : Int) := ⟨(cntS d.size).toNat, by omega⟩
  rw [hn] at HC HQL HB
  rw [Int.toNat_natCast] at HQL
  have hn25 : n ≤ 25 := by omega
  have HUS := Lib.hid (fun k => upI_succ k)
  have HUL := Lib.hid (fun k => upI_len k)
  clear S0 hn HB
  go_enter Try.func25, Try.ntmps25
  go_wp2_with fail
  refine (HC.out _).mono ?_
  rintro e w' ⟨rfl, rfl⟩
  go_wp2
  go_loopg [14] n (fun gh i wx => ∃ (k : Nat) (v : Value), k ≤ n ∧ gh = n - k ∧ i = .int .i64 (k : Int) ∧ St w wx [rowT 3 1 v ((upI k).map inC), boxT (w.heap.size + 1) (foL f d false v), boxT w.heap.size [.int .i64 0, .string ⟨#[]⟩, .slice none 0 0, .bool false]])
  case atStart => exact ⟨0, _, Nat.zero_le _, rfl, rfl, S1.out⟩
  case round =>
    obtain ⟨k, v, hk, rfl, rfl, hst⟩ := hrel
    have SS := Lib.hid hst
    clear hst
    obtain ⟨k0, k1, k2, k3⟩ := (SS.out.box 1 _ _ rfl).fourFo
    have ki := (SS.out.box 1 _ _ rfl).ice
    have kz : w.heap.size + 1 < wr.heap.size := (SS.out.box 1 _ _ rfl).lt
    by_cases hlt : k < n
    · have hd1 : decide (k < n) = true := by simp; omega
      have hd2 : decide ((k : Int) < (n : Int)) = true := by simp; omega
      have HO := Lib.hid (SS.out.row 0 _ _ _ _ rfl)
      have HL := Lib.hid (show (upI k).length ≤ 1099510 by rw [HUL.out]; omega)
      obtain ⟨ka0, ka1, ka2, ka3⟩ := (((SS.out.box 1 _ _ rfl)).alloc (.cells #[.int .i64 (k : Int)] 3)).fourFo
      go_wp2_with (at_builtin; go_loud (refine app_num wr rfl _ _ rfl 0 v (upI k) (k : Int) rfl HO.out _ 1 rfl HL.out (Nat.zero_le _) ?_))
      intro v2 w2 h1 h2 h3
      replace h1 : OwnR 3 1 w2 0 v2 ((upI k).map inC ++ [inC (k : Int)]) := h1
      rw [← HUS.out] at h1
      obtain ⟨A2, q2, hv2⟩ := h1.form
      rw [List.length_map, HUL.out] at hv2
      subst hv2
      have S2 := SS.out.grow 0 _ _ _ _ rfl h2 (.slice A2 (k + 1) q2) _ h1 h3
      have S3 : Hid (St w (w2.setCell ⟨w.heap.size + 1, 2, none⟩ (.slice A2 (k + 1) q2)) [rowT 3 1 (.slice A2 (k + 1) q2) ((upI (k + 1)).map inC), boxT (w.heap.size + 1) (foL f d false (.slice A2 (k + 1) q2)), boxT w.heap.size [.int .i64 0, .string ⟨#[]⟩, .slice none 0 0, .bool false]]) := Lib.hid (S2.setBox 1 _ _ rfl 2 (by simp) (.slice A2 (k + 1) q2))
      obtain ⟨m0, m1, m2, m3⟩ := (S2.box 1 _ _ rfl).fourFo
      have mi := (S2.box 1 _ _ rfl).ice
      clear S2 h1 h2 h3 HO SS k0 k1 k2 k3 ki ka0 ka1 ka2 ka3
      go_wp2
      go_roundg (n - (k + 1))
      case measure => omega
      case rel => exact ⟨k + 1, _, by omega, rfl, by go_num, S3.out⟩
    · have hd1 : decide (k < n) = false := by simp; omega
      have hd2 : decide ((k : Int) < (n : Int)) = false := by simp; omega
      obtain rfl : k = n := by omega
      clear hlt
      have HO := Lib.hid (SS.out.row 0 _ _ _ _ rfl)
      have HL := Lib.hid (show (upI k).length ≤ 1099510 by rw [HUL.out]; omega)
      obtain ⟨ka0, ka1, ka2, ka3⟩ := (((SS.out.box 1 _ _ rfl)).alloc (.cells #[.int .i64 (-1)] 3)).fourFo
      go_wp2_with (at_builtin; go_loud (refine app_num wr rfl _ _ rfl 0 v (upI k) (-1) rfl HO.out _ 1 rfl HL.out (Nat.zero_le _) ?_))
      intro v2 w2 h1 h2 h3
      have h1' : OwnR 3 1 w2 0 v2 ((newQ d).map inC) := by rw [HQL.out, List.map_append]; exact h1
      obtain ⟨A2, q2, hv2⟩ := h1'.form
      rw [List.length_map] at hv2
      subst hv2
      have S2 := SS.out.grow 0 _ _ _ _ rfl h2 (.slice A2 (newQ d).length q2) _ h1' h3
      have S3 : Hid (St w (w2.setCell ⟨w.heap.size + 1, 2, none⟩ (.slice A2 (newQ d).length q2)) [rowT 3 1 (.slice A2 (newQ d).length q2) ((newQ d).map inC), boxT (w.heap.size + 1) (foL f d false (.slice A2 (newQ d).length q2)), boxT w.heap.size [.int .i64 0, .string ⟨#[]⟩, .slice none 0 0, .bool false]]) := Lib.hid (S2.setBox 1 _ _ rfl 2 (by simp) (.slice A2 (newQ d).length q2))
      obtain ⟨m0, m1, m2, m3⟩ := (S2.box 1 _ _ rfl).fourFo
      have mi := (S2.box 1 _ _ rfl).ice
      obtain ⟨n0, n1, n2, n3⟩ := (S3.out.box 1 _ _ rfl).fourFo
      have HK3 := Lib.hid (HK.out A2 (newQ d) q2 (by have := newQ_len d; omega) _ (LsO.ats (N := (newQ d).length) (S3.out.row 0 _ _ _ _ rfl).toO))
      clear S2 h1 h1' h2 h3 HO SS k0 k1 k2 k3 ki ka0 ka1 ka2 ka3 HQL HK
      generalize newQ d = QQ at *
      go_wp2_with fail
      refine HK3.out.mono ?_
      rintro e w4 ⟨rfl, hb4⟩
      have S4 := Lib.hid (S3.out.more hb4)
      clear S3 hb4 m0 m1 m2 m3 mi n0 n1 n2 n3 HK3
      obtain ⟨n0, n1, n2, n3⟩ := (S4.out.box 1 _ _ rfl).fourFo
      obtain ⟨r0, r1, r2, r3⟩ := (S4.out.box 2 _ _ rfl).fourFo
      have ri := (S4.out.box 2 _ _ rfl).ice
      by_cases hfo : FoOk f d QQ
      · have HV := Lib.hid (HY.out hfo)
        rw [foB_yes hfo]
        have S5 := Lib.hid (S4.out.setAll 2 _ _ rfl (foL f d false (.slice A2 QQ.length q2)) rfl)
        have HP := Lib.hid (fun k hk => S4.out.nthPast 0 _ rfl k hk)
        clear S4 hfo HY HN
        go_wp2
        show bodyPost Try.prog Try.f25 _ Exit.ret _ (w4.setCells w.heap.size 0 (foL f d false (.slice A2 QQ.length q2)))
        generalize (w4.setCells w.heap.size 0 (foL f d false (.slice A2 QQ.length q2))) = WE at *
        obtain ⟨c0, c1, c2, c3⟩ := (S5.out.box 2 _ _ rfl).fourFo
        refine bodyPost_ret_by (v := .tuple #[foV f d false (.slice A2 QQ.length q2), .bool true]) ?_ rfl ⟨_, by rw [HV.out], ?_, fun k' hk' => ?_, S5.out.below⟩
        · simp [results, Try.f25, go_sem, c0, c1, c2, c3]
        · rw [HV.out]
          exact foT_of (S5.out.row 0 _ _ _ _ rfl)
        · exact HP.out k' (blkFo_iff.1 hk')
      · have HV := Lib.hid (HN.out hfo)
        rw [foB_no hfo]
        have S5 := Lib.hid (S4.out.setAll 2 _ _ rfl [.int .i64 0, .string ⟨#[]⟩, .slice none 0 0, .bool false] rfl)
        have HP := Lib.hid (fun k hk => S4.out.nthPast 0 _ rfl k hk)
        clear S4 hfo HY HN
        go_wp2
        show bodyPost Try.prog Try.f25 _ Exit.ret _ (w4.setCells w.heap.size 0 [.int .i64 0, .string ⟨#[]⟩, .slice none 0 0, .bool false])
        generalize (w4.setCells w.heap.size 0 [.int .i64 0, .string ⟨#[]⟩, .slice none 0 0, .bool false]) = WE at *
        obtain ⟨c0, c1, c2, c3⟩ := (S5.out.box 2 _ _ rfl).fourFo
        refine bodyPost_ret_by (v := .tuple #[foV 0 ⟨#[]⟩ false (.slice none 0 0), .bool false]) ?_ rfl ⟨_, by rw [HV.out], ?_, fun k' hk' => ?_, S5.out.below⟩
        · simp [results, Try.f25, go_sem, c0, c1, c2, c3]
        · rw [HV.out]
          exact ⟨none, 0, rfl, LsO.nil0 1 _ _ 0⟩
        · cases (show (none : Option Nat) = some k' from blkFo_iff.1 hk')

end Go.Proofs.Ytckofkdeedbbgaa
/- What this text proves: rows of structs appended at once, in a region that draws its order. -/
namespace Go.Proofs.Ytckofkdeedbbgaa
open Go.ChangeShapes Go.WideShapes Go.ChangeAt Go.RowKit
set_option linter.unusedVariables false

theorem step_app_rows {ops : Array Oper} {o : Oper} {a : Act} {K : Act → World → Prop} {Q : Exit → Act → World → Prop} {EE : Prop} (E S : TypeId) (sz by_ : Nat) (z : Value) (i : TypeInfo) (w : World) (hgd : o.guard = none) (s x : Operand)
    (ho : o.op = .call { callee := .builtin .append, args := #[s, x], argTypes := #[S, S] })
    (hS : Try.prog.underlying S = some (.slice E)) (hi : Try.prog.info? E = some i) (hz : i.zero = some z) (hsz : i.size = sz) (hby : i.bytes = by_) (hzs : z.cells.size = sz) (hpos : 0 < sz) (hb100 : by_ ≤ 128)
    (base : Nat) (v : Value) (l : List (List Value)) (hs : a.eval s = v) (hown : OwnR E sz w base v l) (A : Option Addr) (new : List (List Value)) (k : Nat) (hx : a.eval x = .slice A new.length k)
    (hnew : ∀ x ∈ new, x.length = sz) (hone : ∀ x ∈ new, ∀ u ∈ x, u.oneCell' = true) (hat : RowsAt w A new)
    (hlen : l.length + new.length ≤ 1099511) (hbase : base ≤ w.heap.size)
    (h : ∀ v' w', OwnR E sz w' base v' (l ++ new) → w.grownBy w' v.ownBlock → (v'.ownBlock = v.ownBlock ∨ v'.ownBlock = some w.heap.size) → K (a.put o.dst v') w') :
    if Region.wanted o (yielded ops a.tmps) = true then Oper.wp Try.prog o a w K Q else EE := by
  have hw : Region.wanted o (yielded ops a.tmps) = true := by simp [Region.wanted, hgd]
  rw [if_pos hw]
  obtain ⟨v', w', hr, h2, h3, h4⟩ := run_rows E S sz by_ z i w o.type hS hi hz hsz hby hzs hpos hb100 base v l hown A new k hnew hone hat hlen hbase
  unfold Oper.wp execOp
  simp only [ho, resolve, invoke, builtin, Sem.run_bind, Sem.run_pure, Result.andThen_ok, List.map_toArray, List.map_cons, List.map_nil, hs, hx, hr]
  exact h v' w' h2 h3 h4
end Go.Proofs.Ytckofkdeedbbgaa
/- What this text proves: the append of one number in a drawn region. -/
namespace Go.Proofs.Ytckofkdeedbbgaa
open Go.ChangeShapes Go.WideShapes Go.ChangeAt Go.RowKit
set_option linter.unusedVariables false
theorem step_app_num {ops : Array Oper} {o : Oper} {a : Act} {K : Act → World → Prop} {Q : Exit → Act → World → Prop} {EE : Prop} (w : World) (hgd : o.guard = none) (s x : Operand)
    (ho : o.op = .call { callee := .builtin .append, args := #[s, x], argTypes := #[24, 24] })
    (base : Nat) (v : Value) (l : List Int) (t : Int) (hs : a.eval s = v) (hown : OwnR 3 1 w base v (l.map inC)) (g c : Nat)
    (hx : a.eval x = .slice (some ⟨g, 0, none⟩) 1 c) (hg : w.cell? ⟨g, 0, none⟩ = some (.int .i64 t))
    (hlen : l.length ≤ 1099510) (hbase : base ≤ w.heap.size)
    (h : ∀ v' w', OwnR 3 1 w' base v' ((l ++ [t]).map inC) → w.grownBy w' v.ownBlock → (v'.ownBlock = v.ownBlock ∨ ∃ k, w.heap.size ≤ k ∧ v'.ownBlock = some k) → K (a.put o.dst v') w') :
    if Region.wanted o (yielded ops a.tmps) = true then Oper.wp Try.prog o a w K Q else EE := by
  obtain ⟨i, hi, hz0, hz1, hz2⟩ := info_parts info_int
  refine step_app_rows 3 24 1 8 (.int .i64 0) i w hgd s x ho Try.underlying24 hi hz0 hz1 hz2 rfl (by decide) (by decide) base v (l.map inC) hs hown (some ⟨g, 0, none⟩) [inC t] c hx (fun y hy => by rw [List.mem_singleton.1 hy]; rfl) (fun y hy u hu => by rw [List.mem_singleton.1 hy] at hu; rw [List.mem_singleton.1 hu]; rfl) (.inr ⟨g, 0, rfl, fun j u hu => by
    cases j with
    | zero =>
      rw [show u = .int .i64 t from by simpa [inC] using hu.symm]
      exact hg
    | succ j => cases (show (none : Option Value) = some u from hu)⟩) (by simp; omega) hbase ?_
  intro v' w' h1 h2 h3
  refine h v' w' (by rw [List.map_append]; exact h1) h2 ?_
  rcases h3 with h3 | h3
  · exact .inl h3
  · exact .inr ⟨_, Nat.le_refl _, h3⟩
end Go.Proofs.Ytckofkdeedbbgaa
