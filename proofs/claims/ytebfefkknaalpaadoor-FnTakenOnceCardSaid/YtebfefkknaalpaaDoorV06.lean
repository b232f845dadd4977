/- What this text proves: the parts ISo, RowC of the proof, each under its own words. -/
import Derived.Test.YtebfefkknaalpaaDoorV05
import Derived.Test.YtebfefkknaalpaaDoorV00
import Derived.Maps.AppendAt
/- What this text proves: the contract of the program's SenderOk. -/
namespace Go.Proofs.YtebfefkknaalpaaDoor
open Go.ChangeShapes Go.WideShapes Go.ChangeAt Go.RowKit
set_option linter.unusedVariables false

set_option maxHeartbeats 4000000 in
theorem so_impl (n b d : Int) (A : Option Addr) (l : List Sn) (c : Nat) (hl : l.length ≤ 1100000) (hs : ∀ j (hj : j < l.length), l[j].2.size ≤ 1100000) (w : World) (h : SnsAt w w.heap.size A l) :
    Calls Tryd.prog 15 #[seV n b (.slice A l.length c) d] w fun e w' => e = .returned (.bool (snB n b l d)) ∧ Below w.heap.size w w' := by
  have HI := Lib.hid (fun W (hb : Below w.heap.size w W) => h.more hb)
  have BX := Lib.hid (Box.made w (seL n b (.slice A l.length c) d) 26 _ rfl)
  have BW := Lib.hid ((Below.refl _ w).alloc (Nat.le_refl _) (.cells (seL n b (.slice A l.length c) d).toArray 26))
  clear h
  by_cases h1 : 0 ≤ n ∧ n ≤ 255
  · have H1 := Lib.hid (iq_yes n h1)
    by_cases h2 : 1 ≤ b ∧ b ≤ 20
    · have H2 := Lib.hid (iw_yes b 1 20 h2.1 h2.2)
      by_cases h3 : 0 ≤ d ∧ d ≤ 1000000
      · have H3 := Lib.hid (iw_yes d 0 1000000 h3.1 h3.2)
        by_cases h4 : (l.length : Int) ≤ b
        · have d4 : decide (b < (l.length : Int)) = false := by simp; omega
          have HD := Lib.hid (show SnHd n b d l from ⟨h1, h2, h3, h4⟩)
          obtain ⟨n0, n1⟩ := h1
          have hl20 : l.length ≤ 20 := by omega
          have HM := Lib.hid (seq_minus n (l.length : Int) ⟨n0, n1⟩ (by omega))
          clear h2 h3 h4
          go_enter Tryd.func15, Tryd.ntmps15
          go_wp2_with fail
          refine (H1.out _).mono ?_
          rintro e w' ⟨rfl, rfl⟩
          go_wp2_with fail
          refine (H2.out _).mono ?_
          rintro e w' ⟨rfl, rfl⟩
          go_wp2_with fail
          refine (H3.out _).mono ?_
          rintro e w' ⟨rfl, rfl⟩
          go_wp2_with fail
          refine (HM.out _).mono ?_
          rintro e w' ⟨rfl, rfl⟩
          go_wp2
          go_loopg [3, 39] l.length (fun gh v3 v4 wx => ∃ k : Nat, k ≤ l.length ∧ gh = l.length - k ∧ v4 = .int .i64 (k : Int) ∧ v3 = .int .i64 ((n - (l.length : Int) + (k : Int)) % 256) ∧ SnTo n l k ∧ Box wx w.heap.size (seL n b (.slice A l.length c) d) ∧ Below w.heap.size w wx)
          case atStart => exact ⟨0, by omega, rfl, rfl, by simp, fun i _ hi => absurd hi (Nat.not_lt_zero _), BX.out, BW.out⟩
          case round =>
            obtain ⟨k, hk, rfl, rfl, rfl, hto, hbox, hbel⟩ := hrel
            have HNC := Lib.hid (next_cnt ((n - (l.length : Int) + (k : Int)) % 256) (by omega))
            have HQ := Lib.hid (show ((n - (l.length : Int) + (k : Int)) % 256 + 1) % 256 = (n - (l.length : Int) + ((k : Int) + 1)) % 256 by omega)
            obtain ⟨q2, hq2⟩ : ∃ q2, (n - (l.length : Int) + ((k : Int) + 1)) % 256 = q2 := ⟨_, rfl⟩
            rw [HQ.out, hq2] at HNC
            have HQ2 := Lib.hid hq2
            clear hq2 HQ
            have HTO := Lib.hid hto
            have HBX := Lib.hid hbox
            have HB := Lib.hid hbel
            obtain ⟨b0, b1, b2, b3⟩ := hbox.fourS
            have hlt0 := hbox.lt
            by_cases hlt : k < l.length
            · have hd : decide (k < l.length) = true := by simp; omega
              have hd' : decide ((k : Int) < (l.length : Int)) = true := by simp; omega
              rcases HI.out _ hbel with h0 | ⟨bb, off, rfl, hb, hc⟩
              · omega
              · obtain ⟨c0, c1⟩ := hc k hlt
                have HS := Lib.hid (hs k hlt)
                by_cases hq : l[k].1 = (n - (l.length : Int) + (k : Int)) % 256
                · have hq1 : (l[k].1 != (n - (l.length : Int) + (k : Int)) % 256) = false := by simpa using hq
                  by_cases hz : 1 ≤ l[k].2.size ∧ l[k].2.size ≤ 40
                  · have H4 := Lib.hid (iw_yes (l[k].2.size : Int) 1 40 (by omega) (by omega))
                    have HN := Lib.hid (hto.succ hlt hq hz)
                    generalize l[k].1 = x at *
                    generalize l[k].2 = y at *
                    clear hq hz hto hc hbel hbox
                    go_wp2_with fail
                    refine (H4.out _).mono ?_
                    rintro e w' ⟨rfl, rfl⟩
                    go_wp2_with fail
                    refine (HNC.out _).mono ?_
                    rintro e w' ⟨rfl, rfl⟩
                    go_wp2
                    go_roundg (l.length - (k + 1))
                    case measure => omega
                    case rel => exact ⟨k + 1, by omega, rfl, by go_num, by rw [show ((k + 1 : Nat) : Int) = (k : Int) + 1 by omega, HQ2.out], HN.out, HBX.out.alloc _, HB.out.alloc HB.out.size _⟩
                  · have H4 := Lib.hid (iw_no (l[k].2.size : Int) 1 40 (by omega))
                    have HV := Lib.hid (snB_no (n := n) (b := b) (d := d) (l := l) (fun h => hz (h.2 k hlt hlt).2))
                    generalize l[k].1 = x at *
                    generalize l[k].2 = y at *
                    clear hq hz hto hc hbel hbox
                    go_wp2_with fail
                    refine (H4.out _).mono ?_
                    rintro e w' ⟨rfl, rfl⟩
                    go_wp2
                    go_ret
                    exact ⟨by rw [HV.out]; first | done | rfl, HB.out.alloc HB.out.size _⟩
                · have hq1 : (l[k].1 != (n - (l.length : Int) + (k : Int)) % 256) = true := by simpa using hq
                  have HV := Lib.hid (snB_no (n := n) (b := b) (d := d) (l := l) (fun h => hq (h.2 k hlt hlt).1))
                  generalize l[k].1 = x at *
                  generalize l[k].2 = y at *
                  clear hq hto hc hbel hbox
                  go_wp2
                  go_ret
                  exact ⟨by rw [HV.out]; first | done | rfl, HB.out.alloc HB.out.size _⟩
            · obtain rfl : k = l.length := by omega
              have hd : decide (l.length < l.length) = false := by simp
              have hd' : decide ((l.length : Int) < (l.length : Int)) = false := by simp
              have HV := Lib.hid (snB_yes (n := n) (b := b) (d := d) (l := l) ⟨HD.out, HTO.out⟩)
              clear hto hbel hbox
              go_wp2
              go_ret
              exact ⟨by rw [HV.out]; first | done | rfl, HB.out⟩
        · have d4 : decide (b < (l.length : Int)) = true := by simp; omega
          have HV := Lib.hid (snB_no (n := n) (b := b) (d := d) (l := l) (fun h => h4 h.1.2.2.2))
          clear h1 h2 h3 h4
          go_enter Tryd.func15, Tryd.ntmps15
          go_wp2_with fail
          refine (H1.out _).mono ?_
          rintro e w' ⟨rfl, rfl⟩
          go_wp2_with fail
          refine (H2.out _).mono ?_
          rintro e w' ⟨rfl, rfl⟩
          go_wp2_with fail
          refine (H3.out _).mono ?_
          rintro e w' ⟨rfl, rfl⟩
          go_wp2
          go_ret
          exact ⟨by rw [HV.out]; first | done | rfl, BW.out⟩
      · have H3 := Lib.hid (iw_no d 0 1000000 h3)
        have HV := Lib.hid (snB_no (n := n) (b := b) (d := d) (l := l) (fun h => h3 h.1.2.2.1))
        clear h1 h2 h3
        go_enter Tryd.func15, Tryd.ntmps15
        go_wp2_with fail
        refine (H1.out _).mono ?_
        rintro e w' ⟨rfl, rfl⟩
        go_wp2_with fail
        refine (H2.out _).mono ?_
        rintro e w' ⟨rfl, rfl⟩
        go_wp2_with fail
        refine (H3.out _).mono ?_
        rintro e w' ⟨rfl, rfl⟩
        go_wp2
        go_ret
        exact ⟨by rw [HV.out]; first | done | rfl, BW.out⟩
    · have H2 := Lib.hid (iw_no b 1 20 h2)
      have HV := Lib.hid (snB_no (n := n) (b := b) (d := d) (l := l) (fun h => h2 h.1.2.1))
      clear h1 h2
      go_enter Tryd.func15, Tryd.ntmps15
      go_wp2_with fail
      refine (H1.out _).mono ?_
      rintro e w' ⟨rfl, rfl⟩
      go_wp2_with fail
      refine (H2.out _).mono ?_
      rintro e w' ⟨rfl, rfl⟩
      go_wp2
      go_ret
      exact ⟨by rw [HV.out]; first | done | rfl, BW.out⟩
  · have H1 := Lib.hid (iq_no n h1)
    have HV := Lib.hid (snB_no (n := n) (b := b) (d := d) (l := l) (fun h => h1 h.1.1))
    clear h1
    go_enter Tryd.func15, Tryd.ntmps15
    go_wp2_with fail
    refine (H1.out _).mono ?_
    rintro e w' ⟨rfl, rfl⟩
    go_wp2
    go_ret
    exact ⟨by rw [HV.out]; first | done | rfl, BW.out⟩
end Go.Proofs.YtebfefkknaalpaaDoor
/- What this text proves: rows of structs appended at once to a slice of the call's own. -/
namespace Go.Proofs.YtebfefkknaalpaaDoor
open Go.ChangeShapes Go.WideShapes Go.ChangeAt Go.RowKit
set_option linter.unusedVariables false

/-- Rows of structs that are there to be read. -/
def RowsAt (w : World) (A : Option Addr) (l : List (List Value)) : Prop :=
  l.length = 0 ∨ ∃ b off, A = some ⟨b, off, none⟩ ∧ ∀ j u, l.flatten[j]? = some u → w.cell? ⟨b, off + j, none⟩ = some u
theorem flat_len {sz : Nat} : ∀ {l : List (List Value)}, (∀ x ∈ l, x.length = sz) → l.flatten.length = l.length * sz := by
  intro l
  induction l with
  | nil => intro _; simp
  | cons a r ih =>
    intro h
    rw [List.flatten_cons, List.length_append, h a List.mem_cons_self, ih (fun x hx => h x (List.mem_cons_of_mem _ hx)), List.length_cons, Nat.succ_mul]
    omega
theorem run_rows (E S : TypeId) (sz by_ : Nat) (z : Value) (i : TypeInfo) (w : World) (ty : TypeId)
    (hS : Tryd.prog.underlying S = some (.slice E)) (hi : Tryd.prog.info? E = some i) (hz : i.zero = some z) (hsz : i.size = sz) (hby : i.bytes = by_) (hzs : z.cells.size = sz) (hpos : 0 < sz) (hb100 : by_ ≤ 128)
    (base : Nat) (v : Value) (l : List (List Value)) (hown : OwnR E sz w base v l) (A : Option Addr) (new : List (List Value)) (k : Nat) (hnew : ∀ x ∈ new, x.length = sz) (hone : ∀ x ∈ new, ∀ u ∈ x, u.oneCell' = true) (hat : RowsAt w A new)
    (hlen : l.length + new.length ≤ 1099511) (hbase : base ≤ w.heap.size) :
    ∃ v' w', (Builtin.append_ #[S, S] ty #[v, .slice A new.length k]).run Tryd.prog w = .ok v' w' ∧ OwnR E sz w' base v' (l ++ new) ∧ w.grownBy w' v.ownBlock ∧ (v'.ownBlock = v.ownBlock ∨ v'.ownBlock = some w.heap.size) := by
  have hbm : (l.length + new.length) * by_ ≤ 1099511 * 128 := Nat.mul_le_mul hlen hb100
  have done : ∀ (a : Addr), (∀ j u, new.flatten[j]? = some u → w.cell? (a.add j) = some u) → ∃ v' w', (Builtin.append_ #[S, S] ty #[v, .slice (some a) new.length k]).run Tryd.prog w = .ok v' w' ∧ OwnR E sz w' base v' (l ++ new) ∧ w.grownBy w' v.ownBlock ∧ (v'.ownBlock = v.ownBlock ∨ v'.ownBlock = some w.heap.size) := by
    intro a ha
    obtain ⟨v', w', h1, h2, h3, _, h4⟩ := run_append_own_at (P := Tryd.prog) w base S ty E i z sz by_ hS hi hz hsz hby hzs hpos v l.length l.flatten hown.1 a new.length k new.flatten (flat_len hnew) ha (fun u hu => by
      obtain ⟨x, hx, hux⟩ := List.mem_flatten.1 hu
      exact hone x hx u hux) (by unfold maxLen; omega) (by omega) hbase
    refine ⟨v', w', h1, ⟨?_, fun y hy => ?_⟩, h3, h4⟩
    · rw [List.length_append, List.flatten_append]
      exact h2
    · rcases List.mem_append.1 hy with hy | hy
      · exact hown.2 y hy
      · exact hnew y hy
  rcases hat with h0 | ⟨b, off, rfl, hc⟩
  · obtain rfl : new = [] := List.eq_nil_of_length_eq_zero h0
    cases A with
    | some a => exact done a (fun j u hu => by simp at hu)
    | none =>
      refine ⟨v, w, ?_, by rw [List.append_nil]; exact hown, ⟨rfl, rfl, rfl, Nat.le_refl _, fun _ _ _ => rfl⟩, .inl rfl⟩
      have hcap : ∃ A0 c0, v = .slice A0 l.length c0 ∧ l.length ≤ c0 := by
        rcases hown.1.2 with ⟨rfl, hn⟩ | ⟨g, cap, cur, rfl, _, _, hle, _⟩
        · exact ⟨none, 0, by rw [hn], by omega⟩
        · exact ⟨_, _, rfl, hle⟩
      obtain ⟨A0, c0, rfl, hle⟩ := hcap
      cases A0 with
      | none => simp [Builtin.append_, run_underlying hS, sizeOf, typeInfo, hi, Builtin.lenOf, Builtin.firstCells, hle]
      | some a0 => simp [Builtin.append_, run_underlying hS, sizeOf, typeInfo, hi, Builtin.lenOf, Builtin.firstCells, hle, storeCells]
  · refine done _ (fun j u hu => ?_)
    rw [show (⟨b, off, none⟩ : Addr).add j = ⟨b, off + j, none⟩ from by unfold Addr.add; split <;> simp_all]
    exact hc j u hu

theorem app_rows {ops : Array Oper} {rest : List Oper} {o : Oper} {a : Act} {Q : Exit → Act → World → Prop} (E S : TypeId) (sz by_ : Nat) (z : Value) (i : TypeInfo) (w : World) (hgd : o.guard = none) (s x : Operand)
    (ho : o.op = .call { callee := .builtin .append, args := #[s, x], argTypes := #[S, S] })
    (hS : Tryd.prog.underlying S = some (.slice E)) (hi : Tryd.prog.info? E = some i) (hz : i.zero = some z) (hsz : i.size = sz) (hby : i.bytes = by_) (hzs : z.cells.size = sz) (hpos : 0 < sz) (hb100 : by_ ≤ 128)
    (base : Nat) (v : Value) (l : List (List Value)) (hs : a.eval s = v) (hown : OwnR E sz w base v l) (A : Option Addr) (new : List (List Value)) (k : Nat) (hx : a.eval x = .slice A new.length k)
    (hnew : ∀ x ∈ new, x.length = sz) (hone : ∀ x ∈ new, ∀ u ∈ x, u.oneCell' = true) (hat : RowsAt w A new)
    (hlen : l.length + new.length ≤ 1099511) (hbase : base ≤ w.heap.size)
    (h : ∀ v' w', OwnR E sz w' base v' (l ++ new) → w.grownBy w' v.ownBlock → (v'.ownBlock = v.ownBlock ∨ v'.ownBlock = some w.heap.size) → wpList Tryd.prog ops Q rest (a.put o.dst v') w') :
    wpList Tryd.prog ops Q (o :: rest) a w := by
  refine wpList_plain hgd fun _ hK => ?_
  obtain ⟨v', w', hr, h2, h3, h4⟩ := run_rows E S sz by_ z i w o.type hS hi hz hsz hby hzs hpos hb100 base v l hown A new k hnew hone hat hlen hbase
  unfold Oper.wp execOp
  simp only [ho, resolve, invoke, builtin, Sem.run_bind, Sem.run_pure, Result.andThen_ok, List.map_toArray, List.map_cons, List.map_nil, hs, hx, hr]
  exact hK _ _ (h v' w' h2 h3 h4)
theorem OwnR.empty {E : TypeId} {sz : Nat} (w : World) (base : Nat) (hb : base ≤ w.heap.size) : OwnR E sz (w.alloc (.cells #[] E)) base (.slice (some ⟨w.heap.size, 0, none⟩) 0 0) [] :=
  ⟨World.ownsRow_lit w #[] 0 hb (by decide) (by simp), fun _ h => by cases h⟩
theorem OwnR.grown {E : TypeId} {sz : Nat} {W W' : World} {b : Nat} {v : Value} {l : List (List Value)} {row : Option Nat} (h : OwnR E sz W b v l) (hg : W.grownBy W' row) (hne : ∀ k, v.ownBlock = some k → row ≠ some k) : OwnR E sz W' b v l := by
  refine ⟨World.ownsRow.kept (row := row) h.1 hg ?_, h.2⟩
  cases hv : v.ownBlock with
  | none => exact .inl rfl
  | some k => exact .inr (fun e => hne k hv e.symm)
theorem OwnR.away {E : TypeId} {sz : Nat} {W : World} {b g j : Nat} {v : Value} {l : List (List Value)} (h : OwnR E sz W b v l) (hg : v.ownBlock ≠ some g) (u : Value) : OwnR E sz (W.setCell ⟨g, j, none⟩ u) b v l :=
  h.grown (row := some g) ⟨rfl, rfl, rfl, by simp, fun k hk hne => Below.heap_setCell W _ u k (fun e => hne (by rw [e]))⟩ (fun k hk e => hg (by rw [hk, e]))
theorem OwnR.cellsAway {E : TypeId} {sz : Nat} {b g : Nat} {v : Value} {l : List (List Value)} (hg : v.ownBlock ≠ some g) : ∀ (us : List Value) (o : Nat) (W : World), OwnR E sz W b v l → OwnR E sz (W.setCells g o us) b v l := by
  intro us
  induction us with
  | nil => intro o W h; exact h
  | cons u r ih => intro o W h; exact ih _ _ (h.away hg u)
theorem OwnR.upto {E : TypeId} {sz : Nat} {W : World} {b : Nat} {v : Value} {l : List (List Value)} (h : OwnR E sz W b v l) : ∀ k, v.ownBlock = some k → b ≤ k ∧ k < W.heap.size := World.ownsRow.lt h.1
end Go.Proofs.YtebfefkknaalpaaDoor
