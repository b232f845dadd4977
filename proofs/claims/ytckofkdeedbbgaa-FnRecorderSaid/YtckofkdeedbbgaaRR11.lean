/- What this text proves: the parts StA, StRc, KpA of the proof, each under its own words. -/
import Derived.Test.YtckofkdeedbbgaaRR09
import Derived.Test.YtckofkdeedbbgaaRR10
import Derived.Test.YtckofkdeedbbgaaRR05
import Derived.Test.YtckofkdeedbbgaaRR08
import Derived.Test.YtckofkdeedbbgaaRR04
import Derived.Deep.LoopGhost
import Derived.BigQuiet
/- What this text proves: rows appended to a list that lies apart from other things: it grows, and the others stay. -/
namespace Go.Proofs.Ytckofkdeedbbgaa
open Go.ChangeShapes Go.WideShapes Go.ChangeAt Go.RowKit
set_option linter.unusedVariables false

theorem rowsAt_box {W : World} {g : Nat} {vs : List Value} (h : Box W g vs) : RowsAt W (some ⟨g, 0, none⟩) [vs] := .inr ⟨g, 0, rfl, fun j u hu => by
  rw [List.flatten_cons, List.flatten_nil, List.append_nil] at hu
  obtain ⟨hj, e⟩ := List.getElem?_eq_some_iff.1 hu
  rw [Nat.zero_add, h.cell j hj, e]⟩
theorem LsO.rowsAt {n : Nat} {W : World} {base : Nat} {A : Option Addr} {N c : Nat} {l : List (List Value)} (h : LsO n W base (.slice A N c) l) : RowsAt W A l := (LsO.ats h).rows h.wide
theorem app_St {ops : Array Oper} {rest : List Oper} {o : Oper} {a : Act} {Q : Exit → Act → World → Prop} {w W : World} {L : List Thing} (hst : St w W L) (idx : Nat) (E S : TypeId) (sz by_ : Nat) (z : Value) (hgd : o.guard = none) (s x : Operand)
    (ho : o.op = .call { callee := .builtin .append, args := #[s, x], argTypes := #[S, S] })
    (hS : Try.prog.underlying S = some (.slice E)) (hinfo : (Try.prog.info? E).map (fun i => (i.zero, i.size, i.bytes)) = some (some z, sz, by_)) (hzs : z.cells.size = sz) (hpos : 0 < sz) (hb100 : by_ ≤ 128)
    (v : Value) (l : List (List Value)) (e : L[idx]? = some (rowT E sz v l)) (hs : a.eval s = v) (A : Option Addr) (new : List (List Value)) (k : Nat) (hx : a.eval x = .slice A new.length k)
    (hnew : ∀ x ∈ new, x.length = sz) (hone : ∀ x ∈ new, ∀ u ∈ x, u.oneCell' = true) (hat : RowsAt W A new) (hlen : l.length + new.length ≤ 1099511)
    (h : ∀ A' c' w', St w w' (L.set idx (rowT E sz (.slice A' (l ++ new).length c') (l ++ new))) → wpList Try.prog ops Q rest (a.put o.dst (.slice A' (l ++ new).length c')) w') :
    wpList Try.prog ops Q (o :: rest) a W := by
  obtain ⟨i, hi, hz0, hz1, hz2⟩ := info_parts hinfo
  refine app_rows E S sz by_ z i W hgd s x ho hS hi hz0 hz1 hz2 hzs hpos hb100 0 v l hs (hst.row idx E sz v l e) A new k hx hnew hone hat hlen (Nat.zero_le _) ?_
  intro v' w' h1 h2 h3
  obtain ⟨A', c', rfl⟩ := h1.form
  refine h A' c' w' (hst.grow idx E sz v l e h2 _ _ h1 ?_)
  rcases h3 with h3 | h3
  · exact .inl h3
  · exact .inr ⟨_, Nat.le_refl _, h3⟩
theorem step_St {ops : Array Oper} {o : Oper} {a : Act} {K : Act → World → Prop} {Q : Exit → Act → World → Prop} {EE : Prop} {w W : World} {L : List Thing} (hst : St w W L) (idx : Nat) (E S : TypeId) (sz by_ : Nat) (z : Value) (hgd : o.guard = none) (s x : Operand)
    (ho : o.op = .call { callee := .builtin .append, args := #[s, x], argTypes := #[S, S] })
    (hS : Try.prog.underlying S = some (.slice E)) (hinfo : (Try.prog.info? E).map (fun i => (i.zero, i.size, i.bytes)) = some (some z, sz, by_)) (hzs : z.cells.size = sz) (hpos : 0 < sz) (hb100 : by_ ≤ 128)
    (v : Value) (l : List (List Value)) (e : L[idx]? = some (rowT E sz v l)) (hs : a.eval s = v) (A : Option Addr) (new : List (List Value)) (k : Nat) (hx : a.eval x = .slice A new.length k)
    (hnew : ∀ x ∈ new, x.length = sz) (hone : ∀ x ∈ new, ∀ u ∈ x, u.oneCell' = true) (hat : RowsAt W A new) (hlen : l.length + new.length ≤ 1099511)
    (h : ∀ A' c' w', St w w' (L.set idx (rowT E sz (.slice A' (l ++ new).length c') (l ++ new))) → K (a.put o.dst (.slice A' (l ++ new).length c')) w') :
    if Region.wanted o (yielded ops a.tmps) = true then Oper.wp Try.prog o a W K Q else EE := by
  obtain ⟨i, hi, hz0, hz1, hz2⟩ := info_parts hinfo
  refine step_app_rows E S sz by_ z i W hgd s x ho hS hi hz0 hz1 hz2 hzs hpos hb100 0 v l hs (hst.row idx E sz v l e) A new k hx hnew hone hat hlen (Nat.zero_le _) ?_
  intro v' w' h1 h2 h3
  obtain ⟨A', c', rfl⟩ := h1.form
  refine h A' c' w' (hst.grow idx E sz v l e h2 _ _ h1 ?_)
  rcases h3 with h3 | h3
  · exact .inl h3
  · exact .inr ⟨_, Nat.le_refl _, h3⟩
end Go.Proofs.Ytckofkdeedbbgaa
/- What this text proves: append at lists of records that lie apart from other things. -/
namespace Go.Proofs.Ytckofkdeedbbgaa
open Go.ChangeShapes Go.WideShapes Go.ChangeAt Go.RowKit
set_option linter.unusedVariables false

theorem app_rcs {ops : Array Oper} {rest : List Oper} {o : Oper} {a : Act} {Q : Exit → Act → World → Prop} {w W : World} {L : List Thing} (hst : St w W L) (idx : Nat) (v : Value) (l : List Rc) (e : L[idx]? = some (rowT 50 4 v (l.map rcC))) (hgd : o.guard = none) (s x : Operand)
    (ho : o.op = .call { callee := .builtin .append, args := #[s, x], argTypes := #[28, 28] }) (hs : a.eval s = v) (A : Option Addr) (new : List Rc) (k : Nat) (hx : a.eval x = .slice A new.length k) (hat : RowsAt W A (new.map rcC)) (hlen : l.length + new.length ≤ 1099511)
    (h : ∀ A' n' c' w', n' = (l ++ new).length → St w w' (L.set idx (rowT 50 4 (.slice A' n' c') ((l ++ new).map rcC))) → wpList Try.prog ops Q rest (a.put o.dst (.slice A' n' c')) w') :
    wpList Try.prog ops Q (o :: rest) a W := by
  refine app_St hst idx 50 28 4 40 (rdV 0 0 0 ⟨#[]⟩) hgd s x ho Try.underlying28 info_rc rfl (by decide) (by decide) v (l.map rcC) e hs A (new.map rcC) k (by rw [List.length_map]; exact hx) (rc_len new) (rc_one new) hat (by rw [List.length_map, List.length_map]; exact hlen) ?_
  intro A' c' w' h1
  rw [← List.map_append, List.length_map] at h1 ⊢
  exact h A' _ c' w' rfl h1
theorem step_rcs {ops : Array Oper} {o : Oper} {a : Act} {K : Act → World → Prop} {Q : Exit → Act → World → Prop} {EE : Prop} {w W : World} {L : List Thing} (hst : St w W L) (idx : Nat) (v : Value) (l : List Rc) (e : L[idx]? = some (rowT 50 4 v (l.map rcC))) (hgd : o.guard = none) (s x : Operand)
    (ho : o.op = .call { callee := .builtin .append, args := #[s, x], argTypes := #[28, 28] }) (hs : a.eval s = v) (A : Option Addr) (new : List Rc) (k : Nat) (hx : a.eval x = .slice A new.length k) (hat : RowsAt W A (new.map rcC)) (hlen : l.length + new.length ≤ 1099511)
    (h : ∀ A' n' c' w', n' = (l ++ new).length → St w w' (L.set idx (rowT 50 4 (.slice A' n' c') ((l ++ new).map rcC))) → K (a.put o.dst (.slice A' n' c')) w') :
    if Region.wanted o (yielded ops a.tmps) = true then Oper.wp Try.prog o a W K Q else EE := by
  refine step_St hst idx 50 28 4 40 (rdV 0 0 0 ⟨#[]⟩) hgd s x ho Try.underlying28 info_rc rfl (by decide) (by decide) v (l.map rcC) e hs A (new.map rcC) k (by rw [List.length_map]; exact hx) (rc_len new) (rc_one new) hat (by rw [List.length_map, List.length_map]; exact hlen) ?_
  intro A' c' w' h1
  rw [← List.map_append, List.length_map] at h1 ⊢
  exact h A' _ c' w' rfl h1
end Go.Proofs.Ytckofkdeedbbgaa
/- What this text proves: the contracts of the program's lesserThan and leastOf, and of the model's l05Least. -/
namespace Go.Proofs.Ytckofkdeedbbgaa
open Go.ChangeShapes Go.WideShapes Go.ChangeAt Go.RowKit
set_option linter.unusedVariables false

set_option maxRecDepth 20000 in
set_option maxHeartbeats 2000000 in
theorem lt_impl (A : Option Addr) (l : List Rc) (c : Nat) (x : Rc) (hl : l.length ≤ 1000000) (w : World) (h : LsI 4 w w.heap.size A (l.map rcC)) :
    Calls Try.prog 128 #[.slice A l.length c, rdV x.1 x.2.1 x.2.2.1 x.2.2.2] w (Gives w fun v => rowT 50 4 v ((lessL l x.2.1 l.length).map rcC)) := by
  obtain ⟨x0, x1, x2, x3⟩ := x
  have HI := Lib.hid (fun W (hb : Below w.heap.size w W) => h.more hb)
  have S0 := Lib.hid ((((St.start w).made (rdL x0 x1 x2 x3) 50).lit 50 4))
  have HLY := Lib.hid (fun k (hk : k < l.length) (hp : l[k].2.1 < x1) => lessL_yes hk hp)
  have HLN := Lib.hid (fun k (hk : k < l.length) (hp : ¬ l[k].2.1 < x1) => lessL_no hk hp)
  have HLL := Lib.hid (fun k => lessL_len l x1 k)
  clear h
  show Calls Try.prog 128 #[.slice A l.length c, rdV x0 x1 x2 x3] w (Gives w fun v => rowT 50 4 v ((lessL l x1 l.length).map rcC))
  go_enter Try.func128, Try.ntmps128
  go_wp2
  go_loopg [5, 11] l.length (fun gh v5 v11 wx => ∃ (k : Nat) (A5 : Option Addr) (c5 : Nat), k ≤ l.length ∧ gh = l.length - k ∧ v11 = .int .i64 (k : Int) ∧ v5 = .slice A5 (lessL l x1 k).length c5 ∧ St w wx [rowT 50 4 (.slice A5 (lessL l x1 k).length c5) ((lessL l x1 k).map rcC), boxT w.heap.size (rdL x0 x1 x2 x3)])
  case atStart => exact ⟨0, some ⟨w.heap.size + 1, 0, none⟩, 0, by omega, rfl, rfl, by simp [lessL], by have h := S0.out; simp [lessL] at h ⊢; exact h⟩
  case round =>
    obtain ⟨k, A5, c5, hk, rfl, rfl, rfl, hst⟩ := hrel
    have SS := Lib.hid hst
    clear hst S0
    by_cases hlt : k < l.length
    · have hd : decide (k < l.length) = true := by simp; omega
      have hd' : decide ((k : Int) < (l.length : Int)) = true := by simp; omega
      obtain ⟨bb, off, rfl, hb, hc⟩ := rcCellsI (b := 0) (off := 0) (HI.out _ SS.out.below) (by omega)
      obtain ⟨c0, c1, c2, c3⟩ := hc k hlt
      clear hc
      have hy := HLY.out k hlt
      have hn := HLN.out k hlt
      obtain ⟨xk0, xk1, xk2, xk3⟩ := (show Box _ _ (rdL x0 x1 x2 x3) from SS.out.box 1 _ _ rfl).four4
      have xlt := (SS.out.box 1 _ _ rfl).lt
      have HLX := HLL.out k
      by_cases hp : l[k].2.1 < x1
      · have HY := Lib.hid (hy (by omega))
        have hp1 : decide (l[k].2.1 < x1) = true := by simpa using hp
        clear hn hp hy
        generalize l[k] = y at *
        obtain ⟨y0, y1, y2, y3⟩ := y
        have S1 := Lib.hid (SS.out.made (rdL y0 y1 y2 y3) 50)
        have S2 := Lib.hid (show St w ((wr.alloc (.cells #[.int .i64 y0, .int .i64 y1, .int .i64 y2, .string y3] 50)).alloc (.cells #[.int .i64 y0, .int .i64 y1, .int .i64 y2, .string y3] 50)) [boxT (wr.heap.size + 1) (rdL y0 y1 y2 y3), boxT wr.heap.size (rdL y0 y1 y2 y3), rowT 50 4 (.slice A5 (lessL l x1 k).length c5) ((lessL l x1 k).map rcC), boxT w.heap.size (rdL x0 x1 x2 x3)] from by have h := S1.out.made (rdL y0 y1 y2 y3) 50; simpa using h)
        generalize hln : (lessL l x1 k).length = m at *
        go_wp2_with (at_builtin; go_loud (refine app_rcs S2.out 2 _ (lessL l x1 k) rfl rfl _ _ rfl rfl (some ⟨wr.heap.size + 1, 0, none⟩) [(y0, y1, y2, y3)] 1 (by simp; rfl) (rowsAt_box (S2.out.box 0 _ _ rfl)) (by simp; omega) ?_))
        intro A' n' c' w' hn' h1
        have S3 := Lib.hid (show St w w' [rowT 50 4 (.slice A' n' c') ((lessL l x1 (k + 1)).map rcC), boxT w.heap.size (rdL x0 x1 x2 x3)] from by rw [HY.out, List.map_append]; exact h1.pick [2, 3] (by decide))
        have HN' := Lib.hid (show n' = (lessL l x1 (k + 1)).length by rw [HY.out, List.length_append, hln]; exact hn')
        clear S1 S2 SS h1 hn'
        go_wp2
        go_roundg (l.length - (k + 1))
        case measure => omega
        case rel => exact ⟨k + 1, A', c', by omega, rfl, by go_num, by rw [HN'.out], by rw [← HN'.out]; exact S3.out⟩
      · have HN := Lib.hid (hn (by omega))
        have hp1 : decide (l[k].2.1 < x1) = false := by simpa using hp
        clear hn hp hy
        generalize l[k] = y at *
        obtain ⟨y0, y1, y2, y3⟩ := y
        have S1 := Lib.hid ((SS.out.made (rdL y0 y1 y2 y3) 50).pick [1, 2] (by decide))
        go_wp2
        go_roundg (l.length - (k + 1))
        case measure => omega
        case rel => exact ⟨k + 1, A5, c5, by omega, rfl, by go_num, by rw [HN.out], by rw [HN.out]; exact S1.out⟩
    · have hd : decide (k < l.length) = false := by simp; omega
      have hd' : decide ((k : Int) < (l.length : Int)) = false := by simp; omega
      obtain rfl : k = l.length := by omega
      clear hlt
      go_wp2
      go_ret
      exact ⟨_, rfl, SS.out.nth 0 _ rfl, SS.out.nthPast 0 _ rfl, SS.out.below⟩

set_option maxRecDepth 20000 in
set_option maxHeartbeats 2000000 in
theorem lo_impl (A : Option Addr) (l : List Rc) (c : Nat) (hl : l.length ≤ 1000000) (w : World) (h : LsI 4 w w.heap.size A (l.map rcC)) :
    Calls Try.prog 129 #[.slice A l.length c] w fun e w' => e = .returned (.int .i64 ((loB l l.length : Nat) : Int)) ∧ Below w.heap.size w w' := by
  have HI := Lib.hid (fun W (hb : Below w.heap.size w W) => h.more hb)
  have S0 := Lib.hid (St.start w)
  have HLY := Lib.hid (fun k (hk : k < l.length) (hb : loB l k < l.length) (hp : l[k].2.1 < l[loB l k].2.1) => loB_yes hk hb hp)
  have HLN := Lib.hid (fun k (hk : k < l.length) (hb : loB l k < l.length) (hp : ¬ l[k].2.1 < l[loB l k].2.1) => loB_no hk hb hp)
  have HLB := Lib.hid (fun k (hk : k < l.length) => loB_lt hk)
  clear h
  go_enter Try.func129, Try.ntmps129
  go_wp2
  go_loopg [3, 8] l.length (fun gh v3 v8 wx => ∃ k : Nat, k ≤ l.length ∧ gh = l.length - k ∧ v8 = .int .i64 (k : Int) ∧ v3 = .int .i64 ((loB l k : Nat) : Int) ∧ Below w.heap.size w wx)
  case atStart => exact ⟨0, by omega, rfl, rfl, rfl, S0.out.below⟩
  case round =>
    obtain ⟨k, hk, rfl, rfl, rfl, hbel⟩ := hrel
    have HB := Lib.hid hbel
    clear S0
    by_cases hlt : k < l.length
    · have hd : decide (k < l.length) = true := by simp; omega
      have hd' : decide ((k : Int) < (l.length : Int)) = true := by simp; omega
      have hlb := HLB.out k hlt
      obtain ⟨bb, off, rfl, hb, hc⟩ := rcCellsI (b := 0) (off := 0) (HI.out _ hbel) (by omega)
      obtain ⟨c0, c1, c2, c3⟩ := hc k hlt
      obtain ⟨e0, e1, e2, e3⟩ := hc (loB l k) hlb
      clear hc hbel
      have hlb1 : decide (loB l k < l.length) = true := by simpa using hlb
      have hlb2 : decide (((loB l k : Nat) : Int) < (l.length : Int)) = true := by simp; omega
      have hy := HLY.out k hlt hlb
      have hn := HLN.out k hlt hlb
      have B1 := Lib.hid (fun vs => HB.out.alloc HB.out.size (.cells vs 50))
      have hbs := HB.out.size
      have hbw : bb < wr.heap.size := by omega
      by_cases hp : l[k].2.1 < l[loB l k].2.1
      · have HY := Lib.hid (hy (by omega))
        have hp1 : decide (l[k].2.1 < l[loB l k].2.1) = true := by simpa using hp
        clear hn hp hy
        generalize l[loB l k] = z at *
        obtain ⟨z0, z1, z2, z3⟩ := z
        generalize l[k] = y at *
        obtain ⟨y0, y1, y2, y3⟩ := y
        generalize loB l k = b at *
        go_wp2
        go_quiet (fail)
        go_wp2
        go_roundg (l.length - (k + 1))
        case measure => omega
        case rel => exact ⟨k + 1, by omega, rfl, by go_num, by rw [HY.out], below_draws (B1.out _) _⟩
      · have HN := Lib.hid (hn (by omega))
        have hp1 : decide (l[k].2.1 < l[loB l k].2.1) = false := by simpa using hp
        clear hn hp hy
        generalize l[loB l k] = z at *
        obtain ⟨z0, z1, z2, z3⟩ := z
        generalize l[k] = y at *
        obtain ⟨y0, y1, y2, y3⟩ := y
        generalize hb2 : loB l k = b at *
        go_wp2
        go_quiet (fail)
        go_wp2
        go_roundg (l.length - (k + 1))
        case measure => omega
        case rel => exact ⟨k + 1, by omega, rfl, by go_num, by rw [HN.out], below_draws (B1.out _) _⟩
    · have hd : decide (k < l.length) = false := by simp; omega
      have hd' : decide ((k : Int) < (l.length : Int)) = false := by simp; omega
      obtain rfl : k = l.length := by omega
      clear hlt
      go_wp2
      go_ret
      exact ⟨rfl, HB.out⟩

set_option maxRecDepth 20000 in
set_option maxHeartbeats 4000000 in
theorem ls_spec (A : Option Addr) (l : List Rc) (c : Nat) (p : Int) (hl : l.length ≤ 1000000) (w : World) (h : LsI 4 w w.heap.size A (l.map rcC)) :
    Calls Try.prog 100 #[.slice A l.length c, .int .i64 p] w fun e w' => e = .returned (.int .i64 (lsB l p l.length)) ∧ Below w.heap.size w w' := by
  have HI := Lib.hid (fun W (hb : Below w.heap.size w W) => h.more hb)
  have S0 := Lib.hid (St.start w)
  have HLS := Lib.hid (fun k (hk : k < l.length) => lsB_next (p := p) hk)
  clear h
  go_enter Try.func100, Try.ntmps100
  go_wp2
  go_loopg [5, 6] l.length (fun gh v5 v6 wx => ∃ k : Nat, k ≤ l.length ∧ gh = l.length - k ∧ v6 = .int .i64 (k : Int) ∧ v5 = .int .i64 (lsB l p k) ∧ Below w.heap.size w wx)
  case atStart => exact ⟨0, by omega, rfl, rfl, rfl, S0.out.below⟩
  case round =>
    obtain ⟨k, hk, rfl, rfl, rfl, hbel⟩ := hrel
    have HB := Lib.hid hbel
    clear S0
    by_cases hlt : k < l.length
    · have hd : decide (k < l.length) = true := by simp; omega
      have hd' : decide ((k : Int) < (l.length : Int)) = true := by simp; omega
      obtain ⟨bb, off, rfl, hb, hc⟩ := rcCellsI (b := 0) (off := 0) (HI.out _ hbel) (by omega)
      obtain ⟨c0, c1, c2, c3⟩ := hc k hlt
      have hbs := HB.out.size
      have hbw : bb < wr.heap.size := by omega
      clear hbel
      rcases HLS.out k hlt with ⟨h1, h2⟩ | ⟨h1, h2, h3⟩ | ⟨b, h1, h2, h3⟩
      · have hp1 : decide (l[k].2.1 < p) = false := by simpa using h1
        have HV := Lib.hid h2
        clear hc h1 h2
        generalize l[k] = y at *
        obtain ⟨y0, y1, y2, y3⟩ := y
        generalize lsB l p k = b at *
        go_wp2
        go_quiet (fail)
        go_wp2
        go_roundg (l.length - (k + 1))
        case measure => omega
        case rel => exact ⟨k + 1, by omega, rfl, by go_num, by rw [HV.out], below_draws HB.out _⟩
      · have hp1 : decide (l[k].2.1 < p) = true := by simpa using h1
        have HV := Lib.hid h3
        clear hc h1 h3
        generalize l[k] = y at *
        obtain ⟨y0, y1, y2, y3⟩ := y
        rw [h2]
        go_wp2
        go_quiet (fail)
        go_wp2
        go_roundg (l.length - (k + 1))
        case measure => omega
        case rel => exact ⟨k + 1, by omega, rfl, by go_num, by rw [HV.out], below_draws HB.out _⟩
      · obtain ⟨hbl, hp, h4⟩ := h3
        obtain ⟨e0, e1, e2, e3⟩ := hc b hbl
        have hp1 : decide (l[k].2.1 < p) = true := by simpa using hp
        have hb0 : decide ((b : Int) < 0) = false := by simp
        have hlb1 : decide (b < l.length) = true := by simpa using hbl
        have hlb2 : decide ((b : Int) < (l.length : Int)) = true := by simp; omega
        clear hc hp
        rw [h2]
        rcases h4 with ⟨h5, h6⟩ | ⟨h5, h6⟩
        · have hq1 : decide (l[k].2.1 < l[b].2.1) = true := by simpa using h5
          have HV := Lib.hid h6
          clear h5 h6 h2 h1
          generalize l[b] = z at *
          obtain ⟨z0, z1, z2, z3⟩ := z
          generalize l[k] = y at *
          obtain ⟨y0, y1, y2, y3⟩ := y
          go_wp2
          go_quiet (fail)
          go_wp2
          go_roundg (l.length - (k + 1))
          case measure => omega
          case rel => exact ⟨k + 1, by omega, rfl, by go_num, by rw [HV.out], below_draws HB.out _⟩
        · have hq1 : decide (l[k].2.1 < l[b].2.1) = false := by simpa using h5
          have HV := Lib.hid h6
          clear h5 h6 h2 h1
          generalize l[b] = z at *
          obtain ⟨z0, z1, z2, z3⟩ := z
          generalize l[k] = y at *
          obtain ⟨y0, y1, y2, y3⟩ := y
          go_wp2
          go_quiet (fail)
          go_wp2
          go_roundg (l.length - (k + 1))
          case measure => omega
          case rel => exact ⟨k + 1, by omega, rfl, by go_num, by rw [HV.out], below_draws HB.out _⟩
    · have hd : decide (k < l.length) = false := by simp; omega
      have hd' : decide ((k : Int) < (l.length : Int)) = false := by simp; omega
      obtain rfl : k = l.length := by omega
      clear hlt
      go_wp2
      go_ret
      exact ⟨rfl, HB.out⟩
end Go.Proofs.Ytckofkdeedbbgaa
