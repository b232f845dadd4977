/- What this text proves: the parts Buf, PutS, PktE of the proof, each under its own words. -/
import Derived.Test.YtckofkdeedbbgaaRR00
import Derived.WalkKit
import Derived.LoopTactic
import Derived.IntWalk
import Derived.OwnWalk
import Derived.Laws.AppendOwn
import Derived.RegionTactic
import Derived.Laws.OwnMore
import Derived.Laws.MakeOwn
import Derived.Laws.IdiomStrings
import Derived.Lib.BufferRead
import Derived.Lib.Hide
import Derived.Test.YtckofkdeedbbgaaRR14
import Derived.Test.YtckofkdeedbbgaaRR03
import Derived.Laws.Concat
import Derived.Deep.RegionHeld3
/- What this text proves: a text that grows byte by byte in a slice of the call's own: what an append of some bytes makes of it, and what string is made of it. -/
namespace Go.Proofs.Ytckofkdeedbbgaa
open Go.ChangeShapes Go.WideShapes Go.ChangeAt Go.RowKit

/-- A byte as a cell holds it. -/
def cellB (b : UInt8) : Value := .int .u8 (b.toNat : Int)
/-- A slice of bytes that holds the bytes l in a block of its own, from block 'base' on. -/
def OwnB (w : World) (base : Nat) (v : Value) (l : List UInt8) : Prop := w.ownsRow base 5 1 v l.length (l.map cellB)

theorem info_u8 : (Try.prog.info? 5).map (fun i => (i.zero, i.size, i.bytes)) = some (some (.int .u8 0), 1, 1) := by kernel_rfl

theorem OwnB.more {w w' : World} {base : Nat} {v : Value} {l : List UInt8} (h : OwnB w base v l) (hb : Below w.heap.size w w') : OwnB w' base v l := by
  refine World.ownsRow.kept (row := none) h ⟨hb.os, hb.tape, hb.output, hb.size, fun k hk _ => hb.block k hk⟩ ?_
  by_cases he : v.ownBlock = none
  · exact .inl he
  · exact .inr he
theorem OwnB.empty (w : World) (base : Nat) (hb : base ≤ w.heap.size) : OwnB (w.alloc (.cells #[] 5)) base (.slice (some ⟨w.heap.size, 0, none⟩) 0 0) [] :=
  World.ownsRow_lit w #[] 0 hb (by decide) rfl
theorem OwnB.made (w : World) (base n : Nat) (hb : base ≤ w.heap.size) (hn : n ≤ 1099511627776) (cur : Array Value) (hc : cur.size = n) : OwnB (w.alloc (.cells cur 5)) base (.slice (some ⟨w.heap.size, 0, none⟩) 0 n) [] :=
  World.ownsRow_made w cur n hb (by unfold maxLen; omega) (by omega)

theorem grown_below {w w' : World} {base : Nat} {v : Value} {l : List UInt8} (h : OwnB w base v l) (hb : base ≤ w.heap.size) (hg : w.grownBy w' v.ownBlock) : Below base w w' :=
  (Below.refl base w).grown hg hb fun k hk => (World.ownsRow.lt h k hk).1

theorem app_bytes {ops : Array Oper} {rest : List Oper} {o : Oper} {a : Act} {Q : Exit → Act → World → Prop} (w : World) (hgd : o.guard = none) (s x : Operand)
    (ho : o.op = .call { callee := .builtin .append, args := #[s, x], argTypes := #[22, 22] })
    (base : Nat) (v : Value) (l new : List UInt8) (hs : a.eval s = v) (hown : OwnB w base v l) (cs : Array Value) (T : TypeId) (m c : Nat)
    (hx : a.eval x = .slice (some ⟨w.heap.size, 0, none⟩) m c) (hm : m = new.length) (hcs : cs = (new.map cellB).toArray)
    (hlen : l.length + new.length ≤ 1099511627776) (hbase : base ≤ w.heap.size)
    (h : ∀ v' w', OwnB w' base v' (l ++ new) → Below base w w' → w.heap.size ≤ w'.heap.size → wpList Try.prog ops Q rest (a.put o.dst v') w') :
    wpList Try.prog ops Q (o :: rest) a (w.alloc (.cells cs T)) := by
  obtain ⟨i, hi, hz0, hz1, hz2⟩ := info_parts info_u8
  subst hm
  have hown' : (w.alloc (.cells cs T)).ownsRow base 5 1 v l.length (l.map cellB) := World.ownsRow.alloc hown _
  refine wpList_append_own _ hgd s x 22 ho base 5 i (.int .u8 0) 1 1 Try.underlying22 hi hz0 hz1 hz2 rfl (by decide) v l.length (l.map cellB) hs hown'
    ⟨w.heap.size, 0, none⟩ new.length c (new.map cellB) hx (by simp) (fun j u hu => ?_) (fun u hu => ?_) (by unfold maxLen; omega) (by omega) (by simp; omega) (fun v' w' hown2 hg _ => ?_)
  · rw [show (⟨w.heap.size, 0, none⟩ : Addr).add j = ⟨w.heap.size, j, none⟩ from by unfold Addr.add; split <;> simp_all]
    rw [World.cell?_alloc_at _ _ _ _ rfl, hcs]
    simpa using hu
  · obtain ⟨b, _, rfl⟩ := List.mem_map.1 hu
    rfl
  · have hz : w.heap.size ≤ w'.heap.size := by have := hg.size; simp at this; omega
    refine h v' w' ?_ ?_ hz
    · unfold OwnB
      rw [List.length_append, List.map_append]
      exact hown2
    · exact ((Below.refl base w).alloc hbase _).grown hg (by simp; omega) fun k hk => (World.ownsRow.lt hown' k hk).1

theorem app_bytes_at {o : Oper} {a : Act} {K : Act → World → Prop} {Q : Exit → Act → World → Prop} (W : World) (s x : Operand)
    (ho : o.op = .call { callee := .builtin .append, args := #[s, x], argTypes := #[22, 22] })
    (base : Nat) (v : Value) (l new : List UInt8) (hs : a.eval s = v) (g m c : Nat)
    (hx : a.eval x = .slice (some ⟨g, 0, none⟩) m c) (hm : m = new.length) (hown : OwnB W base v l)
    (hcell : ∀ j u, (new.map cellB)[j]? = some u → W.cell? ⟨g, j, none⟩ = some u)
    (hlen : l.length + new.length ≤ 1099511627776) (hbase : base ≤ W.heap.size)
    (h : ∀ v' w', OwnB w' base v' (l ++ new) → Below base W w' → W.heap.size ≤ w'.heap.size → K (a.put o.dst v') w') :
    Oper.wp Try.prog o a W K Q := by
  obtain ⟨i, hi, hz0, hz1, hz2⟩ := info_parts info_u8
  subst hm
  refine wp_append_own W s x 22 ho base 5 i (.int .u8 0) 1 1 Try.underlying22 hi hz0 hz1 hz2 rfl (by decide) v l.length (l.map cellB) hs hown
    ⟨g, 0, none⟩ new.length c (new.map cellB) hx (by simp) (fun j u hu => ?_) (fun u hu => ?_) (by unfold maxLen; omega) (by omega) hbase (fun v' w' hown2 hg _ => ?_)
  · rw [show (⟨g, 0, none⟩ : Addr).add j = ⟨g, j, none⟩ from by unfold Addr.add; split <;> simp_all]
    exact hcell j u hu
  · obtain ⟨b, _, rfl⟩ := List.mem_map.1 hu
    rfl
  · refine h v' w' ?_ ?_ hg.size
    · unfold OwnB
      rw [List.length_append, List.map_append]
      exact hown2
    · exact (Below.refl base W).grown hg hbase fun k hk => (World.ownsRow.lt hown k hk).1

theorem step_app_bytes {ops : Array Oper} {o : Oper} {a : Act} {K : Act → World → Prop} {Q : Exit → Act → World → Prop} {E : Prop} (W : World) (hgd : o.guard = none) (s x : Operand)
    (ho : o.op = .call { callee := .builtin .append, args := #[s, x], argTypes := #[22, 22] })
    (base : Nat) (v : Value) (l new : List UInt8) (hs : a.eval s = v) (g m c : Nat)
    (hx : a.eval x = .slice (some ⟨g, 0, none⟩) m c) (hm : m = new.length) (hown : OwnB W base v l)
    (hcell : ∀ j u, (new.map cellB)[j]? = some u → W.cell? ⟨g, j, none⟩ = some u)
    (hlen : l.length + new.length ≤ 1099511627776) (hbase : base ≤ W.heap.size)
    (h : ∀ v' w', OwnB w' base v' (l ++ new) → Below base W w' → W.heap.size ≤ w'.heap.size → K (a.put o.dst v') w') :
    if Region.wanted o (yielded ops a.tmps) = true then Oper.wp Try.prog o a W K Q else E := by
  have hw : Region.wanted o (yielded ops a.tmps) = true := by simp [Region.wanted, hgd]
  rw [if_pos hw]
  exact app_bytes_at W s x ho base v l new hs g m c hx hm hown hcell hlen hbase h

/-- The same in a region that has drawn its order, behind the new block of what is appended. -/
theorem step_app_drew {ops : Array Oper} {o : Oper} {a : Act} {K : Act → World → Prop} {Q : Exit → Act → World → Prop} {E : Prop} (w : World) (cs : Array Value) (T : TypeId) (hgd : o.guard = none) (s x : Operand)
    (ho : o.op = .call { callee := .builtin .append, args := #[s, x], argTypes := #[22, 22] })
    (base : Nat) (v : Value) (l new : List UInt8) (hs : a.eval s = v) (m c : Nat)
    (hx : a.eval x = .slice (some ⟨w.heap.size, 0, none⟩) m c) (hm : m = new.length) (hown : OwnB w base v l) (hcs : cs = (new.map cellB).toArray)
    (hlen : l.length + new.length ≤ 1099511627776) (hbase : base ≤ w.heap.size)
    (h : ∀ v' w', OwnB w' base v' (l ++ new) → Below base w w' → w.heap.size ≤ w'.heap.size → K (a.put o.dst v') w') :
    if Region.wanted o (yielded ops a.tmps) = true then Oper.wp Try.prog o a ((w.alloc (.cells cs T)).drew) K Q else E := by
  have hb : Below w.heap.size w ((w.alloc (.cells cs T)).drew) := ((Below.refl _ _).alloc (Nat.le_refl _) _).drew
  refine step_app_bytes _ hgd s x ho base v l new hs w.heap.size m c hx hm (hown.more hb) (fun j u hu => ?_) hlen (Nat.le_trans hbase hb.size) (fun v' w' h1 h2 h3 => h v' w' h1 ((hb.mono hbase).trans h2) (Nat.le_trans hb.size h3))
  show (w.alloc (.cells cs T)).cell? ⟨w.heap.size, j, none⟩ = some u
  rw [World.cell?_alloc_at _ _ _ _ rfl, hcs]
  simpa using hu

theorem conv_bytes (w : World) (base : Nat) (v : Value) (l : List UInt8) (hown : OwnB w base v l) :
    (convert 22 9 v).run Try.prog w = .ok (.string ⟨l.toArray⟩) w := by
  rcases hown.2 with ⟨rfl, hn⟩ | ⟨g, cap, cur, rfl, _, hh, hnc, _, hsz, ht⟩
  · obtain rfl : l = [] := List.eq_nil_of_length_eq_zero hn
    exact Lib.run_convert_nil_bytes w _ _ 5 0 Try.underlying22 Try.underlying5 Try.underlying9
  · refine run_convert_bytes_back w 22 9 5 ⟨g, 0, none⟩ cap l Try.underlying22 Try.underlying5 Try.underlying9 fun j hj => ?_
    have hc := World.ownsRow.cells (g := g) hown rfl j (cellB l[j]) (by simp [hj])
    exact hc
end Go.Proofs.Ytckofkdeedbbgaa
/- What this text proves: the contract of the model's PutWord. -/
namespace Go.Proofs.Ytckofkdeedbbgaa
open Go.ChangeShapes Go.WideShapes Go.ChangeAt Go.RowKit
set_option linter.unusedVariables false

theorem putB_len (n k : Nat) : (putB n k).length = k := by
  induction k with
  | zero => rfl
  | succ k ih => simp [putB, ih]
theorem putB_take (n k m : Nat) (h : m < k) : (putB n k).take (k - m) = (putB n k).take (k - (m + 1)) ++ [byteN n m] := by
  induction k with
  | zero => omega
  | succ k ih =>
    by_cases hm : m = k
    · subst hm
      rw [show m + 1 - m = 1 from by omega, show m + 1 - (m + 1) = 0 from by omega]
      rfl
    · rw [show k + 1 - m = (k - m) + 1 from by omega, show k + 1 - (m + 1) = (k - (m + 1)) + 1 from by omega]
      simp only [putB, List.take_succ_cons, List.cons_append]
      rw [ih (by omega)]

def PutOk (n k : Int) : Prop := 1 ≤ k ∧ k ≤ 4 ∧ 0 ≤ n ∧ n < 256 ^ k.toNat

theorem put_impl_yes (n k : Nat) (h1 : 1 ≤ k) (h4 : k ≤ 4) (hn : n < 256 ^ k) (w : World) :
    Calls Try.prog 83 #[.int .i64 n, .int .i64 k] w fun e w' => e = .returned (.string ⟨(putB n k).toArray⟩) ∧ Below w.heap.size w w' := by
  obtain rfl | rfl | rfl | rfl : k = 1 ∨ k = 2 ∨ k = 3 ∨ k = 4 := by omega
  · exact put_impl1_in n (by omega) (by simpa using hn) w
  · exact put_impl2_in n (by omega) (by simpa using hn) w
  · exact put_impl3_in n (by omega) (by simpa using hn) w
  · exact put_impl4_in n (by omega) (by simpa using hn) w
theorem put_impl_no (n k : Int) (h : ¬ PutOk n k) (w : World) :
    Calls Try.prog 83 #[.int .i64 n, .int .i64 k] w fun e w' => e = .returned (.string ⟨#[]⟩) ∧ Below w.heap.size w w' := by
  unfold PutOk at h
  by_cases h1 : k < 1
  · have hd1 : decide (k < 1) = true := by simp; omega
    clear h h1
    go_enter Try.func83, Try.ntmps83
    go_wp2
    go_ret
    exact ⟨rfl, Below.refl _ _⟩
  · have hd1 : decide (k < 1) = false := by simp; omega
    by_cases h2 : 4 < k
    · have hd2 : decide (4 < k) = true := by simp; omega
      clear h h1 h2
      go_enter Try.func83, Try.ntmps83
      go_wp2
      go_ret
      exact ⟨rfl, Below.refl _ _⟩
    · have hd2 : decide (4 < k) = false := by simp; omega
      by_cases h3 : n < 0
      · have hd3 : decide (n < 0) = true := by simp; omega
        clear h h1 h2 h3
        go_enter Try.func83, Try.ntmps83
        go_wp2
        go_ret
        exact ⟨rfl, Below.refl _ _⟩
      · have hd3 : decide (n < 0) = false := by simp; omega
        by_cases h4 : 4294967295 < n
        · have hd4 : decide (4294967295 < n) = true := by simp; omega
          clear h h1 h2 h3 h4
          go_enter Try.func83, Try.ntmps83
          go_wp2
          go_ret
          exact ⟨rfl, Below.refl _ _⟩
        · obtain ⟨m, rfl⟩ := Int.eq_ofNat_of_zero_le (show 0 ≤ n by omega)
          clear hd1 hd2 hd3
          obtain rfl | rfl | rfl | rfl : k = 1 ∨ k = 2 ∨ k = 3 ∨ k = 4 := by omega
          · exact put_impl1_out m (by omega) (fun hm => h ⟨by omega, by omega, by omega, by simp; omega⟩) w
          · exact put_impl2_out m (by omega) (fun hm => h ⟨by omega, by omega, by omega, by simp; omega⟩) w
          · exact put_impl3_out m (by omega) (fun hm => h ⟨by omega, by omega, by omega, by simp; omega⟩) w
          · exact absurd ⟨by omega, by omega, by omega, by simp; omega⟩ h

/-- What PutWord returns. -/
noncomputable def putS (n k : Int) : ByteArray := open Classical in if PutOk n k then ⟨(putB n.toNat k.toNat).toArray⟩ else ⟨#[]⟩
theorem put_impl (n k : Int) (w : World) :
    Calls Try.prog 83 #[.int .i64 n, .int .i64 k] w fun e w' => e = .returned (.string (putS n k)) ∧ Below w.heap.size w w' := by
  by_cases h : PutOk n k
  · unfold putS
    rw [if_pos h]
    obtain ⟨m, rfl⟩ := Int.eq_ofNat_of_zero_le h.2.2.1
    obtain ⟨j, rfl⟩ := Int.eq_ofNat_of_zero_le (show 0 ≤ k by have := h.1; omega)
    have h4 : (m : Int) < ((256 ^ j : Nat) : Int) := by have h4 := h.2.2.2; rw [Int.toNat_natCast] at h4; rw [Int.natCast_pow]; exact h4
    exact put_impl_yes m j (by have := h.1; omega) (by have := h.2.1; omega) (by omega) w
  · unfold putS
    rw [if_neg h]
    exact put_impl_no n k h w
end Go.Proofs.Ytckofkdeedbbgaa
/- What this text proves: the contract of the model's EncodePacket. -/
namespace Go.Proofs.Ytckofkdeedbbgaa
open Go.ChangeShapes Go.WideShapes Go.ChangeAt Go.RowKit
set_option linter.unusedVariables false

theorem putS_four_le (n k : Int) : (putS n k).size ≤ 4 := by
  unfold putS
  split
  · rename_i h
    have h2 := h.2.1
    show ((putB n.toNat k.toNat).toArray).size ≤ 4
    rw [List.size_toArray, putB_len]
    omega
  · show (#[] : Array UInt8).size ≤ 4
    decide
/-- What EncodePacket returns. -/
noncomputable def pkT (a q : Int) (d : ByteArray) : ByteArray := if PkOk a q d then putS a 1 ++ putS q 2 ++ putS (d.size : Int) 1 ++ d else ⟨#[]⟩

/-- A world behind another, in which block g holds cells. -/
structure Fit (w W : World) (g : Nat) (vs : List Value) : Prop where
  below : Below w.heap.size w W
  box : Box W g vs
theorem Fit.more {w W W' : World} {g : Nat} {vs : List Value} (h : Fit w W g vs) (hb : Below W.heap.size W W') : Fit w W' g vs := ⟨h.below.trans (hb.mono h.below.size), h.box.more hb⟩
theorem Fit.drew {w W : World} {g : Nat} {vs : List Value} (h : Fit w W g vs) : Fit w W.drew g vs := h.more (Below.refl _ _).drew
theorem Fit.made (w : World) (vs : List Value) (T : TypeId) : Fit w (w.alloc (.cells vs.toArray T)) w.heap.size vs := ⟨(Below.refl _ w).alloc (Nat.le_refl _) _, Box.made w vs T _ rfl⟩
/-- The cells of a packet, each on its own. -/
abbrev Cells3 (W : World) (g : Nat) (x y z : Value) : Prop := W.cell? ⟨g, 0, none⟩ = some x ∧ W.cell? ⟨g, 1, none⟩ = some y ∧ W.cell? ⟨g, 2, none⟩ = some z
theorem Box.three {W : World} {g : Nat} {x y z : Value} (h : Box W g [x, y, z]) : Cells3 W g x y z := ⟨h.cell 0 (by simp), h.cell 1 (by simp), h.cell 2 (by simp)⟩

end Go.Proofs.Ytckofkdeedbbgaa
