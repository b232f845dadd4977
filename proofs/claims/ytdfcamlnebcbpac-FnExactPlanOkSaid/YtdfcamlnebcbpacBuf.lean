/- What this text proves: a text that grows byte by byte in a slice of the call's own: what an append of some bytes makes of it, and what string is made of it. -/
import Derived.Test.YtdfcamlnebcbpacLaw
import Derived.WalkKit
import Derived.LoopTactic
import Derived.IntWalk
import Derived.OwnWalk
import Derived.Laws.AppendOwn
import Derived.RegionTactic
import Derived.Laws.OwnMore
import Derived.Laws.MakeOwn
import Derived.Laws.IdiomStrings
import Derived.Lib.BufferRead
import Derived.Lib.Hide
namespace Go.Proofs.Ytdfcamlnebcbpac
open Go.ChangeShapes Go.WideShapes Go.ChangeAt Go.RowKit

/-- A byte as a cell holds it. -/
def cellB (b : UInt8) : Value := .int .u8 (b.toNat : Int)
/-- A slice of bytes that holds the bytes l in a block of its own, from block 'base' on. -/
def OwnB (w : World) (base : Nat) (v : Value) (l : List UInt8) : Prop := w.ownsRow base 5 1 v l.length (l.map cellB)

theorem info_u8 : (Try.prog.info? 5).map (fun i => (i.zero, i.size, i.bytes)) = some (some (.int .u8 0), 1, 1) := by kernel_rfl

theorem OwnB.more {w w' : World} {base : Nat} {v : Value} {l : List UInt8} (h : OwnB w base v l) (hb : Below w.heap.size w w') : OwnB w' base v l := by
  refine World.ownsRow.kept (row := none) h ⟨hb.os, hb.tape, hb.output, hb.size, fun k hk _ => hb.block k hk⟩ ?_
  by_cases he : v.ownBlock = none
  · exact .inl he
  · exact .inr he
theorem OwnB.empty (w : World) (base : Nat) (hb : base ≤ w.heap.size) : OwnB (w.alloc (.cells #[] 5)) base (.slice (some ⟨w.heap.size, 0, none⟩) 0 0) [] :=
  World.ownsRow_lit w #[] 0 hb (by decide) rfl
theorem OwnB.made (w : World) (base n : Nat) (hb : base ≤ w.heap.size) (hn : n ≤ 1099511627776) (cur : Array Value) (hc : cur.size = n) : OwnB (w.alloc (.cells cur 5)) base (.slice (some ⟨w.heap.size, 0, none⟩) 0 n) [] :=
  World.ownsRow_made w cur n hb (by unfold maxLen; omega) (by omega)

theorem grown_below {w w' : World} {base : Nat} {v : Value} {l : List UInt8} (h : OwnB w base v l) (hb : base ≤ w.heap.size) (hg : w.grownBy w' v.ownBlock) : Below base w w' :=
  (Below.refl base w).grown hg hb fun k hk => (World.ownsRow.lt h k hk).1

theorem app_bytes {ops : Array Oper} {rest : List Oper} {o : Oper} {a : Act} {Q : Exit → Act → World → Prop} (w : World) (hgd : o.guard = none) (s x : Operand)
    (ho : o.op = .call { callee := .builtin .append, args := #[s, x], argTypes := #[170, 170] })
    (base : Nat) (v : Value) (l new : List UInt8) (hs : a.eval s = v) (hown : OwnB w base v l) (cs : Array Value) (T : TypeId) (m c : Nat)
    (hx : a.eval x = .slice (some ⟨w.heap.size, 0, none⟩) m c) (hm : m = new.length) (hcs : cs = (new.map cellB).toArray)
    (hlen : l.length + new.length ≤ 1099511627776) (hbase : base ≤ w.heap.size)
    (h : ∀ v' w', OwnB w' base v' (l ++ new) → Below base w w' → w.heap.size ≤ w'.heap.size → wpList Try.prog ops Q rest (a.put o.dst v') w') :
    wpList Try.prog ops Q (o :: rest) a (w.alloc (.cells cs T)) := by
  obtain ⟨i, hi, hz0, hz1, hz2⟩ := info_parts info_u8
  subst hm
  have hown' : (w.alloc (.cells cs T)).ownsRow base 5 1 v l.length (l.map cellB) := World.ownsRow.alloc hown _
  refine wpList_append_own _ hgd s x 170 ho base 5 i (.int .u8 0) 1 1 Try.underlying170 hi hz0 hz1 hz2 rfl (by decide) v l.length (l.map cellB) hs hown'
    ⟨w.heap.size, 0, none⟩ new.length c (new.map cellB) hx (by simp) (fun j u hu => ?_) (fun u hu => ?_) (by unfold maxLen; omega) (by omega) (by simp; omega) (fun v' w' hown2 hg _ => ?_)
  · rw [show (⟨w.heap.size, 0, none⟩ : Addr).add j = ⟨w.heap.size, j, none⟩ from by unfold Addr.add; split <;> simp_all]
    rw [World.cell?_alloc_at _ _ _ _ rfl, hcs]
    simpa using hu
  · obtain ⟨b, _, rfl⟩ := List.mem_map.1 hu
    rfl
  · have hz : w.heap.size ≤ w'.heap.size := by have := hg.size; simp at this; omega
    refine h v' w' ?_ ?_ hz
    · unfold OwnB
      rw [List.length_append, List.map_append]
      exact hown2
    · exact ((Below.refl base w).alloc hbase _).grown hg (by simp; omega) fun k hk => (World.ownsRow.lt hown' k hk).1

theorem app_bytes_at {o : Oper} {a : Act} {K : Act → World → Prop} {Q : Exit → Act → World → Prop} (W : World) (s x : Operand)
    (ho : o.op = .call { callee := .builtin .append, args := #[s, x], argTypes := #[170, 170] })
    (base : Nat) (v : Value) (l new : List UInt8) (hs : a.eval s = v) (g m c : Nat)
    (hx : a.eval x = .slice (some ⟨g, 0, none⟩) m c) (hm : m = new.length) (hown : OwnB W base v l)
    (hcell : ∀ j u, (new.map cellB)[j]? = some u → W.cell? ⟨g, j, none⟩ = some u)
    (hlen : l.length + new.length ≤ 1099511627776) (hbase : base ≤ W.heap.size)
    (h : ∀ v' w', OwnB w' base v' (l ++ new) → Below base W w' → W.heap.size ≤ w'.heap.size → K (a.put o.dst v') w') :
    Oper.wp Try.prog o a W K Q := by
  obtain ⟨i, hi, hz0, hz1, hz2⟩ := info_parts info_u8
  subst hm
  refine wp_append_own W s x 170 ho base 5 i (.int .u8 0) 1 1 Try.underlying170 hi hz0 hz1 hz2 rfl (by decide) v l.length (l.map cellB) hs hown
    ⟨g, 0, none⟩ new.length c (new.map cellB) hx (by simp) (fun j u hu => ?_) (fun u hu => ?_) (by unfold maxLen; omega) (by omega) hbase (fun v' w' hown2 hg _ => ?_)
  · rw [show (⟨g, 0, none⟩ : Addr).add j = ⟨g, j, none⟩ from by unfold Addr.add; split <;> simp_all]
    exact hcell j u hu
  · obtain ⟨b, _, rfl⟩ := List.mem_map.1 hu
    rfl
  · refine h v' w' ?_ ?_ hg.size
    · unfold OwnB
      rw [List.length_append, List.map_append]
      exact hown2
    · exact (Below.refl base W).grown hg hbase fun k hk => (World.ownsRow.lt hown k hk).1

theorem step_app_bytes {ops : Array Oper} {o : Oper} {a : Act} {K : Act → World → Prop} {Q : Exit → Act → World → Prop} {E : Prop} (W : World) (hgd : o.guard = none) (s x : Operand)
    (ho : o.op = .call { callee := .builtin .append, args := #[s, x], argTypes := #[170, 170] })
    (base : Nat) (v : Value) (l new : List UInt8) (hs : a.eval s = v) (g m c : Nat)
    (hx : a.eval x = .slice (some ⟨g, 0, none⟩) m c) (hm : m = new.length) (hown : OwnB W base v l)
    (hcell : ∀ j u, (new.map cellB)[j]? = some u → W.cell? ⟨g, j, none⟩ = some u)
    (hlen : l.length + new.length ≤ 1099511627776) (hbase : base ≤ W.heap.size)
    (h : ∀ v' w', OwnB w' base v' (l ++ new) → Below base W w' → W.heap.size ≤ w'.heap.size → K (a.put o.dst v') w') :
    if Region.wanted o (yielded ops a.tmps) = true then Oper.wp Try.prog o a W K Q else E := by
  have hw : Region.wanted o (yielded ops a.tmps) = true := by simp [Region.wanted, hgd]
  rw [if_pos hw]
  exact app_bytes_at W s x ho base v l new hs g m c hx hm hown hcell hlen hbase h

/-- The same in a region that has drawn its order, behind the new block of what is appended. -/
theorem step_app_drew {ops : Array Oper} {o : Oper} {a : Act} {K : Act → World → Prop} {Q : Exit → Act → World → Prop} {E : Prop} (w : World) (cs : Array Value) (T : TypeId) (hgd : o.guard = none) (s x : Operand)
    (ho : o.op = .call { callee := .builtin .append, args := #[s, x], argTypes := #[170, 170] })
    (base : Nat) (v : Value) (l new : List UInt8) (hs : a.eval s = v) (m c : Nat)
    (hx : a.eval x = .slice (some ⟨w.heap.size, 0, none⟩) m c) (hm : m = new.length) (hown : OwnB w base v l) (hcs : cs = (new.map cellB).toArray)
    (hlen : l.length + new.length ≤ 1099511627776) (hbase : base ≤ w.heap.size)
    (h : ∀ v' w', OwnB w' base v' (l ++ new) → Below base w w' → w.heap.size ≤ w'.heap.size → K (a.put o.dst v') w') :
    if Region.wanted o (yielded ops a.tmps) = true then Oper.wp Try.prog o a ((w.alloc (.cells cs T)).drew) K Q else E := by
  have hb : Below w.heap.size w ((w.alloc (.cells cs T)).drew) := ((Below.refl _ _).alloc (Nat.le_refl _) _).drew
  refine step_app_bytes _ hgd s x ho base v l new hs w.heap.size m c hx hm (hown.more hb) (fun j u hu => ?_) hlen (Nat.le_trans hbase hb.size) (fun v' w' h1 h2 h3 => h v' w' h1 ((hb.mono hbase).trans h2) (Nat.le_trans hb.size h3))
  show (w.alloc (.cells cs T)).cell? ⟨w.heap.size, j, none⟩ = some u
  rw [World.cell?_alloc_at _ _ _ _ rfl, hcs]
  simpa using hu

theorem conv_bytes (w : World) (base : Nat) (v : Value) (l : List UInt8) (hown : OwnB w base v l) :
    (convert 170 9 v).run Try.prog w = .ok (.string ⟨l.toArray⟩) w := by
  rcases hown.2 with ⟨rfl, hn⟩ | ⟨g, cap, cur, rfl, _, hh, hnc, _, hsz, ht⟩
  · obtain rfl : l = [] := List.eq_nil_of_length_eq_zero hn
    exact Lib.run_convert_nil_bytes w _ _ 5 0 Try.underlying170 Try.underlying5 Try.underlying9
  · refine run_convert_bytes_back w 170 9 5 ⟨g, 0, none⟩ cap l Try.underlying170 Try.underlying5 Try.underlying9 fun j hj => ?_
    have hc := World.ownsRow.cells (g := g) hown rfl j (cellB l[j]) (by simp [hj])
    exact hc
end Go.Proofs.Ytdfcamlnebcbpac
