/- What this text proves: the parts Buf, PutS, PktE, BrM, InT of the proof, each under its own words. -/
import Derived.Test.YtckofkdeedbbgaaNN00
import Derived.WalkKit
import Derived.LoopTactic
import Derived.IntWalk
import Derived.OwnWalk
import Derived.Laws.AppendOwn
import Derived.RegionTactic
import Derived.Laws.OwnMore
import Derived.Laws.MakeOwn
import Derived.Laws.IdiomStrings
import Derived.Lib.BufferRead
import Derived.Lib.Hide
import Derived.Test.YtckofkdeedbbgaaNN09
import Derived.Test.YtckofkdeedbbgaaNN03
import Derived.Laws.Concat
import Derived.Deep.RegionHeld3
import Derived.Test.YtckofkdeedbbgaaNN08
import Derived.Test.YtckofkdeedbbgaaNN07
import Derived.Test.YtckofkdeedbbgaaNN01
/- What this text proves: a text that grows byte by byte in a slice of the call's own: what an append of some bytes makes of it, and what string is made of it. -/
namespace Go.Proofs.Ytckofkdeedbbgaa
open Go.ChangeShapes Go.WideShapes Go.ChangeAt Go.RowKit

/-- A byte as a cell holds it. -/
def cellB (b : UInt8) : Value := .int .u8 (b.toNat : Int)
/-- A slice of bytes that holds the bytes l in a block of its own, from block 'base' on. -/
def OwnB (w : World) (base : Nat) (v : Value) (l : List UInt8) : Prop := w.ownsRow base 5 1 v l.length (l.map cellB)

theorem info_u8 : (Try.prog.info? 5).map (fun i => (i.zero, i.size, i.bytes)) = some (some (.int .u8 0), 1, 1) := by kernel_rfl

theorem OwnB.more {w w' : World} {base : Nat} {v : Value} {l : List UInt8} (h : OwnB w base v l) (hb : Below w.heap.size w w') : OwnB w' base v l := by
  refine World.ownsRow.kept (row := none) h ⟨hb.os, hb.tape, hb.output, hb.size, fun k hk _ => hb.block k hk⟩ ?_
  by_cases he : v.ownBlock = none
  · exact .inl he
  · exact .inr he
theorem OwnB.empty (w : World) (base : Nat) (hb : base ≤ w.heap.size) : OwnB (w.alloc (.cells #[] 5)) base (.slice (some ⟨w.heap.size, 0, none⟩) 0 0) [] :=
  World.ownsRow_lit w #[] 0 hb (by decide) rfl
theorem OwnB.made (w : World) (base n : Nat) (hb : base ≤ w.heap.size) (hn : n ≤ 1099511627776) (cur : Array Value) (hc : cur.size = n) : OwnB (w.alloc (.cells cur 5)) base (.slice (some ⟨w.heap.size, 0, none⟩) 0 n) [] :=
  World.ownsRow_made w cur n hb (by unfold maxLen; omega) (by omega)

theorem grown_below {w w' : World} {base : Nat} {v : Value} {l : List UInt8} (h : OwnB w base v l) (hb : base ≤ w.heap.size) (hg : w.grownBy w' v.ownBlock) : Below base w w' :=
  (Below.refl base w).grown hg hb fun k hk => (World.ownsRow.lt h k hk).1

theorem app_bytes {ops : Array Oper} {rest : List Oper} {o : Oper} {a : Act} {Q : Exit → Act → World → Prop} (w : World) (hgd : o.guard = none) (s x : Operand)
    (ho : o.op = .call { callee := .builtin .append, args := #[s, x], argTypes := #[22, 22] })
    (base : Nat) (v : Value) (l new : List UInt8) (hs : a.eval s = v) (hown : OwnB w base v l) (cs : Array Value) (T : TypeId) (m c : Nat)
    (hx : a.eval x = .slice (some ⟨w.heap.size, 0, none⟩) m c) (hm : m = new.length) (hcs : cs = (new.map cellB).toArray)
    (hlen : l.length + new.length ≤ 1099511627776) (hbase : base ≤ w.heap.size)
    (h : ∀ v' w', OwnB w' base v' (l ++ new) → Below base w w' → w.heap.size ≤ w'.heap.size → wpList Try.prog ops Q rest (a.put o.dst v') w') :
    wpList Try.prog ops Q (o :: rest) a (w.alloc (.cells cs T)) := by
  obtain ⟨i, hi, hz0, hz1, hz2⟩ := info_parts info_u8
  subst hm
  have hown' : (w.alloc (.cells cs T)).ownsRow base 5 1 v l.length (l.map cellB) := World.ownsRow.alloc hown _
  refine wpList_append_own _ hgd s x 22 ho base 5 i (.int .u8 0) 1 1 Try.underlying22 hi hz0 hz1 hz2 rfl (by decide) v l.length (l.map cellB) hs hown'
    ⟨w.heap.size, 0, none⟩ new.length c (new.map cellB) hx (by simp) (fun j u hu => ?_) (fun u hu => ?_) (by unfold maxLen; omega) (by omega) (by simp; omega) (fun v' w' hown2 hg _ => ?_)
  · rw [show (⟨w.heap.size, 0, none⟩ : Addr).add j = ⟨w.heap.size, j, none⟩ from by unfold Addr.add; split <;> simp_all]
    rw [World.cell?_alloc_at _ _ _ _ rfl, hcs]
    simpa using hu
  · obtain ⟨b, _, rfl⟩ := List.mem_map.1 hu
    rfl
  · have hz : w.heap.size ≤ w'.heap.size := by have := hg.size; simp at this; omega
    refine h v' w' ?_ ?_ hz
    · unfold OwnB
      rw [List.length_append, List.map_append]
      exact hown2
    · exact ((Below.refl base w).alloc hbase _).grown hg (by simp; omega) fun k hk => (World.ownsRow.lt hown' k hk).1

theorem app_bytes_at {o : Oper} {a : Act} {K : Act → World → Prop} {Q : Exit → Act → World → Prop} (W : World) (s x : Operand)
    (ho : o.op = .call { callee := .builtin .append, args := #[s, x], argTypes := #[22, 22] })
    (base : Nat) (v : Value) (l new : List UInt8) (hs : a.eval s = v) (g m c : Nat)
    (hx : a.eval x = .slice (some ⟨g, 0, none⟩) m c) (hm : m = new.length) (hown : OwnB W base v l)
    (hcell : ∀ j u, (new.map cellB)[j]? = some u → W.cell? ⟨g, j, none⟩ = some u)
    (hlen : l.length + new.length ≤ 1099511627776) (hbase : base ≤ W.heap.size)
    (h : ∀ v' w', OwnB w' base v' (l ++ new) → Below base W w' → W.heap.size ≤ w'.heap.size → K (a.put o.dst v') w') :
    Oper.wp Try.prog o a W K Q := by
  obtain ⟨i, hi, hz0, hz1, hz2⟩ := info_parts info_u8
  subst hm
  refine wp_append_own W s x 22 ho base 5 i (.int .u8 0) 1 1 Try.underlying22 hi hz0 hz1 hz2 rfl (by decide) v l.length (l.map cellB) hs hown
    ⟨g, 0, none⟩ new.length c (new.map cellB) hx (by simp) (fun j u hu => ?_) (fun u hu => ?_) (by unfold maxLen; omega) (by omega) hbase (fun v' w' hown2 hg _ => ?_)
  · rw [show (⟨g, 0, none⟩ : Addr).add j = ⟨g, j, none⟩ from by unfold Addr.add; split <;> simp_all]
    exact hcell j u hu
  · obtain ⟨b, _, rfl⟩ := List.mem_map.1 hu
    rfl
  · refine h v' w' ?_ ?_ hg.size
    · unfold OwnB
      rw [List.length_append, List.map_append]
      exact hown2
    · exact (Below.refl base W).grown hg hbase fun k hk => (World.ownsRow.lt hown k hk).1

theorem step_app_bytes {ops : Array Oper} {o : Oper} {a : Act} {K : Act → World → Prop} {Q : Exit → Act → World → Prop} {E : Prop} (W : World) (hgd : o.guard = none) (s x : Operand)
    (ho : o.op = .call { callee := .builtin .append, args := #[s, x], argTypes := #[22, 22] })
    (base : Nat) (v : Value) (l new : List UInt8) (hs : a.eval s = v) (g m c : Nat)
    (hx : a.eval x = .slice (some ⟨g, 0, none⟩) m c) (hm : m = new.length) (hown : OwnB W base v l)
    (hcell : ∀ j u, (new.map cellB)[j]? = some u → W.cell? ⟨g, j, none⟩ = some u)
    (hlen : l.length + new.length ≤ 1099511627776) (hbase : base ≤ W.heap.size)
    (h : ∀ v' w', OwnB w' base v' (l ++ new) → Below base W w' → W.heap.size ≤ w'.heap.size → K (a.put o.dst v') w') :
    if Region.wanted o (yielded ops a.tmps) = true then Oper.wp Try.prog o a W K Q else E := by
  have hw : Region.wanted o (yielded ops a.tmps) = true := by simp [Region.wanted, hgd]
  rw [if_pos hw]
  exact app_bytes_at W s x ho base v l new hs g m c hx hm hown hcell hlen hbase h

/-- The same in a region that has drawn its order, behind the new block of what is appended. -/
theorem step_app_drew {ops : Array Oper} {o : Oper} {a : Act} {K : Act → World → Prop} {Q : Exit → Act → World → Prop} {E : Prop} (w : World) (cs : Array Value) (T : TypeId) (hgd : o.guard = none) (s x : Operand)
    (ho : o.op = .call { callee := .builtin .append, args := #[s, x], argTypes := #[22, 22] })
    (base : Nat) (v : Value) (l new : List UInt8) (hs : a.eval s = v) (m c : Nat)
    (hx : a.eval x = .slice (some ⟨w.heap.size, 0, none⟩) m c) (hm : m = new.length) (hown : OwnB w base v l) (hcs : cs = (new.map cellB).toArray)
    (hlen : l.length + new.length ≤ 1099511627776) (hbase : base ≤ w.heap.size)
    (h : ∀ v' w', OwnB w' base v' (l ++ new) → Below base w w' → w.heap.size ≤ w'.heap.size → K (a.put o.dst v') w') :
    if Region.wanted o (yielded ops a.tmps) = true then Oper.wp Try.prog o a ((w.alloc (.cells cs T)).drew) K Q else E := by
  have hb : Below w.heap.size w ((w.alloc (.cells cs T)).drew) := ((Below.refl _ _).alloc (Nat.le_refl _) _).drew
  refine step_app_bytes _ hgd s x ho base v l new hs w.heap.size m c hx hm (hown.more hb) (fun j u hu => ?_) hlen (Nat.le_trans hbase hb.size) (fun v' w' h1 h2 h3 => h v' w' h1 ((hb.mono hbase).trans h2) (Nat.le_trans hb.size h3))
  show (w.alloc (.cells cs T)).cell? ⟨w.heap.size, j, none⟩ = some u
  rw [World.cell?_alloc_at _ _ _ _ rfl, hcs]
  simpa using hu

theorem conv_bytes (w : World) (base : Nat) (v : Value) (l : List UInt8) (hown : OwnB w base v l) :
    (convert 22 9 v).run Try.prog w = .ok (.string ⟨l.toArray⟩) w := by
  rcases hown.2 with ⟨rfl, hn⟩ | ⟨g, cap, cur, rfl, _, hh, hnc, _, hsz, ht⟩
  · obtain rfl : l = [] := List.eq_nil_of_length_eq_zero hn
    exact Lib.run_convert_nil_bytes w _ _ 5 0 Try.underlying22 Try.underlying5 Try.underlying9
  · refine run_convert_bytes_back w 22 9 5 ⟨g, 0, none⟩ cap l Try.underlying22 Try.underlying5 Try.underlying9 fun j hj => ?_
    have hc := World.ownsRow.cells (g := g) hown rfl j (cellB l[j]) (by simp [hj])
    exact hc
end Go.Proofs.Ytckofkdeedbbgaa
/- What this text proves: the contract of the model's PutWord. -/
namespace Go.Proofs.Ytckofkdeedbbgaa
open Go.ChangeShapes Go.WideShapes Go.ChangeAt Go.RowKit
set_option linter.unusedVariables false

theorem putB_len (n k : Nat) : (putB n k).length = k := by
  induction k with
  | zero => rfl
  | succ k ih => simp [putB, ih]
theorem putB_take (n k m : Nat) (h : m < k) : (putB n k).take (k - m) = (putB n k).take (k - (m + 1)) ++ [byteN n m] := by
  induction k with
  | zero => omega
  | succ k ih =>
    by_cases hm : m = k
    · subst hm
      rw [show m + 1 - m = 1 from by omega, show m + 1 - (m + 1) = 0 from by omega]
      rfl
    · rw [show k + 1 - m = (k - m) + 1 from by omega, show k + 1 - (m + 1) = (k - (m + 1)) + 1 from by omega]
      simp only [putB, List.take_succ_cons, List.cons_append]
      rw [ih (by omega)]

def PutOk (n k : Int) : Prop := 1 ≤ k ∧ k ≤ 4 ∧ 0 ≤ n ∧ n < 256 ^ k.toNat

theorem put_impl_yes (n k : Nat) (h1 : 1 ≤ k) (h4 : k ≤ 4) (hn : n < 256 ^ k) (w : World) :
    Calls Try.prog 83 #[.int .i64 n, .int .i64 k] w fun e w' => e = .returned (.string ⟨(putB n k).toArray⟩) ∧ Below w.heap.size w w' := by
  obtain rfl | rfl | rfl | rfl : k = 1 ∨ k = 2 ∨ k = 3 ∨ k = 4 := by omega
  · exact put_impl1_in n (by omega) (by simpa using hn) w
  · exact put_impl2_in n (by omega) (by simpa using hn) w
  · exact put_impl3_in n (by omega) (by simpa using hn) w
  · exact put_impl4_in n (by omega) (by simpa using hn) w
theorem put_impl_no (n k : Int) (h : ¬ PutOk n k) (w : World) :
    Calls Try.prog 83 #[.int .i64 n, .int .i64 k] w fun e w' => e = .returned (.string ⟨#[]⟩) ∧ Below w.heap.size w w' := by
  unfold PutOk at h
  by_cases h1 : k < 1
  · have hd1 : decide (k < 1) = true := by simp; omega
    clear h h1
    go_enter Try.func83, Try.ntmps83
    go_wp2
    go_ret
    exact ⟨rfl, Below.refl _ _⟩
  · have hd1 : decide (k < 1) = false := by simp; omega
    by_cases h2 : 4 < k
    · have hd2 : decide (4 < k) = true := by simp; omega
      clear h h1 h2
      go_enter Try.func83, Try.ntmps83
      go_wp2
      go_ret
      exact ⟨rfl, Below.refl _ _⟩
    · have hd2 : decide (4 < k) = false := by simp; omega
      by_cases h3 : n < 0
      · have hd3 : decide (n < 0) = true := by simp; omega
        clear h h1 h2 h3
        go_enter Try.func83, Try.ntmps83
        go_wp2
        go_ret
        exact ⟨rfl, Below.refl _ _⟩
      · have hd3 : decide (n < 0) = false := by simp; omega
        by_cases h4 : 4294967295 < n
        · have hd4 : decide (4294967295 < n) = true := by simp; omega
          clear h h1 h2 h3 h4
          go_enter Try.func83, Try.ntmps83
          go_wp2
          go_ret
          exact ⟨rfl, Below.refl _ _⟩
        · obtain ⟨m, rfl⟩ := Int.eq_ofNat_of_zero_le (show 0 ≤ n by omega)
          clear hd1 hd2 hd3
          obtain rfl | rfl | rfl | rfl : k = 1 ∨ k = 2 ∨ k = 3 ∨ k = 4 := by omega
          · exact put_impl1_out m (by omega) (fun hm => h ⟨by omega, by omega, by omega, by simp; omega⟩) w
          · exact put_impl2_out m (by omega) (fun hm => h ⟨by omega, by omega, by omega, by simp; omega⟩) w
          · exact put_impl3_out m (by omega) (fun hm => h ⟨by omega, by omega, by omega, by simp; omega⟩) w
          · exact absurd ⟨by omega, by omega, by omega, by simp; omega⟩ h

/-- What PutWord returns. -/
noncomputable def putS (n k : Int) : ByteArray := open Classical in if PutOk n k then ⟨(putB n.toNat k.toNat).toArray⟩ else ⟨#[]⟩
theorem put_impl (n k : Int) (w : World) :
    Calls Try.prog 83 #[.int .i64 n, .int .i64 k] w fun e w' => e = .returned (.string (putS n k)) ∧ Below w.heap.size w w' := by
  by_cases h : PutOk n k
  · unfold putS
    rw [if_pos h]
    obtain ⟨m, rfl⟩ := Int.eq_ofNat_of_zero_le h.2.2.1
    obtain ⟨j, rfl⟩ := Int.eq_ofNat_of_zero_le (show 0 ≤ k by have := h.1; omega)
    have h4 : (m : Int) < ((256 ^ j : Nat) : Int) := by have h4 := h.2.2.2; rw [Int.toNat_natCast] at h4; rw [Int.natCast_pow]; exact h4
    exact put_impl_yes m j (by have := h.1; omega) (by have := h.2.1; omega) (by omega) w
  · unfold putS
    rw [if_neg h]
    exact put_impl_no n k h w
end Go.Proofs.Ytckofkdeedbbgaa
/- What this text proves: the contract of the model's EncodePacket. -/
namespace Go.Proofs.Ytckofkdeedbbgaa
open Go.ChangeShapes Go.WideShapes Go.ChangeAt Go.RowKit
set_option linter.unusedVariables false

theorem putS_four_le (n k : Int) : (putS n k).size ≤ 4 := by
  unfold putS
  split
  · rename_i h
    have h2 := h.2.1
    show ((putB n.toNat k.toNat).toArray).size ≤ 4
    rw [List.size_toArray, putB_len]
    omega
  · show (#[] : Array UInt8).size ≤ 4
    decide
/-- What EncodePacket returns. -/
noncomputable def pkT (a q : Int) (d : ByteArray) : ByteArray := if PkOk a q d then putS a 1 ++ putS q 2 ++ putS (d.size : Int) 1 ++ d else ⟨#[]⟩

/-- A world behind another, in which block g holds cells. -/
structure Fit (w W : World) (g : Nat) (vs : List Value) : Prop where
  below : Below w.heap.size w W
  box : Box W g vs
theorem Fit.more {w W W' : World} {g : Nat} {vs : List Value} (h : Fit w W g vs) (hb : Below W.heap.size W W') : Fit w W' g vs := ⟨h.below.trans (hb.mono h.below.size), h.box.more hb⟩
theorem Fit.drew {w W : World} {g : Nat} {vs : List Value} (h : Fit w W g vs) : Fit w W.drew g vs := h.more (Below.refl _ _).drew
theorem Fit.made (w : World) (vs : List Value) (T : TypeId) : Fit w (w.alloc (.cells vs.toArray T)) w.heap.size vs := ⟨(Below.refl _ w).alloc (Nat.le_refl _) _, Box.made w vs T _ rfl⟩
/-- The cells of a packet, each on its own. -/
abbrev Cells3 (W : World) (g : Nat) (x y z : Value) : Prop := W.cell? ⟨g, 0, none⟩ = some x ∧ W.cell? ⟨g, 1, none⟩ = some y ∧ W.cell? ⟨g, 2, none⟩ = some z
theorem Box.three {W : World} {g : Nat} {x y z : Value} (h : Box W g [x, y, z]) : Cells3 W g x y z := ⟨h.cell 0 (by simp), h.cell 1 (by simp), h.cell 2 (by simp)⟩

end Go.Proofs.Ytckofkdeedbbgaa
/- What this text proves: a board as a value, and what makes it valid. -/
namespace Go.Proofs.Ytckofkdeedbbgaa
open Go.ChangeShapes Go.WideShapes Go.ChangeAt Go.RowKit
set_option linter.unusedVariables false

structure Bd where
  cl : Int
  ps : List Int
  sf : Bool
  ls : List Lm
  os : List Wt
  ds : List Dn
  r : Int
  rs : List Rc
  xs : List Int
  md : Int
  tk : Int
  qs : List Int
structure BdA where
  aP : Option Addr
  cP : Nat
  aL : Option Addr
  cL : Nat
  aO : Option Addr
  cO : Nat
  aD : Option Addr
  cD : Nat
  aR : Option Addr
  cR : Nat
  aX : Option Addr
  cX : Nat
  aQ : Option Addr
  cQ : Nat
abbrev bdL (b : Bd) (a : BdA) : List Value := [.int .i64 b.cl, .slice a.aP b.ps.length a.cP, .bool b.sf, .slice a.aL b.ls.length a.cL, .slice a.aO b.os.length a.cO, .slice a.aD b.ds.length a.cD, .int .i64 b.r, .slice a.aR b.rs.length a.cR, .slice a.aX b.xs.length a.cX, .int .i64 b.md, .int .i64 b.tk, .slice a.aQ b.qs.length a.cQ]
abbrev bdV (b : Bd) (a : BdA) : Value := .agg #[.int .i64 b.cl, .slice a.aP b.ps.length a.cP, .bool b.sf, .slice a.aL b.ls.length a.cL, .slice a.aO b.os.length a.cO, .slice a.aD b.ds.length a.cD, .int .i64 b.r, .slice a.aR b.rs.length a.cR, .slice a.aX b.xs.length a.cX, .int .i64 b.md, .int .i64 b.tk, .slice a.aQ b.qs.length a.cQ]
/-- The lists of a board are there to be read. -/
structure BdAt (w : World) (B : Nat) (b : Bd) (a : BdA) : Prop where
  ps : LsI 1 w B a.aP (b.ps.map inC)
  ls : LsI 3 w B a.aL (b.ls.map lmC)
  os : LsI 5 w B a.aO (b.os.map wtC)
  ds : LsI 3 w B a.aD (b.ds.map dnC)
  rs : LsI 4 w B a.aR (b.rs.map rcC)
  xs : LsI 1 w B a.aX (b.xs.map inC)
  qs : LsI 1 w B a.aQ (b.qs.map inC)
theorem BdAt.full {w w' : World} {b : Bd} {a : BdA} (h : BdAt w w.heap.size b a) (hb : Below w.heap.size w w') : BdAt w' w'.heap.size b a := ⟨h.ps.full hb, h.ls.full hb, h.os.full hb, h.ds.full hb, h.rs.full hb, h.xs.full hb, h.qs.full hb⟩
theorem BdAt.more {w w' : World} {B : Nat} {b : Bd} {a : BdA} (h : BdAt w B b a) (hb : Below B w w') : BdAt w' B b a := ⟨h.ps.more hb, h.ls.more hb, h.os.more hb, h.ds.more hb, h.rs.more hb, h.xs.more hb, h.qs.more hb⟩
/-- Its lists are short enough to be walked. -/
structure BdSz (b : Bd) : Prop where
  ps : b.ps.length ≤ 2000000
  ls : b.ls.length ≤ 2000000
  os : b.os.length ≤ 2000000
  ds : b.ds.length ≤ 2000000
  rs : b.rs.length ≤ 2000000
  tot : totRc b.rs b.rs.length ≤ 4000000
  xs : b.xs.length ≤ 2000000
  qs : b.qs.length ≤ 2000000
structure BrdOk (b : Bd) : Prop where
  cl : 0 ≤ b.cl ∧ b.cl ≤ 1000000
  md : (0 ≤ b.md ∧ b.md ≤ 65535)
  tk : (0 ≤ b.tk ∧ b.tk ≤ 65535)
  p8 : b.ps.length = 8
  ps : Within b.ps 0 65535
  q5 : b.qs.length ≤ 5000
  qs : Within b.qs 0 7
  rok : RcrOk b.r b.rs b.xs
  ids : ∀ j (hj : j < b.rs.length), b.rs[j].1 < b.md
  ls : LimsOk b.ls ∧ b.ls.length ≤ 8
  os : b.os.length ≤ 40 ∧ OrdTo b.tk b.os b.os.length
  ds : DnsOk b.tk b.ds ∧ b.ds.length ≤ 5000
noncomputable def brdB (b : Bd) : Bool := @decide (BrdOk b) (Classical.propDecidable _)
theorem brdB_yes {b : Bd} (h : BrdOk b) : brdB b = true := by unfold brdB; exact @decide_eq_true _ (Classical.propDecidable _) h
theorem brdB_no {b : Bd} (h : ¬ BrdOk b) : brdB b = false := by unfold brdB; exact @decide_eq_false _ (Classical.propDecidable _) h
/-- A Bool that says whether a part holds: where it does not, the board is not valid. -/
theorem brdB_arm {b : Bd} {P : Prop} {t : Bool} (hp : BrdOk b → P) (ht : t = true ↔ P) (hf : t = false) : brdB b = false := brdB_no (fun h => by
  have := ht.2 (hp h)
  rw [hf] at this
  exact Bool.noConfusion this)
theorem winB_iff {d : List Int} {a b : Int} : winB d a b = true ↔ Within d a b := by
  by_cases h : Within d a b
  · simp [winB_yes h, h]
  · simp [winB_no h, h]
theorem limB_iff {l : List Lm} : limB l = true ↔ (LimsOk l ∧ l.length ≤ 8) := by
  by_cases h : LimsOk l ∧ l.length ≤ 8
  · simp only [limB_yes h, true_iff]; exact h
  · simp only [limB_no h, Bool.false_eq_true, false_iff]; exact h
theorem dnB_iff {T : Int} {l : List Dn} : dnB T l = true ↔ (DnsOk T l ∧ l.length ≤ 5000) := by
  by_cases h : DnsOk T l ∧ l.length ≤ 5000
  · simp only [dnB_yes h, true_iff]; exact h
  · simp only [dnB_no h, Bool.false_eq_true, false_iff]; exact h
theorem ordB_iff {T : Int} {l : List Wt} : ordB T l = true ↔ (l.length ≤ 40 ∧ OrdTo T l l.length) := by
  by_cases h : l.length ≤ 40 ∧ OrdTo T l l.length
  · simp only [ordB_yes h, true_iff]; exact h
  · simp only [ordB_no h, Bool.false_eq_true, false_iff]; exact h
/-- The last Id is the greatest. -/
theorem upTo_lt {l : List Rc} {m : Nat} (h : UpTo l l.length) (hm : l.length = m + 1) : ∀ j (hj : j < l.length), l[j].1 ≤ (l[m]'(by omega)).1 := by
  have hs : ∀ d j (hj : j + d < l.length), (l[j]'(by omega)).1 ≤ (l[j + d]'hj).1 := by
    intro d
    induction d with
    | zero => intro j hj; exact Int.le_refl _
    | succ d ih =>
      intro j hj
      have h1 := ih j (by omega)
      have h2 := (upTo_at h (k := j + d + 1) hj hj).2
      have h3 : befR l (j + d + 1) = (l[j + d]'(by omega)).1 := by
        show (l.getD (j + d) rc0).1 = _
        rw [getRc_at (show j + d < l.length by omega)]
      rw [h3] at h2
      have h4 : (l[j + d + 1]'hj).1 = (l[j + (d + 1)]'hj).1 := rfl
      omega
  intro j hj
  have := hs (m - j) j (by omega)
  have e : j + (m - j) = m := by omega
  simp only [e] at this
  exact this
theorem ids_iff {b : Bd} {m : Nat} (h : UpTo b.rs b.rs.length) (hm : b.rs.length = m + 1) : (b.rs[m]'(by omega)).1 < b.md ↔ ∀ j (hj : j < b.rs.length), b.rs[j].1 < b.md :=
  ⟨fun g j hj => by have := upTo_lt h hm j hj; omega, fun g => g m (by omega)⟩
end Go.Proofs.Ytckofkdeedbbgaa
/- What this text proves: the contracts of the laws' own functions over a list of numbers that was handed to them: its size, its copy. -/
namespace Go.Proofs.Ytckofkdeedbbgaa
open Go.ChangeShapes Go.WideShapes Go.ChangeAt Go.RowKit
set_option linter.unusedVariables false


theorem LsI.ints {w : World} {B : Nat} {A : Option Addr} {l : List Int} (h : LsI 1 w B A (l.map inC)) : IntsAt w B A l := by
  rcases Nat.eq_zero_or_pos l.length with h0 | h0
  · exact .inl h0
  · exact .inr (inCellsI h h0)
theorem to_ins (A : Option Addr) (l : List Int) (c : Nat) (hl : l.length ≤ 1048576) (w : World) (h : LsI 1 w w.heap.size A (l.map inC)) :
    Calls Try.prog 102 #[.slice A l.length c] w fun e w' => ∃ v, e = .returned v ∧ OwnIn w' w.heap.size v l ∧ Below w.heap.size w w' :=
  (toI_any A l c hl w h.ints).mono fun e w' ⟨v, h1, h2, h3⟩ => ⟨v, h1, h2.toO, h3⟩
end Go.Proofs.Ytckofkdeedbbgaa
