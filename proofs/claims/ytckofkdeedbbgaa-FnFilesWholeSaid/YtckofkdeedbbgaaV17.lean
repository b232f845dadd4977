/- What this text proves: the parts SgBk, Fo, InC of the proof, each under its own words. -/
import Derived.Test.YtckofkdeedbbgaaV09
import Derived.Test.YtckofkdeedbbgaaV16
import Derived.Test.YtckofkdeedbbgaaV12
import Derived.Test.YtckofkdeedbbgaaV14
import Derived.Test.YtckofkdeedbbgaaV15
import Derived.Test.YtckofkdeedbbgaaV06
import Derived.Lib.SliceRun
/- What this text proves: segments, ends and lists of missing segments are decoded from their bytes; the segments of a file make the file. -/
namespace Go.Proofs.Ytckofkdeedbbgaa
open Go.ChangeShapes Go.WideShapes Go.ChangeAt Go.RowKit
set_option linter.unusedVariables false

theorem size_list6 (s : ByteArray) : s.size = s.data.toList.length := by simp
theorem list_inj6 {s t : ByteArray} (h : s.data.toList = t.data.toList) : s = t := ByteArray.ext (Array.toList_inj.1 h)
theorem app_list6 (s t : ByteArray) : (s ++ t).data.toList = s.data.toList ++ t.data.toList := by rw [ByteArray.data_append, Array.toList_append]
theorem ext_list6 (s : ByteArray) (a b : Nat) : (s.extract a b).data.toList = (s.data.toList.drop a).take (b - a) := by
  rw [ByteArray.data_extract, Array.toList_extract, List.extract_eq_take_drop]
theorem byteAt_list6 {l : List UInt8} {s : ByteArray} (h : s.data.toList = l) (j : Nat) (hj : j < l.length) : byteAt s j = (l.getD j 0).toNat := by
  unfold byteAt
  rw [h]
theorem put_list6 (n k : Nat) (hk1 : 1 ≤ k) (hk : k ≤ 4) (h : n < 256 ^ k) : (putS (n : Int) (k : Int)).data.toList = putB n k := by
  unfold putS
  obtain rfl | rfl | rfl | rfl : k = 1 ∨ k = 2 ∨ k = 3 ∨ k = 4 := by omega
  all_goals
    rw [if_pos ⟨by decide, by decide, by omega, by simp; omega⟩]
    rfl
theorem esT_list {f k : Nat} {d : ByteArray} (h : EsOk f k d) : (esT f k d).data.toList = [0, byteN f 0, byteN k 0] ++ d.data.toList := by
  obtain ⟨h1, h2, h3⟩ := id h
  have e0 := put_list6 0 1 (by omega) (by omega) (by omega)
  have e1 := put_list6 f 1 (by omega) (by omega) (by omega)
  have e2 := put_list6 k 1 (by omega) (by omega) (by omega)
  rw [esT_yes h, app_list6, app_list6, app_list6]
  rw [show (1 : Int) = ((1 : Nat) : Int) from rfl, show (0 : Int) = ((0 : Nat) : Int) from rfl, e0, e1, e2]
  rfl
theorem decS_back {f k : Int} {d : ByteArray} (h : EsOk f k d) : decS (esT f k d) = (f, k, d, true) ∧ (esT f k d).size = 3 + d.size := by
  obtain ⟨h1, h2, h3⟩ := id h
  obtain ⟨f, rfl⟩ := Int.eq_ofNat_of_zero_le h1.1
  obtain ⟨k, rfl⟩ := Int.eq_ofNat_of_zero_le h2.1
  have hl := esT_list h
  have hz : (esT (f : Int) (k : Int) d).size = 3 + d.size := by rw [size_list6, hl, List.length_append, ← size_list6]; rfl
  refine ⟨?_, hz⟩
  generalize hs : esT (f : Int) (k : Int) d = s at *
  have hb : ∀ j, j < 3 → byteAt s j = ([0, byteN f 0, byteN k 0].getD j 0).toNat := fun j hj => by
    rw [byteAt_list6 hl j (by simp; omega), List.getD_eq_getElem?_getD, List.getElem?_append_left (by simpa using hj), ← List.getD_eq_getElem?_getD]
  have b1 : byteAt s 1 = f := by rw [hb 1 (by decide)]; show (byteN f 0).toNat = _; rw [byteN_val]; simp; omega
  have b2 : byteAt s 2 = k := by rw [hb 2 (by decide)]; show (byteN k 0).toNat = _; rw [byteN_val]; simp; omega
  have hx : s.extract 3 s.size = d := by
    apply list_inj6
    rw [ext_list6, hl, show s.size - 3 = d.data.toList.length by rw [hz, ← size_list6]; omega]
    show (d.data.toList).take d.data.toList.length = _
    rw [List.take_length]
  rw [decS_yes ⟨by omega, by rw [b1, b2, hx, hs]; exact beq_self_eq_true _⟩, b1, b2, hx]
theorem eeT_list {f : Nat} {d : ByteArray} (h : EeOk f d) : (eeT f d).data.toList = [1, byteN f 0, byteN d.size 1, byteN d.size 0, byteN (crc d) 1, byteN (crc d) 0] := by
  obtain ⟨h1, h2⟩ := id h
  have h3 := crc_lt d
  have e0 := put_list6 1 1 (by omega) (by omega) (by omega)
  have e1 := put_list6 f 1 (by omega) (by omega) (by omega)
  have e2 := put_list6 d.size 2 (by omega) (by omega) (by omega)
  have e3 := put_list6 (crc d) 2 (by omega) (by omega) (by omega)
  rw [eeT_yes h, app_list6, app_list6, app_list6]
  rw [show (1 : Int) = ((1 : Nat) : Int) from rfl, show (2 : Int) = ((2 : Nat) : Int) from rfl, e0, e1, e2, e3]
  rfl
theorem decE_back {f : Int} {d : ByteArray} (h : EeOk f d) : decE (eeT f d) = (f, (d.size : Int), ((crc d : Nat) : Int), true) ∧ (eeT f d).size = 6 := by
  obtain ⟨h1, h2⟩ := id h
  have h3 := crc_lt d
  obtain ⟨f, rfl⟩ := Int.eq_ofNat_of_zero_le h1.1
  have hl := eeT_list h
  have hz : (eeT (f : Int) d).size = 6 := by rw [size_list6, hl]; rfl
  refine ⟨?_, hz⟩
  generalize eeT (f : Int) d = s at *
  generalize crc d = K at *
  generalize hn : d.size = n at *
  have b0 : byteAt s 0 = 1 := by rw [byteAt_list6 hl 0 (by simp)]; rfl
  have b1 : byteAt s 1 = f := by rw [byteAt_list6 hl 1 (by simp)]; show (byteN f 0).toNat = _; rw [byteN_val]; simp; omega
  have b2 : byteAt s 2 = n / 256 % 256 := by rw [byteAt_list6 hl 2 (by simp)]; show (byteN n 1).toNat = _; rw [byteN_val]
  have b3 : byteAt s 3 = n % 256 := by rw [byteAt_list6 hl 3 (by simp)]; show (byteN n 0).toNat = _; rw [byteN_val]; simp
  have b4 : byteAt s 4 = K / 256 % 256 := by rw [byteAt_list6 hl 4 (by simp)]; show (byteN K 1).toNat = _; rw [byteN_val]
  have b5 : byteAt s 5 = K % 256 := by rw [byteAt_list6 hl 5 (by simp)]; show (byteN K 0).toNat = _; rw [byteN_val]; simp
  have v2 : valW s 2 2 = n := by simp only [valW]; rw [b2, b3]; omega
  have v3 : valW s 4 2 = K := by simp only [valW]; rw [b4, b5]; omega
  rw [decE_yes ⟨hz, b0, by rw [b1]; omega, by rw [v2]; omega⟩, b1, v2, v3]
/-- A list of two missing segments. -/
theorem decM_two {f a b : Int} (hf : 0 ≤ f ∧ f ≤ 7) (ha : 0 ≤ a ∧ a ≤ 24) (hb : 0 ≤ b ∧ b ≤ 24) : decM (emT f [a, b]) = (f, [a, b], true) := by
  have hok : EmOk f [a, b] := ⟨hf, by simp, fun k hk => by
    have hk2 : k < 2 := hk
    obtain rfl | rfl : k = 0 ∨ k = 1 := by omega
    · exact ha
    · exact hb⟩
  obtain ⟨f, rfl⟩ := Int.eq_ofNat_of_zero_le hf.1
  obtain ⟨a, rfl⟩ := Int.eq_ofNat_of_zero_le ha.1
  obtain ⟨b, rfl⟩ := Int.eq_ofNat_of_zero_le hb.1
  have e0 := put_list6 f 1 (by omega) (by omega) (by omega)
  have e1 := put_list6 a 1 (by omega) (by omega) (by omega)
  have e2 := put_list6 b 1 (by omega) (by omega) (by omega)
  have hl : (emT (f : Int) [(a : Int), (b : Int)]).data.toList = [byteN f 0, byteN a 0, byteN b 0] := by
    rw [emT_yes hok]
    show ((putS (f : Int) ((1 : Nat) : Int) ++ putS (a : Int) ((1 : Nat) : Int)) ++ putS (b : Int) ((1 : Nat) : Int)).data.toList = _
    rw [app_list6, app_list6, e0, e1, e2]
    rfl
  have hz : (emT (f : Int) [(a : Int), (b : Int)]).size = 3 := by rw [size_list6, hl]; rfl
  generalize hs : emT (f : Int) [(a : Int), (b : Int)] = s at *
  have b0 : byteAt s 0 = f := by rw [byteAt_list6 hl 0 (by simp)]; show (byteN f 0).toNat = _; rw [byteN_val]; simp; omega
  have b1 : byteAt s 1 = a := by rw [byteAt_list6 hl 1 (by simp)]; show (byteN a 0).toNat = _; rw [byteN_val]; simp; omega
  have b2 : byteAt s 2 = b := by rw [byteAt_list6 hl 2 (by simp)]; show (byteN b 0).toNat = _; rw [byteN_val]; simp; omega
  have ht : tlS s (s.size - 1) = [(a : Int), (b : Int)] := by
    rw [hz]
    show [((byteAt s (0 + 1) : Nat) : Int), ((byteAt s (1 + 1) : Nat) : Int)] = _
    rw [b1, b2]
  rw [decM_yes ⟨by omega, by rw [b0, ht, hs]; exact beq_self_eq_true _⟩, b0, ht]
/-- A segment of a file, at a place where there is one. -/
theorem segS_pos {d : ByteArray} {k : Int} (h : SegOk k d.size) : 1 ≤ (segS d k).size := by
  have := h.low
  have h0 := h.1
  unfold segS
  rw [if_pos h, ByteArray.size_extract]
  omega
theorem segS_ok {d : ByteArray} {k f : Int} (h : SegOk k d.size) (hf : 0 ≤ f ∧ f ≤ 7) : EsOk f k (segS d k) := by
  have h1 := h.low
  have h2 := segS_pos h
  have h3 := segS_size d k
  exact ⟨hf, ⟨h.1, h1.2.2.2⟩, by omega, by omega⟩
theorem seg_join (d : ByteArray) (k : Nat) (h : SegOk (k : Int) d.size) : d.extract 0 (24 * k) ++ segS d (k : Int) = d.extract 0 (24 * (k + 1)) := by
  unfold segS
  rw [if_pos h, Int.toNat_natCast, ByteArray.extract_append_extract]
  congr 1 <;> omega
theorem seg_all (d : ByteArray) (n : Nat) (h : cntS d.size = (n : Int)) (hd : d.size ≤ 600) : d.extract 0 (24 * n) = d := by
  rw [cntS_in (by omega)] at h
  apply list_inj6
  rw [ext_list6, List.drop_zero, List.take_of_length_le]
  rw [← size_list6]
  omega
end Go.Proofs.Ytckofkdeedbbgaa
/- What this text proves: senders of files as things that lie apart: their list; the laws' own functions over them. -/
namespace Go.Proofs.Ytckofkdeedbbgaa
open Go.ChangeShapes Go.WideShapes Go.ChangeAt Go.RowKit
set_option linter.unusedVariables false

abbrev foV (f : Int) (d : ByteArray) (b : Bool) (v : Value) : Value := .agg #[.int .i64 f, .string d, v, .bool b]
abbrev foL (f : Int) (d : ByteArray) (b : Bool) (v : Value) : List Value := [.int .i64 f, .string d, v, .bool b]
abbrev Cells4Fo (W : World) (g : Nat) (x y z u : Value) : Prop := W.cell? ⟨g, 0, none⟩ = some x ∧ W.cell? ⟨g, 1, none⟩ = some y ∧ W.cell? ⟨g, 2, none⟩ = some z ∧ W.cell? ⟨g, 3, none⟩ = some u
theorem Box.fourFo {W : World} {g : Nat} {x y z u : Value} (h : Box W g [x, y, z, u]) : Cells4Fo W g x y z u := ⟨h.cell 0 (by simp), h.cell 1 (by simp), h.cell 2 (by simp), h.cell 3 (by simp)⟩
/-- The blocks of its list. -/
def blkFo (v : Value) (k : Nat) : Prop := ∃ f d b u, v = foV f d b u ∧ u.ownBlock = some k
theorem blkFo_iff {f : Int} {d : ByteArray} {b : Bool} {u : Value} {k : Nat} : blkFo (foV f d b u) k ↔ u.ownBlock = some k := by
  constructor
  · rintro ⟨f', d', b', u', e, h⟩
    simp only [foV, Value.agg.injEq, Array.mk.injEq, List.cons.injEq, and_true] at e
    obtain ⟨e0, e1, e2, e3⟩ := e
    subst e2
    exact h
  · intro h
    exact ⟨f, d, b, u, rfl, h⟩
/-- A struct with a list of its own. -/
def foT (v : Value) (f : Int) (d : ByteArray) (b : Bool) (l : List Int) : Thing where
  F := blkFo v
  P := fun W => ∃ A q, v = foV f d b (.slice A l.length q) ∧ LsO 1 W 0 (.slice A l.length q) (l.map inC)
  lt := fun W h k hk => by
    obtain ⟨A, q, rfl, h1⟩ := h
    exact (h1.up k (blkFo_iff.1 hk)).2
  keep := fun W W' S h ht hne => by
    obtain ⟨A, q, rfl, h1⟩ := h
    exact ⟨A, q, rfl, LsO.touch h1 ht (fun k hk => hne k (blkFo_iff.2 hk))⟩
/-- A struct whose list bears n marks from M on. -/
def foM (v : Value) (M n : Nat) : Thing where
  F := blkFo v
  P := fun W => ∃ f d b A q, v = foV f d b (.slice A n q) ∧ LsO 1 W 0 (.slice A n q) ((List.range n).map (mkIn M))
  lt := fun W h k hk => by
    obtain ⟨f, d, b, A, q, rfl, h1⟩ := h
    exact (h1.up k (blkFo_iff.1 hk)).2
  keep := fun W W' S h ht hne => by
    obtain ⟨f, d, b, A, q, rfl, h1⟩ := h
    exact ⟨f, d, b, A, q, rfl, LsO.touch h1 ht (fun k hk => hne k (blkFo_iff.2 hk))⟩
/-- What is left of a limit. -/
def szW (n L : Nat) : Int := if n ≤ L then ((L - n : Nat) : Int) else -1
theorem szW_yes {n L : Nat} (h : n ≤ L) : szW n L = ((L - n : Nat) : Int) := if_pos h
theorem szW_no {n L : Nat} (h : ¬ n ≤ L) : szW n L = -1 := if_neg h

end Go.Proofs.Ytckofkdeedbbgaa
/- What this text proves: the contract of slices.Clone over lists of numbers. -/
namespace Go.Proofs.Ytckofkdeedbbgaa
open Go.ChangeShapes Go.WideShapes Go.ChangeAt Go.RowKit
set_option linter.unusedVariables false


set_option maxHeartbeats 1000000 in
theorem clone_ins (A : Option Addr) (l : List Int) (k : Nat) (hl : l.length ≤ 1099511) (w : World) (h : LsI 1 w w.heap.size A (l.map inC)) :
    Calls Try.prog 121 #[.slice A l.length k] w fun e w' => ∃ A1 c1, e = .returned (.slice A1 l.length c1) ∧ OwnR 3 1 w' w.heap.size (.slice A1 l.length c1) (l.map inC) ∧ Below w.heap.size w w' := by
  have hq : ∀ (w : World) (a : Option Addr) (n c n' c' : Nat), (binOp .eql 24 (.slice a n c) (.slice none n' c')).run Try.prog w = .ok (.bool a.isNone) w := fun w a n c n' c' => Lib.run_eql_slice_nil w _ _ a n c n' c' Try.underlying24
  have HB := Lib.hid ((Below.refl _ w).alloc (Nat.le_refl _) (.cells #[] 3))
  have HE := Lib.hid (OwnR.empty (E := 3) (sz := 1) w w.heap.size (Nat.le_refl _))
  cases A with
  | none =>
    have h0 : l = [] := by
      rcases h with h0 | ⟨b, off, hA, _⟩
      · rw [List.length_map] at h0; exact List.eq_nil_of_length_eq_zero h0
      · cases hA
    subst h0
    clear h
    go_enter Try.func121, Try.ntmps121
    go_wp2
    go_ret
    exact ⟨none, 0, rfl, OwnR.nil _ _ _ _, Below.refl _ _⟩
  | some a =>
    have HI := Lib.hid ((h.more HB.out).rows (in_len l))
    obtain ⟨i, hi, hz0, hz1, hz2⟩ := info_parts info_int
    have Hi := Lib.hid hi
    have Hz0 := Lib.hid hz0
    have Hz1 := Lib.hid hz1
    have Hz2 := Lib.hid hz2
    clear h hi hz0 hz1 hz2
    go_enter Try.func121, Try.ntmps121
    go_wp2_with (at_builtin; go_loud (refine app_rows 3 24 1 8 (.int .i64 0) i _ rfl _ _ rfl Try.underlying24 Hi.out Hz0.out Hz1.out Hz2.out rfl (by decide) (by decide) w.heap.size (.slice (some ⟨w.heap.size, 0, none⟩) 0 0) [] rfl HE.out (some a) (l.map inC) k (by rw [List.length_map]; rfl) (in_len l) (in_one l) HI.out (by simpa using hl) (by simp) ?_))
    intro v w2 hown hg _
    replace hown : OwnR 3 1 w2 w.heap.size v (l.map inC) := hown
    obtain ⟨A2, c2, rfl⟩ := hown.form
    rw [List.length_map] at hown ⊢
    have HO := Lib.hid hown
    have HB2 := Lib.hid (HB.out.grown hg (by simp) fun k hk => (World.ownsRow.lt HE.out.1 k hk).1)
    clear hown hg
    go_wp2
    go_ret
    exact ⟨_, _, rfl, HO.out, HB2.out⟩
end Go.Proofs.Ytckofkdeedbbgaa
