/- What this text proves: the parts PaMath, FrmS, MarkT, PktM of the proof, each under its own words. -/
import Derived.Test.YtegahdlfjdjcaaaV08
import Derived.Test.YtegahdlfjdjcaaaV17
import Derived.Test.YtegahdlfjdjcaaaV19
import Derived.Test.YtegahdlfjdjcaaaV20
import Derived.Test.YtegahdlfjdjcaaaV21
import Derived.Test.YtegahdlfjdjcaaaV26
import Derived.Test.YtegahdlfjdjcaaaV00
import Derived.Test.YtegahdlfjdjcaaaV11
import Derived.Laws.Concat
import Derived.Deep.RegionLaw
import Derived.Deep.LoopGhost
import Derived.BigRegion
import Derived.Outline
import Derived.WalkKit
import Derived.LoopTactic
import Derived.IntWalk
import Derived.OwnWalk
import Derived.Laws.AppendOwn
import Derived.Laws.OwnMore
import Derived.Lib.Hide
import Derived.Test.YtegahdlfjdjcaaaV02
/- What this text proves: what is packed, filled and taken, and that a frame is read from its bytes, and not with one byte changed. -/
namespace Go.Proofs.Ytegahdlfjdjcaaa
open Go.ChangeShapes Go.WideShapes Go.ChangeAt Go.RowKit
set_option linter.unusedVariables false

theorem pa_empty {x : Int} (h0 : 0 ≤ x) (h1 : x ≤ 255) : PaOk 0 x ⟨#[]⟩ [] := ⟨fun i hi => absurd hi (Nat.not_lt_zero _), by decide, ⟨h0, h1⟩, by decide⟩
/-- A packet that there is room for is packed. -/
theorem pack_ok {c n : Int} {r : ByteArray} {l : List Int} {a q : Int} {d : ByteArray} (h : PaOk c n r l) (hp : PkOk a q d) (hs : r.size + (4 + d.size) ≤ 5000) : PackOk c n r l a q d := by
  have hz : (r ++ pkT a q d).size = r.size + (4 + d.size) := by rw [ByteArray.size_append, pkT_size hp]
  refine ⟨h, hp, ?_, h.2.1, h.2.2.1, by omega⟩
  rw [hz, List.length_append]
  intro i hi
  have hi' : i < l.length + 1 := hi
  by_cases hl : i < l.length
  · have h1 := h.1 i hl
    have e1 : (l ++ [(r.size : Int)]).getD i 0 = l.getD i 0 := by rw [List.getD_eq_getElem?_getD, List.getD_eq_getElem?_getD, List.getElem?_append_left hl]
    have e2 : (l ++ [(r.size : Int)]).getD (i - 1) 0 = l.getD (i - 1) 0 := by rw [List.getD_eq_getElem?_getD, List.getD_eq_getElem?_getD, List.getElem?_append_left (by omega)]
    rw [e1, e2]
    exact ⟨⟨h1.1.1, by have := h1.1.2; omega⟩, h1.2⟩
  · obtain rfl : i = l.length := by omega
    have e1 : (l ++ [(r.size : Int)]).getD l.length 0 = (r.size : Int) := by rw [List.getD_eq_getElem?_getD, List.getElem?_append_right (Nat.le_refl _), Nat.sub_self]; rfl
    rw [e1]
    refine ⟨⟨by omega, by omega⟩, fun h0 => ?_⟩
    have e2 : (l ++ [(r.size : Int)]).getD (l.length - 1) 0 = l.getD (l.length - 1) 0 := by rw [List.getD_eq_getElem?_getD, List.getD_eq_getElem?_getD, List.getElem?_append_left (by omega)]
    rw [e2]
    have := (h.1 (l.length - 1) (by omega)).1.2
    omega
theorem packed {c n : Int} {r : ByteArray} {l : List Int} {a q : Int} {d : ByteArray} (h : PaOk c n r l) (hp : PkOk a q d) (hs : r.size + (4 + d.size) ≤ 5000) :
    packB c n r l a q d = true ∧ packR c n r l a q d = r ++ pkT a q d ∧ packL c n r l a q d = l ++ [(r.size : Int)] ∧ PaOk c n (packR c n r l a q d) (packL c n r l a q d) := by
  have hk := pack_ok h hp hs
  have hb := packB_yes hk
  have hR : packR c n r l a q d = r ++ pkT a q d := by unfold packR; rw [hb]; rfl
  have hL : packL c n r l a q d = l ++ [(r.size : Int)] := by unfold packL; rw [hb]; rfl
  exact ⟨hb, hR, hL, by rw [hR, hL]; exact hk.2.2⟩
/-- The packet with which a packer is filled, if it is. -/
def idleQ (z : Nat) : List Pk := if z % 24 = 0 then [] else [(15, 0, zerosT (fillN z))]
theorem fillN_le (z : Nat) : fillN z ≤ 23 := by unfold fillN; split <;> omega
theorem idle_ok (z : Nat) : PkOk 15 0 (zerosT (fillN z)) := ⟨by decide, by decide, by rw [zeros_size]; have := fillN_le z; omega⟩
theorem idleQ_ok (z : Nat) : (∀ p ∈ idleQ z, OkQ p) ∧ realQ (idleQ z) = [] := by
  unfold idleQ
  split
  · exact ⟨(fun p h => by cases h), rfl⟩
  · exact ⟨fun p h => by rw [List.mem_singleton.1 h]; exact idle_ok z, rfl⟩
theorem filled {c n : Int} {r : ByteArray} {l : List Int} (h : PaOk c n r l) (hs : r.size ≤ 4900) :
    fillR c n r l = r ++ encQ (idleQ r.size) ∧ fillL c n r l = l ++ (if r.size % 24 = 0 then [] else [(r.size : Int)]) ∧ PaOk c n (fillR c n r l) (fillL c n r l) ∧ (fillR c n r l).size % 24 = 0 ∧ r.size ≤ (fillR c n r l).size ∧ (fillR c n r l).size ≤ r.size + 27 := by
  unfold fillR fillL idleQ
  by_cases h0 : r.size % 24 = 0
  · rw [if_pos h0, if_pos h0, if_pos h0, if_pos h0]
    exact ⟨(app_nil r).symm, (List.append_nil l).symm, h, h0, Nat.le_refl _, Nat.le_add_right _ _⟩
  · rw [if_neg h0, if_neg h0, if_neg h0, if_neg h0]
    have hf := fillN_le r.size
    have hz := zeros_size (fillN r.size)
    obtain ⟨_, hR, hL, hP⟩ := packed h (idle_ok r.size) (by rw [hz]; omega)
    have hzz : (packR c n r l 15 0 (zerosT (fillN r.size))).size = r.size + (4 + fillN r.size) := by rw [hR, ByteArray.size_append, pkT_size (idle_ok r.size), hz]
    refine ⟨by rw [hR, encQ_one], hL, hP, ?_, ?_, ?_⟩
    all_goals rw [hzz]
    · unfold fillN; split <;> omega
    · omega
    · omega
theorem first_in {z : Nat} {l : List Int} (h : PaTo z l l.length) : (0 ≤ firstI l ∧ firstI l ≤ 23) ∨ firstI l = 255 := by
  unfold firstI
  split
  · rename_i hh
    have := (h 0 hh.1).1.1
    exact .inl ⟨this, by omega⟩
  · exact .inr rfl
theorem taken {c n : Int} {r : ByteArray} {l : List Int} (h : PaOk c n r l) (hs : 24 ≤ r.size) :
    tkB c n r l = true ∧ tkN c n r l = (n + 1) % 256 ∧ tkR c n r l = r.extract 24 r.size ∧ tkL c n r l = laterK l l.length ∧ tkF c n r l = (c, n, firstI l, r.extract 0 24) ∧ FrOk c n (firstI l) (r.extract 0 24) := by
  have hb := tkB_yes ⟨h, hs⟩
  unfold tkN tkR tkL tkF
  rw [hb]
  exact ⟨rfl, rfl, rfl, rfl, rfl, h.2.1, h.2.2.1, first_in h.1, by rw [ByteArray.size_extract]; omega⟩
theorem frT_list {c n f : Nat} {d : ByteArray} (h : FrOk c n f d) : (putS (c : Int) 1 ++ putS (n : Int) 1 ++ putS (f : Int) 1 ++ d).data.toList = [byteN c 0, byteN n 0, byteN f 0] ++ d.data.toList := by
  have h1 := h.1.2; have h2 := h.2.1.2; have h3 := h.2.2.1
  rw [app_list, app_list, app_list, put_one c (by omega), put_one n (by omega), put_one f (by omega)]
  rfl
/-- A frame is read from its bytes. -/
theorem decF_back {c n f : Int} {d : ByteArray} (h : FrOk c n f d) : decF (frT c n f d) = (c, n, f, d, true) ∧ (frT c n f d).size = 29 := by
  obtain ⟨c, rfl⟩ := Int.eq_ofNat_of_zero_le h.1.1
  obtain ⟨n, rfl⟩ := Int.eq_ofNat_of_zero_le h.2.1.1
  obtain ⟨f, rfl⟩ := Int.eq_ofNat_of_zero_le (show 0 ≤ f by have := h.2.2.1; omega)
  have h1 := h.1.2; have h2 := h.2.1.2; have h3 := h.2.2.1; have h4 := h.2.2.2
  have hT : frT (c : Int) n f d = sealS (putS (c : Int) 1 ++ putS (n : Int) 1 ++ putS (f : Int) 1 ++ d) := by unfold frT; rw [if_pos h]
  have hl : (putS (c : Int) 1 ++ putS (n : Int) 1 ++ putS (f : Int) 1 ++ d).data.toList = [byteN c 0, byteN n 0, byteN f 0] ++ d.data.toList := frT_list h
  rw [hT]
  generalize putS (c : Int) 1 ++ putS (n : Int) 1 ++ putS (f : Int) 1 ++ d = t at *
  have hz : t.size = 27 := by rw [size_list, hl, List.length_append, ← size_list, h4]; rfl
  have b0 : byteAt t 0 = c := by unfold byteAt; rw [hl]; show (byteN c 0).toNat = c; rw [byteN_val]; simp; omega
  have b1 : byteAt t 1 = n := by unfold byteAt; rw [hl]; show (byteN n 0).toNat = n; rw [byteN_val]; simp; omega
  have b2 : byteAt t 2 = f := by unfold byteAt; rw [hl]; show (byteN f 0).toNat = f; rw [byteN_val]; simp; omega
  have hx : t.extract 3 t.size = d := by
    apply list_inj
    rw [ext_list, hl, hz]
    show d.data.toList.take 24 = _
    rw [← h4, size_list, List.take_length]
  refine ⟨?_, by rw [sealS_size, hz]⟩
  rw [decF_yes (open_seal t) ⟨hz, by rw [b0, b1, b2, hx]; exact h⟩, b0, b1, b2, hx]
theorem decF_turned {c n f : Int} {d : ByteArray} (h : FrOk c n f d) (t : ByteArray) (j : Nat) (x : UInt8) (hj : j < (frT c n f d).data.toList.length) (hx : x ≠ (frT c n f d).data.toList[j]) (ht : t.data.toList = (frT c n f d).data.toList.set j x) :
    decF t = (0, 0, 0, ⟨#[]⟩, false) := by
  have hT : frT c n f d = sealS (putS c 1 ++ putS n 1 ++ putS f 1 ++ d) := by unfold frT; rw [if_pos h]
  simp only [hT] at hj hx ht
  exact decF_no (open_turned _ t j x hj hx ht) (fun h => by cases h.1)
theorem openV_size (s : ByteArray) (h : (openV s).2 = true) : (openV s).1.size + 2 = s.size := by
  by_cases ho : OpenOk s
  · rw [openV_yes ho, ByteArray.size_extract]; have := ho.1; omega
  · rw [openV_no ho] at h; exact absurd h (by simp)
/-- A text of more bytes is no frame. -/
theorem decF_long {s : ByteArray} (h : s.size ≠ 29) : decF s = (0, 0, 0, ⟨#[]⟩, false) :=
  decF_no (t := (openV s).1) (b := (openV s).2) rfl fun hh => by have h1 := openV_size s hh.1; have h2 := hh.2.1; omega
theorem set_size {s t : ByteArray} {j : Nat} {x : UInt8} (ht : t.data.toList = s.data.toList.set j x) : t.size = s.size := by rw [size_list, ht, List.length_set, ← size_list]
end Go.Proofs.Ytegahdlfjdjcaaa
/- What this text proves: the contract of the laws' own comparison of lists of frames: two lists that hold the same frames are found equal. -/
namespace Go.Proofs.Ytegahdlfjdjcaaa
open Go.ChangeShapes Go.WideShapes Go.ChangeAt Go.RowKit
set_option linter.unusedVariables false

abbrev frC (p : Int × Int × Int × ByteArray) : List Value := [.int .i64 p.1, .int .i64 p.2.1, .int .i64 p.2.2.1, .string p.2.2.2]
abbrev OwnF (w : World) (base : Nat) (v : Value) (l : List (Int × Int × Int × ByteArray)) : Prop := OwnR 39 4 w base v (l.map frC)
theorem OwnF.rows {w : World} {base : Nat} {v : Value} {l : List (Int × Int × Int × ByteArray)} (h : OwnF w base v l) (hn : 0 < l.length) :
    ∃ g cap, v = .slice (some ⟨g, 0, none⟩) l.length cap ∧ base ≤ g ∧ g < w.heap.size ∧ (∀ k (hk : k < l.length), w.cell? ⟨g, k * 4, none⟩ = some (.int .i64 l[k].1) ∧ w.cell? ⟨g, k * 4 + 1, none⟩ = some (.int .i64 l[k].2.1) ∧ w.cell? ⟨g, k * 4 + 2, none⟩ = some (.int .i64 l[k].2.2.1) ∧ w.cell? ⟨g, k * 4 + 3, none⟩ = some (.string l[k].2.2.2)) ∧ (∀ j, w.frozen? ⟨g, j, none⟩ = false) := by
  obtain ⟨g, cap, hv, hb, hg, hc, hf⟩ := OwnR.rows h (by simpa using hn)
  refine ⟨g, cap, by rw [hv, List.length_map], hb, hg, fun k hk => ?_, hf⟩
  have h0 := hc k (by simpa using hk) 0 (by decide)
  have h1 := hc k (by simpa using hk) 1 (by decide)
  have h2 := hc k (by simpa using hk) 2 (by decide)
  have h3 := hc k (by simpa using hk) 3 (by decide)
  simp only [List.getElem_map] at h0 h1 h2 h3
  exact ⟨h0, h1, h2, h3⟩

theorem info_frm : (Try.prog.info? 39).map (fun i => (i.zero, i.size, i.bytes)) = some (some (frV 0 0 0 ⟨#[]⟩), 4, 40) := by kernel_rfl
end Go.Proofs.Ytegahdlfjdjcaaa
/- What this text proves: the contract of the laws' own mark of a number as a text. -/
namespace Go.Proofs.Ytegahdlfjdjcaaa
open Go.ChangeShapes Go.WideShapes Go.ChangeAt Go.RowKit
set_option linter.unusedVariables false

/-- The digits of a number, by at most f of them. -/
def dgF : Nat → Nat → List UInt8
  | 0, _ => []
  | f + 1, k => if k = 0 then [] else dgF f (k / 10) ++ [UInt8.ofNat (48 + k % 10)]
theorem dgF_zero (f : Nat) : dgF f 0 = [] := by cases f <;> rfl
def markV (k : Nat) : ByteArray := ⟨#[109]⟩ ++ ⟨(dgF 64 k).toArray⟩
theorem one_text (w : World) (d : UInt8) : (convert 22 9 (.slice (some ⟨w.heap.size, 0, none⟩) 1 1)).run Try.prog (w.alloc (.cells #[.int .u8 (d.toNat : Int)] 5)) = .ok (.string ⟨#[d]⟩) (w.alloc (.cells #[.int .u8 (d.toNat : Int)] 5)) := by
  have h := run_convert_bytes_back (P := Try.prog) (w.alloc (.cells #[.int .u8 (d.toNat : Int)] 5)) 22 9 5 ⟨w.heap.size, 0, none⟩ 1 [d] Try.underlying22 Try.underlying5 Try.underlying9 (fun j hj => by
    obtain rfl : j = 0 := by simp at hj; omega
    show (w.alloc (.cells #[.int .u8 (d.toNat : Int)] 5)).cell? ⟨w.heap.size, 0, none⟩ = _
    rw [World.cell?_alloc_at _ _ _ _ rfl]
    rfl)
  simpa using h

end Go.Proofs.Ytegahdlfjdjcaaa
/- What this text proves: the contracts of the laws' marks over lists of packets: marks that were written are found again. -/
namespace Go.Proofs.Ytegahdlfjdjcaaa
open Go.ChangeShapes Go.WideShapes Go.ChangeAt Go.RowKit
set_option linter.unusedVariables false

/-- Block g has N cells that no string shares. -/
structure Pad (W : World) (g N : Nat) : Prop where
  lt : g < W.heap.size
  has : ∀ j, j < N → ∃ v, W.cell? ⟨g, j, none⟩ = some v
  ice : ∀ j, W.frozen? ⟨g, j, none⟩ = false
theorem Pad.more {W W' : World} {g N : Nat} (h : Pad W g N) (hb : Below W.heap.size W W') : Pad W' g N :=
  ⟨Nat.lt_of_lt_of_le h.lt hb.size, fun j hj => by obtain ⟨v, hv⟩ := h.has j hj; exact ⟨v, (hb.cell (p := ⟨g, j, none⟩) h.lt).trans hv⟩, fun j => (hb.frozen (p := ⟨g, j, none⟩) h.lt).trans (h.ice j)⟩
theorem Pad.set {W : World} {g N : Nat} (h : Pad W g N) (i : Nat) (u : Value) : Pad (W.setCell ⟨g, i, none⟩ u) g N := by
  refine ⟨by simpa using h.lt, fun j hj => ?_, fun j => by rw [World.frozen?_setCell]; exact h.ice j⟩
  obtain ⟨v, hv⟩ := h.has j hj
  by_cases e : i = j
  · subst e
    exact ⟨u, World.cell?_setCell_same _ _ _ hv⟩
  · exact ⟨v, by rw [World.cell?_setCell_other _ _ _ _ (fun he => e (congrArg Addr.off he))]; exact hv⟩
/-- The first k packets of block g bear their marks. -/
def MkP (W : World) (g M k : Nat) : Prop := ∀ i, i < k → W.cell? ⟨g, i * 3, none⟩ = some (.int .i64 ((M : Int) + 3 * (i : Int))) ∧ W.cell? ⟨g, i * 3 + 1, none⟩ = some (.int .i64 ((M : Int) + 3 * (i : Int) + 1)) ∧ W.cell? ⟨g, i * 3 + 2, none⟩ = some (.string (markV (M + 3 * i + 2)))
theorem MkP.more {W W' : World} {g M k n : Nat} (h : MkP W g M k) (hb : Below n W W') (hg : g < n) : MkP W' g M k := fun i hi =>
  ⟨(hb.cell (p := ⟨g, i * 3, none⟩) hg).trans (h i hi).1, (hb.cell (p := ⟨g, i * 3 + 1, none⟩) hg).trans (h i hi).2.1, (hb.cell (p := ⟨g, i * 3 + 2, none⟩) hg).trans (h i hi).2.2⟩
theorem MkP.past {W : World} {g M k : Nat} (h : MkP W g M k) (j : Nat) (hj : k * 3 ≤ j) (u : Value) : MkP (W.setCell ⟨g, j, none⟩ u) g M k := fun i hi => by
  refine ⟨?_, ?_, ?_⟩
  · rw [World.cell?_setCell_other _ _ _ _ (fun he => by have := congrArg Addr.off he; simp at this; omega)]; exact (h i hi).1
  · rw [World.cell?_setCell_other _ _ _ _ (fun he => by have := congrArg Addr.off he; simp at this; omega)]; exact (h i hi).2.1
  · rw [World.cell?_setCell_other _ _ _ _ (fun he => by have := congrArg Addr.off he; simp at this; omega)]; exact (h i hi).2.2

theorem MkP.succ {W : World} {g M k : Nat} (h : MkP W g M k) (h0 : W.cell? ⟨g, k * 3, none⟩ = some (.int .i64 ((M : Int) + 3 * (k : Int)))) (h1 : W.cell? ⟨g, k * 3 + 1, none⟩ = some (.int .i64 ((M : Int) + 3 * (k : Int) + 1))) (h2 : W.cell? ⟨g, k * 3 + 2, none⟩ = some (.string (markV (M + 3 * k + 2)))) : MkP W g M (k + 1) := fun i hi => by
  rcases Nat.lt_or_ge i k with h3 | h3
  · exact h i h3
  · obtain rfl : i = k := by omega
    exact ⟨h0, h1, h2⟩

end Go.Proofs.Ytegahdlfjdjcaaa
