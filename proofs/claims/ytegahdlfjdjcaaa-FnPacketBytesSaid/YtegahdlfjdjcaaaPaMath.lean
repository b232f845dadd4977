/- What this text proves: what is packed, filled and taken, and that a frame is read from its bytes, and not with one byte changed. -/
import Derived.Test.YtegahdlfjdjcaaaPkMath
import Derived.Test.YtegahdlfjdjcaaaPakP
import Derived.Test.YtegahdlfjdjcaaaPakF
import Derived.Test.YtegahdlfjdjcaaaTakM
import Derived.Test.YtegahdlfjdjcaaaFrmD
import Derived.Test.YtegahdlfjdjcaaaCrc
import Derived.Test.YtegahdlfjdjcaaaIPf
namespace Go.Proofs.Ytegahdlfjdjcaaa
open Go.ChangeShapes Go.WideShapes Go.ChangeAt Go.RowKit
set_option linter.unusedVariables false

theorem pa_empty {x : Int} (h0 : 0 ≤ x) (h1 : x ≤ 255) : PaOk 0 x ⟨#[]⟩ [] := ⟨fun i hi => absurd hi (Nat.not_lt_zero _), by decide, ⟨h0, h1⟩, by decide⟩
/-- A packet that there is room for is packed. -/
theorem pack_ok {c n : Int} {r : ByteArray} {l : List Int} {a q : Int} {d : ByteArray} (h : PaOk c n r l) (hp : PkOk a q d) (hs : r.size + (4 + d.size) ≤ 5000) : PackOk c n r l a q d := by
  have hz : (r ++ pkT a q d).size = r.size + (4 + d.size) := by rw [ByteArray.size_append, pkT_size hp]
  refine ⟨h, hp, ?_, h.2.1, h.2.2.1, by omega⟩
  rw [hz, List.length_append]
  intro i hi
  have hi' : i < l.length + 1 := hi
  by_cases hl : i < l.length
  · have h1 := h.1 i hl
    have e1 : (l ++ [(r.size : Int)]).getD i 0 = l.getD i 0 := by rw [List.getD_eq_getElem?_getD, List.getD_eq_getElem?_getD, List.getElem?_append_left hl]
    have e2 : (l ++ [(r.size : Int)]).getD (i - 1) 0 = l.getD (i - 1) 0 := by rw [List.getD_eq_getElem?_getD, List.getD_eq_getElem?_getD, List.getElem?_append_left (by omega)]
    rw [e1, e2]
    exact ⟨⟨h1.1.1, by have := h1.1.2; omega⟩, h1.2⟩
  · obtain rfl : i = l.length := by omega
    have e1 : (l ++ [(r.size : Int)]).getD l.length 0 = (r.size : Int) := by rw [List.getD_eq_getElem?_getD, List.getElem?_append_right (Nat.le_refl _), Nat.sub_self]; rfl
    rw [e1]
    refine ⟨⟨by omega, by omega⟩, fun h0 => ?_⟩
    have e2 : (l ++ [(r.size : Int)]).getD (l.length - 1) 0 = l.getD (l.length - 1) 0 := by rw [List.getD_eq_getElem?_getD, List.getD_eq_getElem?_getD, List.getElem?_append_left (by omega)]
    rw [e2]
    have := (h.1 (l.length - 1) (by omega)).1.2
    omega
theorem packed {c n : Int} {r : ByteArray} {l : List Int} {a q : Int} {d : ByteArray} (h : PaOk c n r l) (hp : PkOk a q d) (hs : r.size + (4 + d.size) ≤ 5000) :
    packB c n r l a q d = true ∧ packR c n r l a q d = r ++ pkT a q d ∧ packL c n r l a q d = l ++ [(r.size : Int)] ∧ PaOk c n (packR c n r l a q d) (packL c n r l a q d) := by
  have hk := pack_ok h hp hs
  have hb := packB_yes hk
  have hR : packR c n r l a q d = r ++ pkT a q d := by unfold packR; rw [hb]; rfl
  have hL : packL c n r l a q d = l ++ [(r.size : Int)] := by unfold packL; rw [hb]; rfl
  exact ⟨hb, hR, hL, by rw [hR, hL]; exact hk.2.2⟩
/-- The packet with which a packer is filled, if it is. -/
def idleQ (z : Nat) : List Pk := if z % 24 = 0 then [] else [(15, 0, zerosT (fillN z))]
theorem fillN_le (z : Nat) : fillN z ≤ 23 := by unfold fillN; split <;> omega
theorem idle_ok (z : Nat) : PkOk 15 0 (zerosT (fillN z)) := ⟨by decide, by decide, by rw [zeros_size]; have := fillN_le z; omega⟩
theorem idleQ_ok (z : Nat) : (∀ p ∈ idleQ z, OkQ p) ∧ realQ (idleQ z) = [] := by
  unfold idleQ
  split
  · exact ⟨(fun p h => by cases h), rfl⟩
  · exact ⟨fun p h => by rw [List.mem_singleton.1 h]; exact idle_ok z, rfl⟩
theorem filled {c n : Int} {r : ByteArray} {l : List Int} (h : PaOk c n r l) (hs : r.size ≤ 4900) :
    fillR c n r l = r ++ encQ (idleQ r.size) ∧ fillL c n r l = l ++ (if r.size % 24 = 0 then [] else [(r.size : Int)]) ∧ PaOk c n (fillR c n r l) (fillL c n r l) ∧ (fillR c n r l).size % 24 = 0 ∧ r.size ≤ (fillR c n r l).size ∧ (fillR c n r l).size ≤ r.size + 27 := by
  unfold fillR fillL idleQ
  by_cases h0 : r.size % 24 = 0
  · rw [if_pos h0, if_pos h0, if_pos h0, if_pos h0]
    exact ⟨(app_nil r).symm, (List.append_nil l).symm, h, h0, Nat.le_refl _, Nat.le_add_right _ _⟩
  · rw [if_neg h0, if_neg h0, if_neg h0, if_neg h0]
    have hf := fillN_le r.size
    have hz := zeros_size (fillN r.size)
    obtain ⟨_, hR, hL, hP⟩ := packed h (idle_ok r.size) (by rw [hz]; omega)
    have hzz : (packR c n r l 15 0 (zerosT (fillN r.size))).size = r.size + (4 + fillN r.size) := by rw [hR, ByteArray.size_append, pkT_size (idle_ok r.size), hz]
    refine ⟨by rw [hR, encQ_one], hL, hP, ?_, ?_, ?_⟩
    all_goals rw [hzz]
    · unfold fillN; split <;> omega
    · omega
    · omega
theorem first_in {z : Nat} {l : List Int} (h : PaTo z l l.length) : (0 ≤ firstI l ∧ firstI l ≤ 23) ∨ firstI l = 255 := by
  unfold firstI
  split
  · rename_i hh
    have := (h 0 hh.1).1.1
    exact .inl ⟨this, by omega⟩
  · exact .inr rfl
theorem taken {c n : Int} {r : ByteArray} {l : List Int} (h : PaOk c n r l) (hs : 24 ≤ r.size) :
    tkB c n r l = true ∧ tkN c n r l = (n + 1) % 256 ∧ tkR c n r l = r.extract 24 r.size ∧ tkL c n r l = laterK l l.length ∧ tkF c n r l = (c, n, firstI l, r.extract 0 24) ∧ FrOk c n (firstI l) (r.extract 0 24) := by
  have hb := tkB_yes ⟨h, hs⟩
  unfold tkN tkR tkL tkF
  rw [hb]
  exact ⟨rfl, rfl, rfl, rfl, rfl, h.2.1, h.2.2.1, first_in h.1, by rw [ByteArray.size_extract]; omega⟩
theorem frT_list {c n f : Nat} {d : ByteArray} (h : FrOk c n f d) : (putS (c : Int) 1 ++ putS (n : Int) 1 ++ putS (f : Int) 1 ++ d).data.toList = [byteN c 0, byteN n 0, byteN f 0] ++ d.data.toList := by
  have h1 := h.1.2; have h2 := h.2.1.2; have h3 := h.2.2.1
  rw [app_list, app_list, app_list, put_one c (by omega), put_one n (by omega), put_one f (by omega)]
  rfl
/-- A frame is read from its bytes. -/
theorem decF_back {c n f : Int} {d : ByteArray} (h : FrOk c n f d) : decF (frT c n f d) = (c, n, f, d, true) ∧ (frT c n f d).size = 29 := by
  obtain ⟨c, rfl⟩ := Int.eq_ofNat_of_zero_le h.1.1
  obtain ⟨n, rfl⟩ := Int.eq_ofNat_of_zero_le h.2.1.1
  obtain ⟨f, rfl⟩ := Int.eq_ofNat_of_zero_le (show 0 ≤ f by have := h.2.2.1; omega)
  have h1 := h.1.2; have h2 := h.2.1.2; have h3 := h.2.2.1; have h4 := h.2.2.2
  have hT : frT (c : Int) n f d = sealS (putS (c : Int) 1 ++ putS (n : Int) 1 ++ putS (f : Int) 1 ++ d) := by unfold frT; rw [if_pos h]
  have hl : (putS (c : Int) 1 ++ putS (n : Int) 1 ++ putS (f : Int) 1 ++ d).data.toList = [byteN c 0, byteN n 0, byteN f 0] ++ d.data.toList := frT_list h
  rw [hT]
  generalize putS (c : Int) 1 ++ putS (n : Int) 1 ++ putS (f : Int) 1 ++ d = t at *
  have hz : t.size = 27 := by rw [size_list, hl, List.length_append, ← size_list, h4]; rfl
  have b0 : byteAt t 0 = c := by unfold byteAt; rw [hl]; show (byteN c 0).toNat = c; rw [byteN_val]; simp; omega
  have b1 : byteAt t 1 = n := by unfold byteAt; rw [hl]; show (byteN n 0).toNat = n; rw [byteN_val]; simp; omega
  have b2 : byteAt t 2 = f := by unfold byteAt; rw [hl]; show (byteN f 0).toNat = f; rw [byteN_val]; simp; omega
  have hx : t.extract 3 t.size = d := by
    apply list_inj
    rw [ext_list, hl, hz]
    show d.data.toList.take 24 = _
    rw [← h4, size_list, List.take_length]
  refine ⟨?_, by rw [sealS_size, hz]⟩
  rw [decF_yes (open_seal t) ⟨hz, by rw [b0, b1, b2, hx]; exact h⟩, b0, b1, b2, hx]
theorem decF_turned {c n f : Int} {d : ByteArray} (h : FrOk c n f d) (t : ByteArray) (j : Nat) (x : UInt8) (hj : j < (frT c n f d).data.toList.length) (hx : x ≠ (frT c n f d).data.toList[j]) (ht : t.data.toList = (frT c n f d).data.toList.set j x) :
    decF t = (0, 0, 0, ⟨#[]⟩, false) := by
  have hT : frT c n f d = sealS (putS c 1 ++ putS n 1 ++ putS f 1 ++ d) := by unfold frT; rw [if_pos h]
  simp only [hT] at hj hx ht
  exact decF_no (open_turned _ t j x hj hx ht) (fun h => by cases h.1)
theorem openV_size (s : ByteArray) (h : (openV s).2 = true) : (openV s).1.size + 2 = s.size := by
  by_cases ho : OpenOk s
  · rw [openV_yes ho, ByteArray.size_extract]; have := ho.1; omega
  · rw [openV_no ho] at h; exact absurd h (by simp)
/-- A text of more bytes is no frame. -/
theorem decF_long {s : ByteArray} (h : s.size ≠ 29) : decF s = (0, 0, 0, ⟨#[]⟩, false) :=
  decF_no (t := (openV s).1) (b := (openV s).2) rfl fun hh => by have h1 := openV_size s hh.1; have h2 := hh.2.1; omega
theorem set_size {s t : ByteArray} {j : Nat} {x : UInt8} (ht : t.data.toList = s.data.toList.set j x) : t.size = s.size := by rw [size_list, ht, List.length_set, ← size_list]
end Go.Proofs.Ytegahdlfjdjcaaa
