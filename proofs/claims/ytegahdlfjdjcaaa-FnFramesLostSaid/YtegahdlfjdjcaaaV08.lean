/- What this text proves: the parts PkMath of the proof, each under its own words. -/
import Derived.Test.YtegahdlfjdjcaaaV02
import Derived.Test.YtegahdlfjdjcaaaV06
import Derived.Test.YtegahdlfjdjcaaaV07
/- What this text proves: the bytes of packets that follow one another are decoded at the places where they begin. -/
namespace Go.Proofs.Ytegahdlfjdjcaaa
open Go.ChangeShapes Go.WideShapes Go.ChangeAt Go.RowKit
set_option linter.unusedVariables false

theorem size_list (s : ByteArray) : s.size = s.data.toList.length := by simp
theorem list_inj {s t : ByteArray} (h : s.data.toList = t.data.toList) : s = t := ByteArray.ext (Array.toList_inj.1 h)
theorem app_list (s t : ByteArray) : (s ++ t).data.toList = s.data.toList ++ t.data.toList := by rw [ByteArray.data_append, Array.toList_append]
theorem ext_list (s : ByteArray) (a b : Nat) : (s.extract a b).data.toList = (s.data.toList.drop a).take (b - a) := by
  rw [ByteArray.data_extract, Array.toList_extract, List.extract_eq_take_drop]
theorem byteAt_mid {P l R : List UInt8} {s : ByteArray} (h : s.data.toList = P ++ (l ++ R)) (j i : Nat) (hj : j = P.length + i) (hi : i < l.length) : byteAt s j = (l.getD i 0).toNat := by
  subst hj
  unfold byteAt
  rw [h, List.getD_eq_getElem?_getD, List.getD_eq_getElem?_getD, List.getElem?_append_right (by omega), List.getElem?_append_left (by omega), show P.length + i - P.length = i from by omega]
theorem put_one (n : Nat) (h : n < 256) : (putS (n : Int) 1).data.toList = [byteN n 0] := by
  unfold putS
  rw [if_pos ⟨by decide, by decide, by omega, by simp; omega⟩]
  rfl
theorem put_two (n : Nat) (h : n < 65536) : (putS (n : Int) 2).data.toList = [byteN n 1, byteN n 0] := by
  unfold putS
  rw [if_pos ⟨by decide, by decide, by omega, by simp; omega⟩]
  rfl
theorem pkT_list {a q : Nat} {d : ByteArray} (h : PkOk a q d) : (pkT a q d).data.toList = [byteN a 0, byteN q 1, byteN q 0, byteN d.size 0] ++ d.data.toList := by
  have h1 := h.1; have h2 := h.2.1; have h3 := h.2.2
  unfold pkT
  rw [if_pos h, app_list, app_list, app_list, put_one a (by omega), put_two q (by omega), put_one d.size (by omega)]
  rfl
theorem pkT_size {a q : Int} {d : ByteArray} (h : PkOk a q d) : (pkT a q d).size = 4 + d.size := by
  obtain ⟨a, rfl⟩ := Int.eq_ofNat_of_zero_le h.1.1
  obtain ⟨q, rfl⟩ := Int.eq_ofNat_of_zero_le h.2.1.1
  rw [size_list, pkT_list h, List.length_append, ← size_list]
  rfl
/-- A packet is read from its bytes, wherever they stand. -/
theorem decP_back {a q : Int} {d : ByteArray} (h : PkOk a q d) (P R s : ByteArray) (hs : s = P ++ (pkT a q d ++ R)) : decP s (P.size : Int) = (a, q, d, 4 + (d.size : Int), true) := by
  obtain ⟨a, rfl⟩ := Int.eq_ofNat_of_zero_le h.1.1
  obtain ⟨q, rfl⟩ := Int.eq_ofNat_of_zero_le h.2.1.1
  have h1 := h.1.2; have h2 := h.2.1.2; have h3 := h.2.2
  have hz : s.size = P.size + (4 + d.size + R.size) := by rw [hs, ByteArray.size_append, ByteArray.size_append, pkT_size h]
  have hl : s.data.toList = P.data.toList ++ ([byteN a 0, byteN q 1, byteN q 0, byteN d.size 0] ++ (d.data.toList ++ R.data.toList)) := by rw [hs, app_list, app_list, pkT_list h, List.append_assoc]
  have hp := size_list P
  have b0 : byteAt s P.size = a := by rw [byteAt_mid hl P.size 0 hp (by simp)]; show (byteN a 0).toNat = a; rw [byteN_val]; simp; omega
  have b1 : byteAt s (P.size + 1) = q / 256 := by rw [byteAt_mid hl (P.size + 1) 1 (by omega) (by simp)]; show (byteN q 1).toNat = _; rw [byteN_val]; simp; omega
  have b2 : byteAt s (P.size + 2) = q % 256 := by rw [byteAt_mid hl (P.size + 2) 2 (by omega) (by simp)]; show (byteN q 0).toNat = _; rw [byteN_val]; simp
  have b3 : byteAt s (P.size + 3) = d.size := by rw [byteAt_mid hl (P.size + 3) 3 (by omega) (by simp)]; show (byteN d.size 0).toNat = _; rw [byteN_val]; simp; omega
  have v0 : valW s P.size 1 = a := by simp only [valW]; rw [Nat.add_zero, b0]; omega
  have v1 : valW s (P.size + 1) 2 = q := by simp only [valW]; rw [Nat.add_zero, show P.size + 1 + 1 = P.size + 2 from rfl, b1, b2]; omega
  have v3 : valW s (P.size + 3) 1 = d.size := by simp only [valW]; rw [Nat.add_zero, b3]; omega
  have hx : s.extract (P.size + 4) (P.size + 4 + d.size) = d := by
    apply list_inj
    rw [ext_list, hl, List.drop_append, List.drop_eq_nil_of_le (by omega), List.nil_append, show P.size + 4 - P.data.toList.length = 4 from by omega, show P.size + 4 + d.size - (P.size + 4) = d.data.toList.length from by rw [← size_list]; omega]
    show (d.data.toList ++ R.data.toList).take d.data.toList.length = _
    rw [List.take_left]
  rw [decP_yes ⟨by omega, by omega, by rw [Int.toNat_natCast, v3]; omega, by rw [Int.toNat_natCast, v0]; omega, by rw [Int.toNat_natCast, v3]; omega⟩]
  rw [Int.toNat_natCast, v0, v1, v3, hx]
/-- The bytes of packets that follow one another. -/
noncomputable def encQ : List Pk → ByteArray
  | [] => ⟨#[]⟩
  | p :: Q => pkT p.1 p.2.1 p.2.2 ++ encQ Q
theorem nil_app (s : ByteArray) : (⟨#[]⟩ : ByteArray) ++ s = s := list_inj (by rw [app_list]; rfl)
theorem app_nil (s : ByteArray) : s ++ (⟨#[]⟩ : ByteArray) = s := list_inj (by rw [app_list]; simp)
theorem app_assoc (s t u : ByteArray) : s ++ t ++ u = s ++ (t ++ u) := list_inj (by rw [app_list, app_list, app_list, app_list, List.append_assoc])
theorem encQ_app (P Q : List Pk) : encQ (P ++ Q) = encQ P ++ encQ Q := by
  induction P with
  | nil => show encQ Q = ⟨#[]⟩ ++ encQ Q; rw [nil_app]
  | cons p P ih => show pkT _ _ _ ++ encQ (P ++ Q) = _ ++ encQ P ++ encQ Q; rw [ih, app_assoc]
theorem encQ_one (p : Pk) : encQ [p] = pkT p.1 p.2.1 p.2.2 := app_nil _
abbrev OkQ (p : Pk) : Prop := PkOk p.1 p.2.1 p.2.2
theorem encQ_size_le (L : List Pk) (h : ∀ p ∈ L, OkQ p) : (encQ L).size ≤ 44 * L.length := by
  induction L with
  | nil => exact Nat.le_refl _
  | cons p L ih =>
    have h1 := ih fun x hx => h x (List.mem_cons_of_mem _ hx)
    have h2 := h p (List.mem_cons_self ..)
    show (pkT _ _ _ ++ encQ L).size ≤ _
    have h3 := h2.2.2
    rw [ByteArray.size_append, pkT_size h2, List.length_cons]
    omega
theorem takeQ_snoc {α : Type} (L : List α) (k : Nat) (h : k < L.length) : L.take (k + 1) = L.take k ++ [L[k]'h] := by rw [List.take_add_one, List.getElem?_eq_getElem h]; rfl
theorem encQ_step (L : List Pk) (k : Nat) (h : k < L.length) : encQ (L.take (k + 1)) = encQ (L.take k) ++ pkT (L[k]'h).1 (L[k]'h).2.1 (L[k]'h).2.2 := by rw [takeQ_snoc L k h, encQ_app, encQ_one]
theorem encQ_split (L : List Pk) (k : Nat) (h : k < L.length) : encQ L = encQ (L.take k) ++ (pkT (L[k]'h).1 (L[k]'h).2.1 (L[k]'h).2.2 ++ encQ (L.drop (k + 1))) := by
  conv => lhs; rw [← List.take_append_drop k L, List.drop_eq_getElem_cons h]
  rw [encQ_app]
  rfl
theorem decP_at (L : List Pk) (hL : ∀ p ∈ L, OkQ p) (k : Nat) (h : k < L.length) : decP (encQ L) ((encQ (L.take k)).size : Int) = ((L[k]'h).1, (L[k]'h).2.1, (L[k]'h).2.2, 4 + ((L[k]'h).2.2.size : Int), true) :=
  decP_back (hL _ (List.getElem_mem h)) _ _ _ (encQ_split L k h)
theorem encQ_step_size (L : List Pk) (hL : ∀ p ∈ L, OkQ p) (k : Nat) (h : k < L.length) : ((encQ (L.take (k + 1))).size : Int) = ((encQ (L.take k)).size : Int) + (4 + ((L[k]'h).2.2.size : Int)) := by
  rw [encQ_step L k h, ByteArray.size_append, pkT_size (hL _ (List.getElem_mem h))]
  omega
/-- What remains of a packet once those that only fill are left out. -/
def realP (p : Pk) : List Pk := if p.1 = 15 then [] else [p]
def realQ (L : List Pk) : List Pk := (L.map realP).flatten
theorem realQ_app (P Q : List Pk) : realQ (P ++ Q) = realQ P ++ realQ Q := by unfold realQ; rw [List.map_append, List.flatten_append]
end Go.Proofs.Ytegahdlfjdjcaaa
