/- What this text proves: the contracts of DecodeMissing, of the program and the model. -/
import Derived.Test.YtjcdekonidekcadEmi
import Derived.Test.YtjcdekonidekcadApI
import Derived.Test.YtjcdekonidekcadInU
import Derived.Test.YtjcdekonidekcadByte
namespace Go.Proofs.Ytjcdekonidekcad
open Go.ChangeShapes Go.WideShapes Go.ChangeAt Go.RowKit
set_option linter.unusedVariables false

/-- The numbers of k bytes behind the first. -/
def tlS (s : ByteArray) (k : Nat) : List Int := (List.range k).map fun j => ((byteAt s (j + 1) : Nat) : Int)
theorem tlS_zero (s : ByteArray) : tlS s 0 = [] := rfl
theorem tlS_succ (s : ByteArray) (k : Nat) : tlS s (k + 1) = tlS s k ++ [((byteAt s (k + 1) : Nat) : Int)] := by simp [tlS, List.range_succ]
theorem tlS_len (s : ByteArray) (k : Nat) : (tlS s k).length = k := by simp [tlS]
/-- Whether a text is a list of missing segments. -/
def DmOk (s : ByteArray) : Prop := 1 ≤ s.size ∧ ((emT ((byteAt s 0 : Nat) : Int) (tlS s (s.size - 1))).toList == s.toList) = true
/-- What DecodeMissing returns. -/
noncomputable def decM (s : ByteArray) : Int × List Int × Bool := open Classical in if DmOk s then (((byteAt s 0 : Nat) : Int), tlS s (s.size - 1), true) else (0, [], false)
theorem decM_yes {s : ByteArray} (h : DmOk s) : decM s = (((byteAt s 0 : Nat) : Int), tlS s (s.size - 1), true) := by unfold decM; rw [if_pos h]
theorem decM_no {s : ByteArray} (h : ¬ DmOk s) : decM s = (0, [], false) := by unfold decM; rw [if_neg h]
def DmEnd (w : World) (r : Int × List Int × Bool) (e : Ending) (w' : World) : Prop := ∃ v, e = .returned (.tuple #[.int .i64 r.1, v, .bool r.2.2]) ∧ (inT v r.2.1).P w' ∧ (∀ k, (inT v r.2.1).F k → w.heap.size ≤ k) ∧ Below w.heap.size w w'
theorem DmEnd.of {w w' : World} {r : Int × List Int × Bool} {e : Ending} (v : Value) (he : e = .returned (.tuple #[.int .i64 r.1, v, .bool r.2.2])) (h : OwnIn w' w.heap.size v r.2.1) (hb : Below w.heap.size w w') : DmEnd w r e w' := ⟨v, he, LsO.lower h (Nat.zero_le _), fun k hk => (h.up k hk).1, hb⟩
theorem decM_len (s : ByteArray) : (decM s).2.1.length ≤ s.size := by
  by_cases h : DmOk s
  · rw [decM_yes h]
    show (tlS s (s.size - 1)).length ≤ _
    rw [tlS_len]
    omega
  · rw [decM_no h]
    exact Nat.zero_le _
theorem ext_byte (s : ByteArray) (j : Nat) (hj : j < (s.extract 1 s.size).data.toList.length) : cellB (s.extract 1 s.size).data.toList[j] = .int .u8 ((byteAt s (j + 1) : Nat) : Int) := by
  have h1 : (s.extract 1 s.size).size = s.size - 1 := by simp
  have hj2 : j < (s.extract 1 s.size).size := by simpa using hj
  have hj3 : j + 1 < s.size := by omega
  unfold cellB
  congr 2
  rw [← byteAt_of s (j + 1) hj3]
  congr 1
  show (s.extract 1 s.size).data.toList[j] = s.data[j + 1]
  simp [ByteArray.data_extract]
theorem rowI_form {w : World} {base : Nat} {v : Value} {l : List Int} (h : OwnR 3 1 w base v (l.map inC)) : ∃ A c, v = .slice A l.length c := by
  obtain ⟨A, c, h1⟩ := h.form
  exact ⟨A, c, by rw [h1, List.length_map]⟩

set_option maxRecDepth 20000 in
set_option maxHeartbeats 4000000 in
theorem dm_impl (s : ByteArray) (hs : s.size ≤ 1048576) (w : World) :
    Calls Try.prog 16 #[.string s] w (DmEnd w (decM s)) := by
  by_cases hz : 1 ≤ s.size
  · have hse : s.toList.isEmpty = false := by
      rw [ByteArray.toList_eq]
      have : s.data.toList.length = s.size := by simp
      cases h : s.data.toList with
      | nil => rw [h] at this; simp at this; omega
      | cons a r => rfl
    have hse1 : ¬ s.toList = [] := fun h => by rw [h] at hse; cases hse
    have hse2 : (s.toList == []) = false := by cases h : s.toList with
      | nil => exact absurd h hse1
      | cons a r => rfl
    have e0 := byteAt_of s 0 (by omega)
    have l0 := byteAt_lt s 0
    have hsl : ∀ W : World, (Instr.slice 9 (.string s) (some (.int .i64 1)) none none).run Try.prog W = .ok (.string (s.extract 1 s.size)) W := slice_tail s 1 hz
    obtain ⟨cap, w1, hnew⟩ := cvt_new (s.extract 1 s.size)
    have hsz : (s.extract 1 s.size).size = s.size - 1 := by simp
    have hconv := fun W => (hnew W).1
    have HB := Lib.hid (fun W => (hnew W).2.1)
    have HC := Lib.hid (fun W => (hnew W).2.2)
    have HEB := Lib.hid (fun j hj => ext_byte s j hj)
    have HYD := Lib.hid (fun h => decM_yes (s := s) h)
    have HND := Lib.hid (fun h => decM_no (s := s) h)
    have HDF := Lib.hid (show DmOk s ↔ ((emT ((byteAt s 0 : Nat) : Int) (tlS s (s.size - 1))).toList == s.toList) = true from ⟨fun h => h.2, fun h => ⟨hz, h⟩⟩)
    obtain ⟨n, hn⟩ : ∃ n, s.size - 1 = n := ⟨_, rfl⟩
    rw [hn] at HYD HDF hsz
    have hn2 : n ≤ 1048575 := by omega
    have hll : (s.extract 1 s.size).data.toList.length = n := by rw [← hsz]; simp
    generalize byteAt s 0 = Z at *
    have wz : IntKind.i64.wrap (Z : Int) = (Z : Int) := IntWalk.i64_in _ (by omega)
    have HCE := Lib.hid (fun A c W (h : LsI 1 W W.heap.size A ((tlS s n).map inC)) => em_impl (Z : Int) A (tlS s n) c (by rw [tlS_len]; omega) W h)
    have HTS := Lib.hid (fun k => tlS_succ s k)
    have HTL := Lib.hid (fun k => tlS_len s k)
    have HBL := Lib.hid (fun k => byteAt_lt s k)
    generalize s.extract 1 s.size = R at *
    rw [hsz] at hconv
    clear hnew hsz hn
    have S0 := Lib.hid (((St.start w).add (rowT 3 1 (.slice (some ⟨w.heap.size, 0, none⟩) 0 0) ((tlS s 0).map inC)) ((Below.refl _ w).alloc (Nat.le_refl _) (.cells #[] 3)) (OwnR.empty w 0 (Nat.zero_le _)) (fun k hk => by
      have h1 : (some w.heap.size : Option Nat) = some k := hk
      injection h1 with h1
      omega)).add (seeT (w.alloc (.cells #[] 3)).heap.size (R.data.toList.map cellB)) (HB.out _) (HC.out _) (fun k hk => by rw [show k = _ from hk]; exact Nat.le_refl _))
    clear HB HC
    have hsz2 : (w.alloc (.cells #[] 3)).heap.size = w.heap.size + 1 := by simp
    rw [hsz2] at S0
    clear hsz2
    go_enter Try.func16, Try.ntmps16
    go_wp2
    go_loopg [6, 19] n (fun gh v i wx => ∃ k : Nat, k ≤ n ∧ gh = n - k ∧ i = .int .i64 (k : Int) ∧ St w wx [seeT (w.heap.size + 1) (R.data.toList.map cellB), rowT 3 1 v ((tlS s k).map inC)])
    case atStart => exact ⟨0, Nat.zero_le _, rfl, rfl, S0.out⟩
    case round =>
      obtain ⟨k, hk, rfl, rfl, hst⟩ := hrel
      have SS := Lib.hid hst
      clear hst
      by_cases hlt : k < n
      · have hd : decide (k < n) = true := by simp; omega
        have hd' : decide ((k : Int) < (n : Int)) = true := by simp; omega
        have hck := SS.out.see 0 _ _ rfl k (by rw [List.length_map, hll]; exact hlt)
        rw [List.getElem_map, HEB.out k (by rw [hll]; exact hlt)] at hck
        have HX := Lib.hid (show (tlS s (k + 1)).map inC = (tlS s k).map inC ++ [inC ((byteAt s (k + 1) : Nat) : Int)] by rw [HTS.out k, List.map_append]; rfl)
        have lx := HBL.out (k + 1)
        generalize byteAt s (k + 1) = X at *
        have wx : IntKind.i64.wrap (X : Int) = (X : Int) := IntWalk.i64_in _ (by omega)
        have HL := Lib.hid (show (tlS s k).length ≤ 1099510 by rw [HTL.out]; omega)
        have HO := Lib.hid (SS.out.row 1 _ _ _ _ rfl)
        go_wp2_with (at_builtin; go_loud (refine app_num wr rfl _ _ rfl 0 u6 (tlS s k) (X : Int) rfl HO.out _ 1 rfl HL.out (Nat.zero_le _) ?_))
        intro v' w' h1 h2 h3
        rw [← HX.out] at h1
        have S2 := Lib.hid (SS.out.grow 1 _ _ _ _ rfl h2 v' _ h1 h3)
        clear h1 h2 h3
        go_wp2
        go_roundg (n - (k + 1))
        case measure => omega
        case rel => exact ⟨k + 1, by omega, rfl, by go_num, S2.out⟩
      · obtain rfl : k = n := by omega
        have hd : decide (k < k) = false := by simp
        have hd' : decide ((k : Int) < (k : Int)) = false := by simp
        have HO := SS.out.row 1 _ _ _ _ rfl
        obtain ⟨A, c, hv⟩ := rowI_form HO
        subst hv
        have HO2 := Lib.hid (HO.toO)
        have HPA := Lib.hid (fun k' hk' => SS.out.nthPast 1 _ rfl k' hk')
        have HE1 := Lib.hid (HCE.out A c wr (LsO.ats (N := (tlS s k).length) HO.toO))
        have HBW := Lib.hid SS.out.below
        clear HO HCE
        generalize hE : emT (Z : Int) (tlS s k) = E at *
        clear hlt hE
        by_cases hq : (E.toList == s.toList) = true
        · have hq' : (E.toList != s.toList) = false := by rw [bne, hq]; rfl
          have HV := Lib.hid (HYD.out (HDF.out.2 hq))
          clear HND
          go_wp2_with fail
          refine HE1.out.mono ?_
          rintro e w2 ⟨rfl, hb2⟩
          have B2 := Lib.hid (HBW.out.trans (hb2.mono HBW.out.size))
          have O2 := Lib.hid (LsO.more HO2.out hb2)
          clear hb2
          go_wp2
          go_ret3
          refine DmEnd.of _ (by rw [HV.out]; rfl) ?_ (B2.out)
          rw [HV.out]
          have h := O2.out
          exact ⟨h.form, fun k' hk' => ⟨HPA.out k' hk', (h.up k' hk').2⟩, h.wide, h.rows, h.cap⟩
        · have hq' : (E.toList != s.toList) = true := by rw [bne]; simpa using hq
          have hq2 : (E.toList == s.toList) = false := by simpa using hq
          have HV := Lib.hid (HND.out (fun h => hq (HDF.out.1 h)))
          clear HYD HDF hq
          go_wp2_with fail
          refine HE1.out.mono ?_
          rintro e w2 ⟨rfl, hb2⟩
          have B2 := Lib.hid (HBW.out.trans (hb2.mono HBW.out.size))
          clear hb2
          go_wp2
          go_ret3
          refine DmEnd.of (.slice none 0 0) (by rw [HV.out]; rfl) ?_ (B2.out)
          rw [HV.out]
          exact LsO.nil0 1 _ _ 0
  · have hs0 : s.size = 0 := by omega
    have hse : s.toList.isEmpty = true := by
      rw [ByteArray.toList_eq]
      have h5 : s.data.toList.length = s.size := by simp
      have : s.data.toList.length = 0 := by rw [h5]; exact hs0
      rw [List.eq_nil_of_length_eq_zero this]
      rfl
    have hse1 : s.toList = [] := by simpa using hse
    have HV := Lib.hid (decM_no (s := s) (fun h => hz h.1))
    clear hz hs0
    go_enter Try.func16, Try.ntmps16
    go_wp2
    go_ret3
    refine DmEnd.of (.slice none 0 0) (by rw [HV.out]; rfl) ?_ (Below.refl _ _)
    rw [HV.out]
    exact LsO.nil0 1 _ _ 0

end Go.Proofs.Ytjcdekonidekcad
