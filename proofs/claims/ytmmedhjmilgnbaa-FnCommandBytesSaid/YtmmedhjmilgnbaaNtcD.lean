/- What this text proves: the contracts of the model's DecodeNotice and of the program's: the notice of two bytes. -/
import Derived.Test.YtmmedhjmilgnbaaNtc
import Derived.BigRegion
import Derived.RegionTactic
import Derived.Outline
namespace Go.Proofs.Ytmmedhjmilgnbaa
open Go.ChangeShapes Go.WideShapes Go.ChangeAt Go.RowKit
set_option linter.unusedVariables false

def lowB (y : Nat) : Bool := decide (¬ y % 2 = 0)
def upB (y : Nat) : Bool := decide (¬ y / 2 % 2 = 0)
theorem low_and (y : Nat) (h : y < 256) : (bits .and .u8 (y : Int) 1 != 0) = lowB y := by
  have : ∀ k : Fin 256, (bits .and .u8 (k.val : Int) 1 != 0) = lowB k.val := by decide +kernel
  exact this ⟨y, h⟩
theorem up_and (y : Nat) (h : y < 256) : (bits .and .u8 (y : Int) 2 != 0) = upB y := by
  have : ∀ k : Fin 256, (bits .and .u8 (k.val : Int) 2 != 0) = upB k.val := by decide +kernel
  exact this ⟨y, h⟩
theorem low_up (y : Nat) : bitI (lowB y) + 2 * bitI (upB y) = ((y % 4 : Nat) : Int) := by
  unfold lowB upB bitI
  by_cases h1 : y % 2 = 0 <;> by_cases h2 : y / 2 % 2 = 0 <;> simp [h1, h2] <;> omega
def DnOk (s : ByteArray) : Prop := s.size = 2 ∧ byteAt s 1 ≤ 3
instance (s : ByteArray) : Decidable (DnOk s) := by unfold DnOk; infer_instance
/-- What DecodeNotice returns. -/
def decN (s : ByteArray) : Int × Bool × Bool × Bool := if DnOk s then ((byteAt s 0 : Nat), lowB (byteAt s 1), upB (byteAt s 1), true) else (0, false, false, false)
theorem decN_yes {s : ByteArray} (h : DnOk s) : decN s = (((byteAt s 0 : Nat) : Int), lowB (byteAt s 1), upB (byteAt s 1), true) := by unfold decN; rw [if_pos h]
theorem decN_no {s : ByteArray} (h : ¬ DnOk s) : decN s = (0, false, false, false) := by unfold decN; rw [if_neg h]
def retN (r : Int × Bool × Bool × Bool) : Ending := .returned (.tuple #[ntV r.1 r.2.1 r.2.2.1, .bool r.2.2.2])
theorem two_bytes {s : ByteArray} (h : s.size = 2) : s = ⟨#[UInt8.ofNat (byteAt s 0), UInt8.ofNat (byteAt s 1)]⟩ := by
  apply ByteArray.ext
  apply Array.ext'
  have hl : s.data.toList.length = 2 := by rw [Array.length_toList]; exact h
  obtain ⟨a, b, hab⟩ : ∃ a b, s.data.toList = [a, b] := by
    match s.data.toList, hl with
    | [a, b], _ => exact ⟨a, b, rfl⟩
  unfold byteAt
  rw [hab]
  simp
theorem ntT_back {s : ByteArray} (h : s.size = 2) : ((ntT (byteAt s 0 : Nat) (lowB (byteAt s 1)) (upB (byteAt s 1))).toList == s.toList) = decide (byteAt s 1 ≤ 3) := by
  have l0 := byteAt_lt s 0
  have l1 := byteAt_lt s 1
  have e : ntT (byteAt s 0 : Nat) (lowB (byteAt s 1)) (upB (byteAt s 1)) = ⟨#[UInt8.ofNat (byteAt s 0), UInt8.ofNat (byteAt s 1 % 4)]⟩ := by
    rw [ntT_yes (by omega), low_up, putS_one (by omega), putS_one (by omega)]
    apply ByteArray.ext
    apply Array.ext'
    simp only [ByteArray.data_append, Array.toList_append, List.cons_append, List.nil_append, Int.toNat_natCast]
    unfold byteN
    rw [show byteAt s 0 / 256 ^ 0 = byteAt s 0 by omega, show byteAt s 1 % 4 / 256 ^ 0 = byteAt s 1 % 4 by omega]
  have hs := two_bytes h
  rw [e]
  generalize byteAt s 0 = X at *
  generalize byteAt s 1 = Y at *
  rw [hs, Bool.eq_iff_iff, beq_iff_eq, decide_eq_true_iff, Lib.toList_data, Lib.toList_data]
  constructor
  · intro he
    have h2 : UInt8.ofNat (Y % 4) = UInt8.ofNat Y := by simpa using he
    have h3 := congrArg UInt8.toNat h2
    rw [UInt8.toNat_ofNat', UInt8.toNat_ofNat'] at h3
    omega
  · intro hy
    rw [show Y % 4 = Y by omega]

set_option maxHeartbeats 4000000 in
theorem decN_impl (s : ByteArray) (hs : s.size ≤ 1048576) (w : World) :
    Calls Try.prog 18 #[.string s] w fun e w' => e = retN (decN s) ∧ Below w.heap.size w w' := by
  by_cases hz : s.size = 2
  · have hne : ((s.size : Int) != 2) = false := by simp; omega
    have e0 := byteAt_of s 0 (by omega)
    have e1 := byteAt_of s 1 (by omega)
    have l0 := byteAt_lt s 0
    have l1 := byteAt_lt s 1
    have a1 := low_and (byteAt s 1) l1
    have a2 := up_and (byteAt s 1) l1
    have hbk := ntT_back hz
    have hec := encN_impl (byteAt s 0 : Nat) (lowB (byteAt s 1)) (upB (byteAt s 1))
    have BR := (Box.made w (ntL 0 false false) 31 w.heap.size rfl)
    have BB := (Below.refl _ w).alloc (Nat.le_refl _) (.cells (ntL 0 false false).toArray 31)
    by_cases hy : byteAt s 1 ≤ 3
    · have HV := Lib.hid (decN_yes ⟨hz, hy⟩)
      rw [decide_eq_true hy] at hbk
      generalize ntT (byteAt s 0 : Nat) (lowB (byteAt s 1)) (upB (byteAt s 1)) = E at *
      have hE : (E.toList != s.toList) = false := by rw [bne, hbk]; rfl
      generalize byteAt s 0 = X at *
      generalize lowB (byteAt s 1) = P at *
      generalize upB (byteAt s 1) = Q at *
      generalize byteAt s 1 = Y at *
      have w0 : IntKind.i64.wrap (X : Int) = (X : Int) := IntWalk.i64_in _ (by omega)
      have HEC := Lib.hid hec
      have B4 := (Box.made (w.alloc (.cells (ntL 0 false false).toArray 31)) (ntL (X : Int) P Q) 31 (w.heap.size + 1) (by simp)).drew
      have BR1 := (BR.alloc (.cells (ntL (X : Int) P Q).toArray 31)).drew
      have BB1 := (BB.alloc BB.size (.cells (ntL (X : Int) P Q).toArray 31)).drew
      clear hy hec BR BB
      go_enter Try.func18, Try.ntmps18
      go_wp2
      go_region
      all_goals go_wp2_with fail
      all_goals refine (HEC.out _).mono ?_
      all_goals rintro e w1 ⟨rfl, hb1⟩
      all_goals
        have BR2 := BR1.more hb1
        have B42 := B4.more hb1
        have BF := Lib.hid (BR2.all (us := ntL (X : Int) P Q) rfl)
        have BW := Lib.hid (below_setCells (Nat.le_refl w.heap.size) (ntL (X : Int) P Q) 0 _ (BB1.trans (hb1.mono BB1.size)))
        obtain ⟨r0, r1, r2⟩ := BR2.threeR
        have ri := BR2.ice
        obtain ⟨k0, k1, k2⟩ := B42.threeR
        clear BR2 B42 hb1 BR1 B4 BB1
        go_wp2
        show bodyPost Try.prog Try.f18 _ Exit.ret _ (w1.setCells w.heap.size 0 (ntL (X : Int) P Q))
        generalize w1.setCells w.heap.size 0 (ntL (X : Int) P Q) = WE at *
        obtain ⟨c0, c1, c2⟩ := BF.out.threeR
        refine bodyPost_ret_by (v := .tuple #[ntV (X : Int) P Q, .bool true]) ?_ rfl ⟨by rw [HV.out]; rfl, BW.out⟩
        simp [results, Try.f18, go_sem, c0, c1, c2]
    · have HV := Lib.hid (decN_no (fun h => hy h.2))
      rw [decide_eq_false hy] at hbk
      generalize ntT (byteAt s 0 : Nat) (lowB (byteAt s 1)) (upB (byteAt s 1)) = E at *
      have hE : (E.toList != s.toList) = true := by rw [bne, hbk]; rfl
      generalize byteAt s 0 = X at *
      generalize lowB (byteAt s 1) = P at *
      generalize upB (byteAt s 1) = Q at *
      generalize byteAt s 1 = Y at *
      have w0 : IntKind.i64.wrap (X : Int) = (X : Int) := IntWalk.i64_in _ (by omega)
      have HEC := Lib.hid hec
      have BR1 := (BR.alloc (.cells (ntL (X : Int) P Q).toArray 31)).drew
      have BB1 := (BB.alloc BB.size (.cells (ntL (X : Int) P Q).toArray 31)).drew
      clear hy hec BR BB
      go_enter Try.func18, Try.ntmps18
      go_wp2
      go_region
      all_goals go_wp2_with fail
      all_goals refine (HEC.out _).mono ?_
      all_goals rintro e w1 ⟨rfl, hb1⟩
      all_goals
        have BR2 := BR1.more hb1
        have BF := Lib.hid (BR2.all (us := ntL 0 false false) rfl)
        have BW := Lib.hid (below_setCells (Nat.le_refl w.heap.size) (ntL 0 false false) 0 _ (BB1.trans (hb1.mono BB1.size)))
        obtain ⟨r0, r1, r2⟩ := BR2.threeR
        have ri := BR2.ice
        clear BR2 hb1 BR1 BB1
        go_wp2
        show bodyPost Try.prog Try.f18 _ Exit.ret _ (w1.setCells w.heap.size 0 (ntL 0 false false))
        generalize w1.setCells w.heap.size 0 (ntL 0 false false) = WE at *
        obtain ⟨c0, c1, c2⟩ := BF.out.threeR
        refine bodyPost_ret_by (v := .tuple #[ntV 0 false false, .bool false]) ?_ rfl ⟨by rw [HV.out]; rfl, BW.out⟩
        simp [results, Try.f18, go_sem, c0, c1, c2]
  · have HV := Lib.hid (decN_no (fun h => hz h.1))
    have hne : ((s.size : Int) != 2) = true := by simp; omega
    clear hz
    go_enter Try.func18, Try.ntmps18
    go_wp2
    refine bodyPost_ret (v := .tuple #[ntV 0 false false, .bool false]) (by simp [results, Try.results18, go_sem]) rfl ⟨by rw [HV.out]; rfl, (Below.refl _ w).alloc (Nat.le_refl _) _⟩
end Go.Proofs.Ytmmedhjmilgnbaa
