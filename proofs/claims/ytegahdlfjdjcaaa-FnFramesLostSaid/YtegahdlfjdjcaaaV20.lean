/- What this text proves: the parts TakM, FrmD of the proof, each under its own words. -/
import Derived.Test.YtegahdlfjdjcaaaV15
import Derived.Test.YtegahdlfjdjcaaaV16
import Derived.Test.YtegahdlfjdjcaaaV11
import Derived.BigRegion
import Derived.RegionTactic
import Derived.Outline
/- What this text proves: what TakeFrame answers, as numbers and bytes. -/
namespace Go.Proofs.Ytegahdlfjdjcaaa
open Go.ChangeShapes Go.WideShapes Go.ChangeAt Go.RowKit
set_option linter.unusedVariables false

/-- The Starts behind the first frame, of the first k. -/
def laterK (l : List Int) : Nat → List Int
  | 0 => []
  | k + 1 => laterK l k ++ (if 24 ≤ l.getD k 0 then [l.getD k 0 - 24] else [])
theorem laterK_len (l : List Int) (k : Nat) : (laterK l k).length ≤ k := by
  induction k with
  | zero => exact Nat.le_refl _
  | succ k ih => simp only [laterK]; split <;> simp <;> omega
theorem laterK_yes {l : List Int} {k : Nat} (h : 24 ≤ l.getD k 0) : laterK l (k + 1) = laterK l k ++ [l.getD k 0 - 24] := by simp only [laterK]; rw [if_pos h]
theorem laterK_no {l : List Int} {k : Nat} (h : ¬ 24 ≤ l.getD k 0) : laterK l (k + 1) = laterK l k := by simp only [laterK]; rw [if_neg h, List.append_nil]
/-- Where the first packet of the first frame begins. -/
def firstI (l : List Int) : Int := if 0 < l.length ∧ l.getD 0 0 < 24 then l.getD 0 0 else 255
def TkOk (c n : Int) (r : ByteArray) (l : List Int) : Prop := PaOk c n r l ∧ 24 ≤ r.size
open Classical in
noncomputable def tkB (c n : Int) (r : ByteArray) (l : List Int) : Bool := decide (TkOk c n r l)
theorem tkB_yes {c n : Int} {r : ByteArray} {l : List Int} (h : TkOk c n r l) : tkB c n r l = true := by unfold tkB; exact @decide_eq_true _ (Classical.propDecidable _) h
theorem tkB_no {c n : Int} {r : ByteArray} {l : List Int} (h : ¬ TkOk c n r l) : tkB c n r l = false := by unfold tkB; exact @decide_eq_false _ (Classical.propDecidable _) h
noncomputable def tkN (c n : Int) (r : ByteArray) (l : List Int) : Int := bif tkB c n r l then (n + 1) % 256 else n
noncomputable def tkR (c n : Int) (r : ByteArray) (l : List Int) : ByteArray := bif tkB c n r l then r.extract 24 r.size else r
noncomputable def tkL (c n : Int) (r : ByteArray) (l : List Int) : List Int := bif tkB c n r l then laterK l l.length else l
/-- A frame: Channel, Count, First, Data. -/
abbrev Fr := Int × Int × Int × ByteArray
abbrev frW (f : Fr) : Value := frV f.1 f.2.1 f.2.2.1 f.2.2.2
noncomputable def tkF (c n : Int) (r : ByteArray) (l : List Int) : Fr := bif tkB c n r l then (c, n, firstI l, r.extract 0 24) else (0, 0, 0, ⟨#[]⟩)
/-- What TakeFrame answers. -/
def TakeEnd (c n : Int) (r : ByteArray) (l : List Int) (w : World) (e : Ending) (w' : World) : Prop :=
  ∃ v, e = .returned (.tuple #[paV c (tkN c n r l) (tkR c n r l) v, frW (tkF c n r l), .bool (tkB c n r l)]) ∧ OwnI w' w.heap.size v (tkL c n r l) ∧ Below w.heap.size w w'
theorem TakeEnd.no {c n : Int} {r : ByteArray} {l : List Int} {w w' : World} {v : Value} (h : ¬ TkOk c n r l) (ho : OwnI w' w.heap.size v l) (hb : Below w.heap.size w w') : TakeEnd c n r l w (.returned (.tuple #[paV c n r v, frV 0 0 0 ⟨#[]⟩, .bool false])) w' :=
  ⟨v, by unfold tkN tkR tkF; rw [tkB_no h]; rfl, by unfold tkL; rw [tkB_no h]; exact ho, hb⟩
theorem TakeEnd.yes {c n : Int} {r : ByteArray} {l : List Int} {w w' : World} {v : Value} (h : TkOk c n r l) (ho : OwnI w' w.heap.size v (laterK l l.length)) (hb : Below w.heap.size w w') : TakeEnd c n r l w (.returned (.tuple #[paV c ((n + 1) % 256) (r.extract 24 r.size) v, frV c n (firstI l) (r.extract 0 24), .bool true])) w' :=
  ⟨v, by unfold tkN tkR tkF; rw [tkB_yes h]; rfl, by unfold tkL; rw [tkB_yes h]; exact ho, hb⟩
theorem tkL_len (c n : Int) (r : ByteArray) (l : List Int) : (tkL c n r l).length ≤ l.length := by
  unfold tkL
  cases tkB c n r l
  · exact Nat.le_refl _
  · exact laterK_len l l.length
end Go.Proofs.Ytegahdlfjdjcaaa
/- What this text proves: the contract of the model's DecodeFrame. -/
namespace Go.Proofs.Ytegahdlfjdjcaaa
open Go.ChangeShapes Go.WideShapes Go.ChangeAt Go.RowKit
set_option linter.unusedVariables false

/-- Whether the bytes behind a sealed text are a frame. -/
def DfOk (t : ByteArray) : Prop := t.size = 27 ∧ FrOk (byteAt t 0 : Nat) (byteAt t 1 : Nat) (byteAt t 2 : Nat) (t.extract 3 t.size)
/-- What DecodeFrame returns: Channel, Count, First, Data, whether there is one. -/
noncomputable def decF (s : ByteArray) : Int × Int × Int × ByteArray × Bool := open Classical in
  if (openV s).2 = true ∧ DfOk (openV s).1 then (((byteAt (openV s).1 0 : Nat) : Int), ((byteAt (openV s).1 1 : Nat) : Int), ((byteAt (openV s).1 2 : Nat) : Int), (openV s).1.extract 3 (openV s).1.size, true) else (0, 0, 0, ⟨#[]⟩, false)
theorem decF_yes {s t : ByteArray} (ho : openV s = (t, true)) (h : DfOk t) : decF s = (((byteAt t 0 : Nat) : Int), ((byteAt t 1 : Nat) : Int), ((byteAt t 2 : Nat) : Int), t.extract 3 t.size, true) := by
  unfold decF; rw [ho, if_pos ⟨rfl, h⟩]
theorem decF_no {s t : ByteArray} {b : Bool} (ho : openV s = (t, b)) (h : ¬ (b = true ∧ DfOk t)) : decF s = (0, 0, 0, ⟨#[]⟩, false) := by
  unfold decF; rw [ho, if_neg h]
def retF (r : Int × Int × Int × ByteArray × Bool) : Ending := .returned (.tuple #[frV r.1 r.2.1 r.2.2.1 r.2.2.2.1, .bool r.2.2.2.2])

set_option maxHeartbeats 4000000 in
theorem decF_spec (s : ByteArray) (hs : s.size ≤ 1048576) (w : World) :
    Calls Try.prog 44 #[.string s] w fun e w' => e = retF (decF s) ∧ Below w.heap.size w w' := by
  have HO0 := open_spec s hs
  obtain ⟨⟨t, b⟩, hP⟩ : ∃ P, openV s = P := ⟨_, rfl⟩
  rw [hP] at HO0
  simp only [retO] at HO0
  have HO := Lib.hid HO0
  have HP := Lib.hid hP
  clear HO0 hP
  have BR0 := Box.made w (frL 0 0 0 ⟨#[]⟩) 39 _ rfl
  have BB0 : Below w.heap.size w (w.alloc (.cells (frL 0 0 0 ⟨#[]⟩).toArray 39)) := (Below.refl _ w).alloc (Nat.le_refl _) _
  have hz0 := BB0.size
  by_cases hb : b = true ∧ t.size = 27
  · obtain ⟨rfl, hz⟩ := hb
    have hne : ((t.size : Int) != 27) = false := by simp; omega
    have e0 := byteAt_of t 0 (by omega)
    have e1 := byteAt_of t 1 (by omega)
    have e2 := byteAt_of t 2 (by omega)
    have l0 := byteAt_lt t 0
    have l1 := byteAt_lt t 1
    have l2 := byteAt_lt t 2
    have hsl : ∀ W : World, (Instr.slice 9 (.string t) (some (.int .i64 3)) none none).run Try.prog W = .ok (.string (t.extract 3 t.size)) W := fun W => by
      have h := run_slice_string_from_if W 9 t .i64 3 Try.underlying9
      rw [if_pos (by omega)] at h
      exact h
    have HDY := Lib.hid (fun h => decF_yes HP.out (t := t) h)
    have HDN := Lib.hid (fun h => decF_no HP.out (t := t) (b := true) h)
    have HDF := Lib.hid (show DfOk t ↔ FrOk (byteAt t 0 : Nat) (byteAt t 1 : Nat) (byteAt t 2 : Nat) (t.extract 3 t.size) from ⟨fun h => h.2, fun h => ⟨hz, h⟩⟩)
    generalize t.extract 3 t.size = D at *
    have HK0 := fo_spec (byteAt t 0 : Nat) (byteAt t 1 : Nat) (byteAt t 2 : Nat) D
    generalize byteAt t 0 = X at *
    generalize byteAt t 1 = Y at *
    generalize byteAt t 2 = Z at *
    have w0 : IntKind.i64.wrap (X : Int) = (X : Int) := IntWalk.i64_in _ (by omega)
    have w1 : IntKind.i64.wrap (Y : Int) = (Y : Int) := IntWalk.i64_in _ (by omega)
    have w2 : IntKind.i64.wrap (Z : Int) = (Z : Int) := IntWalk.i64_in _ (by omega)
    go_enter Try.func44, Try.ntmps44
    go_wp2_with fail
    refine (HO.out _).mono ?_
    rintro e v1 ⟨rfl, hb1⟩
    have BR1 := Lib.hid (BR0.more hb1)
    have BB1 := Lib.hid (BB0.trans (hb1.mono hz0))
    clear hb1 BR0
    go_wp2
    go_region
    go_wp2_with fail
    have BRd := (BR1.out.alloc (.cells (frL (X : Int) (Y : Int) (Z : Int) D).toArray 39)).drew
    have BPd := (Box.made v1 (frL (X : Int) (Y : Int) (Z : Int) D) 39 _ rfl).drew
    have BBd := (BB1.out.alloc BB1.out.size (.cells (frL (X : Int) (Y : Int) (Z : Int) D).toArray 39)).drew
    by_cases hk : FrOk (X : Int) (Y : Int) (Z : Int) D
    · rw [decide_eq_true hk] at HK0
      refine (HK0 _).mono ?_
      rintro e v2 ⟨rfl, hb2⟩
      have BR2 := BRd.more hb2
      have BP2 := BPd.more hb2
      have BW2 := BBd.trans (hb2.mono BBd.size)
      obtain ⟨k0, k1, k2, k3⟩ := BP2.four
      obtain ⟨m0, m1, m2, m3⟩ := BR2.four
      have mi := BR2.ice
      have BF := Lib.hid (BR2.all (us := frL (X : Int) (Y : Int) (Z : Int) D) rfl)
      have BW := Lib.hid (below_setCells (Nat.le_refl w.heap.size) (frL (X : Int) (Y : Int) (Z : Int) D) 0 v2 BW2)
      have HV := Lib.hid (HDY.out (HDF.out.2 hk))
      clear BR2 BP2 BW2 hb2 BRd BPd BBd
      go_wp2
      show bodyPost Try.prog Try.f44 _ Exit.ret _ (v2.setCells w.heap.size 0 (frL (X : Int) (Y : Int) (Z : Int) D))
      generalize v2.setCells w.heap.size 0 (frL (X : Int) (Y : Int) (Z : Int) D) = WE at *
      obtain ⟨c0, c1, c2, c3⟩ := BF.out.four
      refine bodyPost_ret_by (v := .tuple #[frV (X : Int) (Y : Int) (Z : Int) D, .bool true]) ?_ rfl ⟨by rw [HV.out]; rfl, BW.out⟩
      simp [results, Try.f44, go_sem, c0, c1, c2, c3]
    · rw [decide_eq_false hk] at HK0
      refine (HK0 _).mono ?_
      rintro e v2 ⟨rfl, hb2⟩
      have BR2 := BRd.more hb2
      have BP2 := BPd.more hb2
      have BW2 := BBd.trans (hb2.mono BBd.size)
      obtain ⟨k0, k1, k2, k3⟩ := BP2.four
      obtain ⟨m0, m1, m2, m3⟩ := BR2.four
      have mi := BR2.ice
      have BF := Lib.hid (BR2.all (us := frL 0 0 0 ⟨#[]⟩) rfl)
      have BW := Lib.hid (below_setCells (Nat.le_refl w.heap.size) (frL 0 0 0 ⟨#[]⟩) 0 v2 BW2)
      have HV := Lib.hid (HDN.out (fun h => hk (HDF.out.1 h.2)))
      clear BR2 BP2 BW2 hb2 BRd BPd BBd
      go_wp2
      show bodyPost Try.prog Try.f44 _ Exit.ret _ (v2.setCells w.heap.size 0 (frL 0 0 0 ⟨#[]⟩))
      generalize v2.setCells w.heap.size 0 (frL 0 0 0 ⟨#[]⟩) = WE at *
      obtain ⟨c0, c1, c2, c3⟩ := BF.out.four
      refine bodyPost_ret_by (v := .tuple #[frV 0 0 0 ⟨#[]⟩, .bool false]) ?_ rfl ⟨by rw [HV.out]; rfl, BW.out⟩
      simp [results, Try.f44, go_sem, c0, c1, c2, c3]
  · have HV := Lib.hid (decF_no HP.out (b := b) (fun h => hb ⟨h.1, h.2.1⟩))
    have fin : ∀ (v1 : World), Below (w.alloc (.cells (frL 0 0 0 ⟨#[]⟩).toArray 39)).heap.size (w.alloc (.cells (frL 0 0 0 ⟨#[]⟩).toArray 39)) v1 → Box v1 w.heap.size (frL 0 0 0 ⟨#[]⟩) ∧ Box (v1.setCells w.heap.size 0 (frL 0 0 0 ⟨#[]⟩)) w.heap.size (frL 0 0 0 ⟨#[]⟩) ∧ Below w.heap.size w (v1.setCells w.heap.size 0 (frL 0 0 0 ⟨#[]⟩)) := fun v1 hb1 =>
      ⟨BR0.more hb1, (BR0.more hb1).all rfl, below_setCells (Nat.le_refl _) _ _ _ (BB0.trans (hb1.mono hz0))⟩
    have FIN := Lib.hid fin
    clear fin BR0 BB0
    cases b with
    | true =>
      have hne : ((t.size : Int) != 27) = true := by
        simp
        intro h
        exact hb ⟨rfl, by omega⟩
      go_enter Try.func44, Try.ntmps44
      go_wp2_with fail
      refine (HO.out _).mono ?_
      rintro e v1 ⟨rfl, hb1⟩
      obtain ⟨B1, B2, B3⟩ := FIN.out v1 hb1
      obtain ⟨m0, m1, m2, m3⟩ := B1.four
      have mi := B1.ice
      have BF := Lib.hid B2
      have BW := Lib.hid B3
      clear B1 B2 B3 hb1
      go_wp2
      show bodyPost Try.prog Try.f44 _ Exit.ret _ (v1.setCells w.heap.size 0 (frL 0 0 0 ⟨#[]⟩))
      generalize v1.setCells w.heap.size 0 (frL 0 0 0 ⟨#[]⟩) = WE at *
      obtain ⟨c0, c1, c2, c3⟩ := BF.out.four
      refine bodyPost_ret_by (v := .tuple #[frV 0 0 0 ⟨#[]⟩, .bool false]) ?_ rfl ⟨by rw [HV.out]; rfl, BW.out⟩
      simp [results, Try.f44, go_sem, c0, c1, c2, c3]
    | false =>
      go_enter Try.func44, Try.ntmps44
      go_wp2_with fail
      refine (HO.out _).mono ?_
      rintro e v1 ⟨rfl, hb1⟩
      obtain ⟨B1, B2, B3⟩ := FIN.out v1 hb1
      obtain ⟨m0, m1, m2, m3⟩ := B1.four
      have mi := B1.ice
      have BF := Lib.hid B2
      have BW := Lib.hid B3
      clear B1 B2 B3 hb1
      go_wp2
      show bodyPost Try.prog Try.f44 _ Exit.ret _ (v1.setCells w.heap.size 0 (frL 0 0 0 ⟨#[]⟩))
      generalize v1.setCells w.heap.size 0 (frL 0 0 0 ⟨#[]⟩) = WE at *
      obtain ⟨c0, c1, c2, c3⟩ := BF.out.four
      refine bodyPost_ret_by (v := .tuple #[frV 0 0 0 ⟨#[]⟩, .bool false]) ?_ rfl ⟨by rw [HV.out]; rfl, BW.out⟩
      simp [results, Try.f44, go_sem, c0, c1, c2, c3]
end Go.Proofs.Ytegahdlfjdjcaaa
