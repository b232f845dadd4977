/- What this text proves: the contract of the program's DecodeFrame. -/
import Derived.Test.YtegahdlfjdjcaaaFrmD
import Derived.Test.YtegahdlfjdjcaaaIFr
import Derived.Test.YtegahdlfjdjcaaaBytes
namespace Go.Proofs.Ytegahdlfjdjcaaa
open Go.ChangeShapes Go.WideShapes Go.ChangeAt Go.RowKit
set_option linter.unusedVariables false

theorem open_size {s t : ByteArray} (h : openV s = (t, true)) : t.size + 2 = s.size := by
  by_cases ho : OpenOk s
  · rw [openV_yes ho] at h
    have e : s.extract 0 (s.size - 2) = t := congrArg Prod.fst h
    rw [← e, ByteArray.size_extract]
    have := ho.1
    omega
  · rw [openV_no ho] at h
    exact absurd (congrArg Prod.snd h) (by simp)
theorem valW_one (t : ByteArray) (i : Nat) : valW t i 1 = byteAt t i := by
  show 256 * 0 + byteAt t (i + 0) = byteAt t i
  rw [Nat.add_zero]
  omega

set_option maxHeartbeats 4000000 in
theorem decF_impl (s : ByteArray) (hs : s.size ≤ 1048576) (w : World) :
    Calls Try.prog 25 #[.string s] w fun e w' => e = retF (decF s) ∧ Below w.heap.size w w' := by
  have HO0 := open_impl s hs
  obtain ⟨⟨t, b⟩, hP⟩ : ∃ P, openV s = P := ⟨_, rfl⟩
  rw [hP] at HO0
  simp only [retO] at HO0
  have HO := Lib.hid HO0
  have HP := Lib.hid hP
  clear HO0 hP
  have BR0 := Box.made w (frL 0 0 0 ⟨#[]⟩) 39 _ rfl
  have BB0 : Below w.heap.size w (w.alloc (.cells (frL 0 0 0 ⟨#[]⟩).toArray 39)) := (Below.refl _ w).alloc (Nat.le_refl _) _
  have hz0 := BB0.size
  have HBR0 := Lib.hid BR0
  have HBB0 := Lib.hid BB0
  by_cases hb : b = true ∧ s.size = 29
  · obtain ⟨rfl, hz29⟩ := hb
    have hz : t.size = 27 := by have := open_size HP.out; omega
    have hne : ((s.size : Int) != 29) = false := by simp; omega
    have hsl : ∀ W : World, (Instr.slice 9 (.string t) (some (.int .i64 3)) none none).run Try.prog W = .ok (.string (t.extract 3 t.size)) W := fun W => by
      have h := run_slice_string_from_if W 9 t .i64 3 Try.underlying9
      rw [if_pos (by omega)] at h
      exact h
    have hm : t.size ≤ maxLen := by unfold maxLen; omega
    have H1 := Lib.hid (show ∀ W, _ from fun W => get_yes_impl t 0 1 (by decide) (by decide) (by omega) hm W)
    have H2 := Lib.hid (show ∀ W, _ from fun W => get_yes_impl t 1 1 (by decide) (by decide) (by omega) hm W)
    have H3 := Lib.hid (show ∀ W, _ from fun W => get_yes_impl t 2 1 (by decide) (by decide) (by omega) hm W)
    rw [valW_one] at H1 H2 H3
    have HDY := Lib.hid (fun h => decF_yes HP.out (t := t) h)
    have HDN := Lib.hid (fun h => decF_no HP.out (t := t) (b := true) h)
    have HDF := Lib.hid (show DfOk t ↔ FrOk (byteAt t 0 : Nat) (byteAt t 1 : Nat) (byteAt t 2 : Nat) (t.extract 3 t.size) from ⟨fun h => h.2, fun h => ⟨hz, h⟩⟩)
    generalize t.extract 3 t.size = D at *
    have HK0 := fo_impl (byteAt t 0 : Nat) (byteAt t 1 : Nat) (byteAt t 2 : Nat) D
    generalize byteAt t 0 = X at *
    generalize byteAt t 1 = Y at *
    generalize byteAt t 2 = Z at *
    clear BR0 BB0
    go_enter Try.func25, Try.ntmps25
    go_wp2_with fail
    refine (HO.out _).mono ?_
    rintro e v1 ⟨rfl, hb1⟩
    have BR1 := Lib.hid (HBR0.out.more hb1)
    have BB1 := Lib.hid (HBB0.out.trans (hb1.mono hz0))
    clear hb1
    go_wp2_with fail
    refine (H1.out _).mono ?_
    rintro e w' ⟨rfl, rfl⟩
    go_wp2_with fail
    refine (H2.out _).mono ?_
    rintro e w' ⟨rfl, rfl⟩
    go_wp2_with fail
    refine (H3.out _).mono ?_
    rintro e w' ⟨rfl, rfl⟩
    go_wp2_with fail
    have BRd := (BR1.out.alloc (.cells (frL (X : Int) (Y : Int) (Z : Int) D).toArray 39))
    have BPd := (Box.made v1 (frL (X : Int) (Y : Int) (Z : Int) D) 39 _ rfl)
    have BBd := (BB1.out.alloc BB1.out.size (.cells (frL (X : Int) (Y : Int) (Z : Int) D).toArray 39))
    by_cases hk : FrOk (X : Int) (Y : Int) (Z : Int) D
    · rw [decide_eq_true hk] at HK0
      refine (HK0 _).mono ?_
      rintro e v2 ⟨rfl, hb2⟩
      have BR2 := BRd.more hb2
      have BP2 := BPd.more hb2
      have BW2 := BBd.trans (hb2.mono BBd.size)
      obtain ⟨k0, k1, k2, k3⟩ := BP2.four
      obtain ⟨m0, m1, m2, m3⟩ := BR2.four
      have mi := BR2.ice
      have BF := Lib.hid (BR2.all (us := frL (X : Int) (Y : Int) (Z : Int) D) rfl)
      have BW := Lib.hid (below_setCells (Nat.le_refl w.heap.size) (frL (X : Int) (Y : Int) (Z : Int) D) 0 v2 BW2)
      have HV := Lib.hid (HDY.out (HDF.out.2 hk))
      clear BR2 BP2 BW2 hb2 BRd BPd BBd
      go_wp2
      show bodyPost Try.prog Try.f25 _ Exit.ret _ (v2.setCells w.heap.size 0 (frL (X : Int) (Y : Int) (Z : Int) D))
      generalize v2.setCells w.heap.size 0 (frL (X : Int) (Y : Int) (Z : Int) D) = WE at *
      obtain ⟨c0, c1, c2, c3⟩ := BF.out.four
      refine bodyPost_ret_by (v := .tuple #[frV (X : Int) (Y : Int) (Z : Int) D, .bool true]) ?_ rfl ⟨by rw [HV.out]; rfl, BW.out⟩
      simp [results, Try.f25, go_sem, c0, c1, c2, c3]
    · rw [decide_eq_false hk] at HK0
      refine (HK0 _).mono ?_
      rintro e v2 ⟨rfl, hb2⟩
      have BR2 := BRd.more hb2
      have BP2 := BPd.more hb2
      have BW2 := BBd.trans (hb2.mono BBd.size)
      obtain ⟨k0, k1, k2, k3⟩ := BP2.four
      obtain ⟨m0, m1, m2, m3⟩ := BR2.four
      have mi := BR2.ice
      have BF := Lib.hid (BR2.all (us := frL 0 0 0 ⟨#[]⟩) rfl)
      have BW := Lib.hid (below_setCells (Nat.le_refl w.heap.size) (frL 0 0 0 ⟨#[]⟩) 0 v2 BW2)
      have HV := Lib.hid (HDN.out (fun h => hk (HDF.out.1 h.2)))
      clear BR2 BP2 BW2 hb2 BRd BPd BBd
      go_wp2
      show bodyPost Try.prog Try.f25 _ Exit.ret _ (v2.setCells w.heap.size 0 (frL 0 0 0 ⟨#[]⟩))
      generalize v2.setCells w.heap.size 0 (frL 0 0 0 ⟨#[]⟩) = WE at *
      obtain ⟨c0, c1, c2, c3⟩ := BF.out.four
      refine bodyPost_ret_by (v := .tuple #[frV 0 0 0 ⟨#[]⟩, .bool false]) ?_ rfl ⟨by rw [HV.out]; rfl, BW.out⟩
      simp [results, Try.f25, go_sem, c0, c1, c2, c3]
  · have HV := Lib.hid (decF_no HP.out (b := b) (fun h => by
      obtain ⟨h1, h2⟩ := h
      subst h1
      have := open_size HP.out
      have := h2.1
      exact hb ⟨rfl, by omega⟩))
    have fin : ∀ (v1 : World), Below (w.alloc (.cells (frL 0 0 0 ⟨#[]⟩).toArray 39)).heap.size (w.alloc (.cells (frL 0 0 0 ⟨#[]⟩).toArray 39)) v1 → Box v1 w.heap.size (frL 0 0 0 ⟨#[]⟩) ∧ Box (v1.setCells w.heap.size 0 (frL 0 0 0 ⟨#[]⟩)) w.heap.size (frL 0 0 0 ⟨#[]⟩) ∧ Below w.heap.size w (v1.setCells w.heap.size 0 (frL 0 0 0 ⟨#[]⟩)) := fun v1 hb1 =>
      ⟨BR0.more hb1, (BR0.more hb1).all rfl, below_setCells (Nat.le_refl _) _ _ _ (BB0.trans (hb1.mono hz0))⟩
    have FIN := Lib.hid fin
    clear fin BR0 BB0
    cases b with
    | true =>
      have hne : ((s.size : Int) != 29) = true := by
        simp
        intro h
        exact hb ⟨rfl, by omega⟩
      go_enter Try.func25, Try.ntmps25
      go_wp2_with fail
      refine (HO.out _).mono ?_
      rintro e v1 ⟨rfl, hb1⟩
      obtain ⟨B1, B2, B3⟩ := FIN.out v1 hb1
      obtain ⟨m0, m1, m2, m3⟩ := B1.four
      have mi := B1.ice
      have BF := Lib.hid B2
      have BW := Lib.hid B3
      clear B1 B2 B3 hb1
      go_wp2
      show bodyPost Try.prog Try.f25 _ Exit.ret _ (v1.setCells w.heap.size 0 (frL 0 0 0 ⟨#[]⟩))
      generalize v1.setCells w.heap.size 0 (frL 0 0 0 ⟨#[]⟩) = WE at *
      obtain ⟨c0, c1, c2, c3⟩ := BF.out.four
      refine bodyPost_ret_by (v := .tuple #[frV 0 0 0 ⟨#[]⟩, .bool false]) ?_ rfl ⟨by rw [HV.out]; rfl, BW.out⟩
      simp [results, Try.f25, go_sem, c0, c1, c2, c3]
    | false =>
      go_enter Try.func25, Try.ntmps25
      go_wp2_with fail
      refine (HO.out _).mono ?_
      rintro e v1 ⟨rfl, hb1⟩
      obtain ⟨B1, B2, B3⟩ := FIN.out v1 hb1
      obtain ⟨m0, m1, m2, m3⟩ := B1.four
      have mi := B1.ice
      have BF := Lib.hid B2
      have BW := Lib.hid B3
      clear B1 B2 B3 hb1
      go_wp2
      show bodyPost Try.prog Try.f25 _ Exit.ret _ (v1.setCells w.heap.size 0 (frL 0 0 0 ⟨#[]⟩))
      generalize v1.setCells w.heap.size 0 (frL 0 0 0 ⟨#[]⟩) = WE at *
      obtain ⟨c0, c1, c2, c3⟩ := BF.out.four
      refine bodyPost_ret_by (v := .tuple #[frV 0 0 0 ⟨#[]⟩, .bool false]) ?_ rfl ⟨by rw [HV.out]; rfl, BW.out⟩
      simp [results, Try.f25, go_sem, c0, c1, c2, c3]
end Go.Proofs.Ytegahdlfjdjcaaa
