/- What this text proves: the contracts of BlocksOf, of the program and of the model. -/
import Derived.Test.YtdponcannphboabDoorBlk
import Derived.Deep.RegionLaw
import Derived.Deep.LoopGhost
namespace Go.Proofs.YtdponcannphboabDoor
open Go.ChangeShapes Go.WideShapes Go.ChangeAt Go.RowKit
set_option linter.unusedVariables false

theorem take_more (L : List Int) (k : Nat) (h : k < L.length) : L.take (k + 1) = L.take k ++ [L[k]] := (List.take_append_getElem h).symm
theorem blocks_step (t : ByteArray) (n : Int) (k : Nat) (hk : k < (findV t n).length) (m q : Nat) (hn : n = (m : Int)) (hq : (findV t n)[k] = (q : Int)) (r : ByteArray × Int × Bool) (hr : readV (t.extract q (q + 2 * m)) = r) :
    (r.2.2 = true → textsF t n ((findV t n).take (k + 1)) = textsF t n ((findV t n).take k) ++ [r.1] ∧ badF t n ((findV t n).take (k + 1)) = badF t n ((findV t n).take k)) ∧
    (r.2.2 = false → textsF t n ((findV t n).take (k + 1)) = textsF t n ((findV t n).take k) ∧ badF t n ((findV t n).take (k + 1)) = badF t n ((findV t n).take k) + 1) := by
  have e : readAt t n (findV t n)[k] = r := by
    unfold readAt
    rw [hq, hn]
    simpa using hr
  rw [take_more _ k hk]
  constructor
  · intro h
    rw [← e] at h ⊢
    exact textsF_yes t n _ _ h
  · intro h
    rw [← e] at h
    exact textsF_no t n _ _ h

set_option maxHeartbeats 4000000 in
theorem blocks_impl (t : ByteArray) (ht : t.size ≤ 1048576) (n : Int) (w : World) (hT : BitW w) :
    Calls Tryd.prog 20 #[.string t, .int .i64 n] w (TextsRes (textsF t n (findV t n)) (badF t n (findV t n)) w) := by
  have HT := Lib.hid (fun W (hb : Below w.heap.size w W) => hT.more hb)
  clear hT
  have HF := Lib.hid (find_impl t ht n)
  have hll := findV_len t n
  have HAT := Lib.hid (fun k hk => findV_at t n k hk)
  have HSTEP := Lib.hid (fun k hk m q hn hq r hr => blocks_step t n k hk m q hn hq r hr)
  have HTL := Lib.hid (fun ps => textsF_len t n ps)
  have HBL := Lib.hid (fun ps => badF_len t n ps)
  have HFULL := Lib.hid (show ∀ k, (findV t n).length ≤ k → (findV t n).take k = findV t n from fun k hk => List.take_of_length_le hk)
  generalize findV t n = L at *
  obtain ⟨TF, hTF⟩ : ∃ TF : Nat → List ByteArray, ∀ k, textsF t n (L.take k) = TF k := ⟨_, fun _ => rfl⟩
  obtain ⟨BF, hBF⟩ : ∃ BF : Nat → Nat, ∀ k, badF t n (L.take k) = BF k := ⟨_, fun _ => rfl⟩
  have htl : ∀ k, (TF k).length ≤ L.length := fun k => by rw [← hTF]; exact Nat.le_trans (HTL.out _) (by rw [List.length_take]; omega)
  have hbl : ∀ k, BF k ≤ L.length := fun k => by rw [← hBF]; exact Nat.le_trans (HBL.out _) (by rw [List.length_take]; omega)
  have HZ := Lib.hid (show TF 0 = [] ∧ BF 0 = 0 from ⟨by rw [← hTF]; rfl, by rw [← hBF]; rfl⟩)
  have HTF := Lib.hid hTF
  have HBF := Lib.hid hBF
  have HTL2 := Lib.hid htl
  have HBL2 := Lib.hid hbl
  clear hTF hBF htl hbl
  go_enter Tryd.func20, Tryd.ntmps20
  go_wp2_with fail
  refine (HF.out _).mono ?_
  rintro e w1 ⟨vi, rfl, hi1, hb1⟩
  have HB1 := Lib.hid (((Below.refl _ w).alloc (Nat.le_refl _) (.cells #[] 9)).trans (hb1.mono (by simp)))
  have HS1 := Lib.hid ((OwnS.empty w w.heap.size (Nat.le_refl _)).more hb1)
  obtain ⟨Ai, ci, rfl⟩ := hi1.form
  obtain ⟨bi, hbi⟩ : ∃ bi, bi = (w.alloc (.cells #[] 9)).heap.size := ⟨_, rfl⟩
  rw [← hbi] at hi1
  have HI1 := Lib.hid hi1
  clear hi1 hb1 hbi
  go_wp2
  go_loopg [6, 7, 18] L.length (fun g v6 v7 vk wx => ∃ k : Nat, k ≤ L.length ∧ g = L.length - k ∧ vk = .int .i64 (k : Int) ∧ v7 = .int .i64 ((BF k : Nat) : Int) ∧ OwnS wx w.heap.size v6 (TF k) ∧ OwnI wx bi (.slice Ai L.length ci) L ∧ Below w.heap.size w wx)
  case atStart => exact ⟨0, by omega, rfl, rfl, by rw [HZ.out.2]; rfl, by rw [HZ.out.1]; exact HS1.out, HI1.out, HB1.out⟩
  case round =>
    obtain ⟨k, hk, rfl, rfl, rfl, hs, hi, hbel⟩ := hrel
    have HS := Lib.hid hs
    have HI := Lib.hid hi
    have HB := Lib.hid hbel
    have hsz := hbel.size
    have hb3 := HBL2.out k
    have ht3 := HTL2.out k
    by_cases hlt : k < L.length
    · have hd : decide (k < L.length) = true := by simp; omega
      have hd' : decide ((k : Int) < (L.length : Int)) = true := by simp; omega
      obtain ⟨gi, ci2, hvi, _, hglt, hcell, _⟩ := hi.rows (by omega)
      obtain ⟨rfl, rfl⟩ : Ai = some ⟨gi, 0, none⟩ ∧ ci = ci2 := by cases hvi; exact ⟨rfl, rfl⟩
      obtain ⟨m, q, rfl, hm, hq, hqm, ht2⟩ := HAT.out k hlt
      have hc := hcell k hlt
      rw [hq] at hc
      have hsl := slice_mid t q (q + 2 * m) (by omega) (by omega)
      rw [show ((q + 2 * m : Nat) : Int) = (q : Int) + 2 * (m : Int) by omega] at hsl
      have zx : (t.extract q (q + 2 * m)).size ≤ 1048576 := by rw [ByteArray.size_extract]; omega
      have hrd := read_impl (t.extract q (q + 2 * m)) zx
      obtain ⟨r, hr⟩ : ∃ r, readV (t.extract q (q + 2 * m)) = r := ⟨_, rfl⟩
      have HST := Lib.hid (HSTEP.out k hlt m q rfl hq r hr)
      rw [hr] at hrd
      generalize t.extract q (q + 2 * m) = X at *
      obtain ⟨xt, xn, xb⟩ := r
      simp only [retB] at hrd
      have HRD := Lib.hid hrd
      clear hr hrd hs hi hbel hcell hvi
      go_wp2_with fail
      refine (HRD.out _ (HT.out _ HB.out)).mono ?_
      rintro e w2 ⟨rfl, hb2⟩
      have HS2 := Lib.hid (OwnS.more HS.out hb2)
      have HI2 := Lib.hid (OwnI.more HI.out hb2)
      have HB2 := Lib.hid (HB.out.trans (hb2.mono HB.out.size))
      have hsz2 := HB2.out.size
      cases xb with
      | true =>
        have hT1 := (HST.out.1 rfl).1
        have hB1 := (HST.out.1 rfl).2
        rw [HTF.out, HTF.out] at hT1
        rw [HBF.out, HBF.out] at hB1
        have HT1 := Lib.hid hT1
        have HB1' := Lib.hid hB1
        clear hT1 hB1 hb2 hc hq
        go_wp2_with (at_builtin; refine app_text2 w2 rfl _ _ rfl w.heap.size u6 (TF k) xt rfl HS2.out bi (.slice (some ⟨gi, 0, none⟩) L.length ci) L HI2.out _ 1 rfl ?c1 hsz2 ?_)
        case c1 => omega
        intro v' w' hown' hi' hbel' hsz'
        go_wp2
        go_roundg (L.length - (k + 1))
        case measure => omega
        case rel => exact ⟨k + 1, by omega, rfl, by go_num, by rw [HB1'.out], by rw [HT1.out]; exact hown', hi', HB2.out.trans hbel'⟩
      | false =>
        have hT1 := (HST.out.2 rfl).1
        have hB1 := (HST.out.2 rfl).2
        rw [HTF.out, HTF.out] at hT1
        rw [HBF.out, HBF.out] at hB1
        have HT1 := Lib.hid hT1
        have HB1' := Lib.hid hB1
        clear hT1 hB1 hb2 hc hq
        go_wp2
        go_roundg (L.length - (k + 1))
        case measure => omega
        case rel => exact ⟨k + 1, by omega, rfl, by go_num, by rw [HB1'.out]; go_num, by rw [HT1.out]; exact HS2.out, HI2.out, HB2.out⟩
    · obtain rfl : k = L.length := by omega
      have hd : decide (L.length < L.length) = false := by simp
      have hd' : decide ((L.length : Int) < (L.length : Int)) = false := by simp
      have hTL := HTF.out L.length
      have hBL := HBF.out L.length
      rw [HFULL.out _ (Nat.le_refl _)] at hTL hBL
      have HTE := Lib.hid hTL
      have HBE := Lib.hid hBL
      obtain ⟨A2, c2, rfl⟩ := hs.form
      clear hTL hBL hs hi hbel
      go_wp2
      go_ret2
      exact ⟨_, by rw [HBE.out]; rfl, by rw [HTE.out]; exact HS.out, HB.out⟩
end Go.Proofs.YtdponcannphboabDoor
