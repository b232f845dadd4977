/- What this text proves: the law of bursts: a block that a burst has hit, as long as its code words are many, is read as it was sent. -/
import Derived.Test.YtdponcannphboabDoorLnkV
import Derived.Test.YtdponcannphboabDoorBrstw
import Derived.Test.YtdponcannphboabDoorDraw
import Derived.Test.YtdponcannphboabDoorAt
import Derived.Test.YtdponcannphboabDoorEmp
import Derived.Deep.RegionLaw
namespace Go.Proofs.YtdponcannphboabDoor
open Go.ChangeShapes Go.WideShapes Go.ChangeAt Go.RowKit
set_option linter.unusedVariables false

theorem made_tail (s : ByteArray) (h0 : 0 < s.size) (hs : s.size ≤ 200) : (makeT s).extract 4 (makeT s).size = bodyT s := by
  have hm : makeT s = markT ++ bodyT s := by unfold makeT; rw [if_neg (by omega)]
  rw [hm]
  generalize bodyT s = B
  have hz : (markT ++ B).size = 4 + B.size := by rw [ByteArray.size_append]; rfl
  apply ByteArray.ext
  apply Array.toList_inj.1
  rw [hz, ByteArray.data_extract, Array.toList_extract, ByteArray.data_append, Array.toList_append, show markT.data.toList = [26, 207, 252, 29] from rfl]
  show List.take (4 + B.size - 4) (List.drop 4 ([26, 207, 252, 29] ++ B.data.toList)) = _
  rw [show List.drop 4 ([26, 207, 252, 29] ++ B.data.toList) = B.data.toList from rfl]
  refine List.take_of_length_le ?_
  simp
theorem made_head (s : ByteArray) (h0 : 0 < s.size) (hs : s.size ≤ 200) : (makeT s).extract 0 4 = ⟨#[26, 207, 252, 29]⟩ := by
  have hm : makeT s = markT ++ bodyT s := by unfold makeT; rw [if_neg (by omega)]
  rw [hm]
  generalize bodyT s = B
  apply ByteArray.ext
  apply Array.toList_inj.1
  rw [ByteArray.data_extract, Array.toList_extract, ByteArray.data_append, Array.toList_append, show markT.data.toList = [26, 207, 252, 29] from rfl]
  rfl

set_option maxHeartbeats 4000000 in
theorem law_bursts (A : Option Addr) (n c : Nat) (hm : n ≤ maxLen) (w : World) (hc : CodeOk w w.heap.size A n) (hT : BitW w) :
    Calls Tryd.prog 5 #[.slice A n c] w fun e w' => e = .returned (.bool true) ∧ Below w.heap.size w w' := by
  by_cases hbig : 1048576 < n
  · clear hT
    go_enter Tryd.func5, Tryd.ntmps5
    go_wp2_with (go_at_call 13; refine (big_yes _ _ _ hbig hm _).mono ?_; rintro e w' ⟨rfl, rfl⟩)
    go_ret
    exact ⟨rfl, Below.refl _ _⟩
  · have hn : n ≤ 1048576 := by omega
    have Ha := Lib.hid (fun (w1 : World) (hb : Below w.heap.size w w1) i hi => at_any w.heap.size A n c hn i hi w1 (hc.more hb))
    have Ha0 := Lib.hid (show ∀ W, Below w.heap.size w W → Calls Tryd.prog 16 #[.slice A n c, .int .i64 0] W (Small W) from fun W hb => Ha.out W hb 0 (by omega))
    have Ha1 := Lib.hid (show ∀ W, Below w.heap.size w W → Calls Tryd.prog 16 #[.slice A n c, .int .i64 1] W (Small W) from fun W hb => Ha.out W hb 1 (by omega))
    have Hd := Lib.hid (draw_bytes A n c hn w hc)
    have HT := Lib.hid (fun W (hb : Below w.heap.size w W) => hT.more hb)
    clear hc hbig hT
    go_enter Tryd.func5, Tryd.ntmps5
    go_wp2_with (go_at_call 13; refine (big_no _ _ _ hn _).mono ?_; rintro e w' ⟨rfl, rfl⟩)
    refine Hd.out.mono ?_
    rintro e w1 ⟨s, hs, rfl, hb1⟩
    have B1 := Lib.hid hb1
    clear hb1
    have HM := Lib.hid (make_impl s (by omega))
    by_cases h0 : s.size = 0
    · have d0 := text_none s h0
      have HE := Lib.hid (show makeT s = ⟨#[]⟩ by unfold makeT; rw [if_pos (Or.inl h0)])
      rw [HE.out] at HM
      go_wp2_with fail
      refine (HM.out _ (HT.out _ B1.out)).mono ?_
      rintro e w2 ⟨rfl, hb2⟩
      go_wp2
      go_ret
      exact ⟨rfl, B1.out.trans (hb2.mono B1.out.size)⟩
    · have d0 := text_full s (by omega)
      have e4 := made_tail s (by omega) (by omega)
      have e0 := made_head s (by omega) (by omega)
      have zM := makeT_size s (by omega) (by omega)
      have zu := bodyT_size s
      have HR0 := Lib.hid (readV_body s (by omega) (by omega))
      have HRB := Lib.hid (fun a b h1 h2 h3 => readV_burst s (by omega) (by omega) a b h1 h2 h3)
      have hsl : ∀ W : World, (Instr.slice 9 (.string (makeT s)) (some (.int .i64 4)) none none).run Tryd.prog W = .ok (.string (bodyT s)) W := fun W => by
        have h := run_slice_string_from_if W 9 (makeT s) .i64 4 Tryd.underlying9
        rw [if_pos (by omega), show (4 : Int).toNat = 4 from rfl, e4] at h
        exact h
      have hsm : ∀ W : World, (Instr.slice 9 (.string (makeT s)) none (some (.int .i64 4)) none).run Tryd.prog W = .ok (.string ⟨#[26, 207, 252, 29]⟩) W := fun W => by
        have h := run_slice_string_to_if W 9 (makeT s) .i64 4 Tryd.underlying9
        rw [if_pos (by omega), show (4 : Int).toNat = 4 from rfl, e0] at h
        exact h
      clear e4 e0
      generalize makeT s = M at *
      generalize bodyT s = u at *
      have HBU := Lib.hid (fun c => burst_impl c u (by omega))
      have HRD := Lib.hid (fun t (ht : t.size ≤ 1048576) => read_impl t ht)
      have hself := self_text s
      have hmk := self_text ⟨#[26, 207, 252, 29]⟩
      have hlen : ((M.size : Int) == 4 + 2 * (s.size : Int)) = true := by simp; omega
      have HFO := Lib.hid (fun a b h1 h2 => flip_other u a b h1 h2)
      go_wp2_with fail
      refine (HM.out _ (HT.out _ B1.out)).mono ?_
      rintro e w2 ⟨rfl, hb2⟩
      have B2 := Lib.hid (B1.out.trans (hb2.mono B1.out.size))
      clear hb2
      go_wp2
      go_region_law ((first
        | (go_simp; go_at_call 16; refine (Ha0.out _ B2.out.drew).mono ?_; clear Ha0; rintro e w9 ⟨x0, hx0, rfl, rfl⟩; have hw0 : IntKind.i64.wrap ((x0 : Int) * 256) = (x0 : Int) * 256 := IntWalk.i64_in _ (by omega))
        | (go_simp; go_at_call 16; refine (Ha1.out _ B2.out.drew).mono ?_; clear Ha1; rintro e w9 ⟨x1, hx1, rfl, rfl⟩; have hw1 : IntKind.i64.wrap ((x0 : Int) * 256 + (x1 : Int)) = (x0 : Int) * 256 + (x1 : Int) := IntWalk.i64_in _ (by omega))
        | (go_simp; go_at_call 15; with_reducible refine (HBU.out _ _).mono ?_; obtain ⟨_, y, a, k, _, _, _, _, ha, hk, hbv⟩ := burstV_in ((x0 : Int) * 256 + (x1 : Int)) u (by omega); rw [hbv]; clear hbv; rintro e w3 ⟨he, hb3⟩; simp only [retZ] at he; subst he)))
      have B3 := Lib.hid (B2.out.drew.trans (hb3.mono B2.out.size))
      clear hb3
      obtain ⟨k', hk1, hk2, hrv⟩ := HRB.out a (a + k + 1) (by omega) (by omega) (by omega)
      have zf := flipT_size u a (a + k + 1)
      have hother := unlike_text _ _ (HFO.out a (a + k + 1) (by omega) (by omega))
      have H5 := HRD.out (flipT u a (a + k + 1)) (by omega)
      rw [hrv] at H5
      have H6 := HRD.out u (by omega)
      rw [HR0.out] at H6
      simp only [retB] at H5 H6
      have HH5 := Lib.hid H5
      have HH6 := Lib.hid H6
      have d1 : decide (1 ≤ k') = true := by simpa using hk1
      have d2 : decide (k' ≤ 2 * (s.size : Int)) = true := by simp; omega
      clear H5 H6 hrv
      generalize flipT u a (a + k + 1) = F at *
      go_wp2_with fail
      refine (HH5.out _ (HT.out _ B3.out)).mono ?_
      rintro e w4 ⟨rfl, hb4⟩
      have B4 := Lib.hid (B3.out.trans (hb4.mono B3.out.size))
      clear hb4
      go_wp2_with fail
      refine (HH6.out _ (HT.out _ B4.out)).mono ?_
      rintro e w5 ⟨rfl, hb5⟩
      have B5 := Lib.hid (B4.out.trans (hb5.mono B4.out.size))
      clear hb5
      go_wp2
      go_ret
      exact ⟨rfl, B5.out⟩
end Go.Proofs.YtdponcannphboabDoor
