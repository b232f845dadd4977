/- What this text proves: the law of channels: what comes through is what was sent, or nothing. -/
import Derived.Test.YtdponcannphboabDoorLnkV
import Derived.Test.YtdponcannphboabDoorSend
import Derived.Test.YtdponcannphboabDoorChb
import Derived.Test.YtdponcannphboabDoorMade
import Derived.Test.YtdponcannphboabDoorDraw
import Derived.Test.YtdponcannphboabDoorAt
import Derived.Test.YtdponcannphboabDoorEmp
import Derived.Deep.RegionLaw
import Derived.Deep.Cut
import Derived.Deep.CutRange
import Derived.Deep.DeepCutAuto
import Derived.Deep.LoopGhost
namespace Go.Proofs.YtdponcannphboabDoor
open Go.ChangeShapes Go.WideShapes Go.ChangeAt Go.RowKit
set_option linter.unusedVariables false

theorem CodeOk.wider {w : World} {B B' : Nat} {A : Option Addr} {n : Nat} (h : CodeOk w B A n) (hB : B ≤ B') : CodeOk w B' A n := by
  rcases h with h | ⟨b, off, hA, hlt, hc⟩
  · exact .inl h
  · exact .inr ⟨b, off, hA, Nat.lt_of_lt_of_le hlt hB, hc⟩

theorem burst_seed (c : Int) (s : ByteArray) (h : 0 ≤ c ∧ c ≤ 65535) : 0 ≤ (burstV c s).1 ∧ (burstV c s).1 ≤ 65535 := by
  unfold burstV
  split
  · exact ⟨nextR_lo _, nextR_hi _⟩
  · exact h
/-- What comes through a channel: nothing, a block that a burst has hit, or the block. -/
theorem send_ways (q b l : Int) (M u : ByteArray) (hc : ChOk q b l) (hM : M.size = 4 + u.size) (hu : 1 ≤ u.size ∧ u.size ≤ 400) (h4 : M.extract 4 M.size = u) (h0 : M.extract 0 4 = ⟨#[26, 207, 252, 29]⟩) (q1 : Int) (t : ByteArray) (hP : sendV q b l M = (q1, t)) :
    ChOk q1 b l ∧ ((t = ⟨#[]⟩ ∧ l ≠ 0) ∨ (l ≠ 100 ∧ ∃ a k : Nat, t = (⟨#[26, 207, 252, 29]⟩ : ByteArray) ++ flipT u a (a + k + 1) ∧ a ≤ 7 * u.size ∧ k < u.size ∧ b ≠ 0) ∨ (l ≠ 100 ∧ t = M ∧ b ≠ 100)) := by
  have m1 := Int.emod_nonneg (nextR q / 16) (show (100 : Int) ≠ 0 by decide)
  have m2 := Int.emod_lt_of_pos (nextR q / 16) (show (0 : Int) < 100 by decide)
  have m3 := Int.emod_nonneg (nextR (nextR q) / 16) (show (100 : Int) ≠ 0 by decide)
  have m4 := Int.emod_lt_of_pos (nextR (nextR q) / 16) (show (0 : Int) < 100 by decide)
  by_cases h1 : nextR q / 16 % 100 < l
  · rw [sendV_lost hc (by omega) h1] at hP
    injection hP with e1 e2
    exact ⟨⟨⟨by rw [← e1]; exact nextR_lo _, by rw [← e1]; exact nextR_hi _⟩, hc.2⟩, .inl ⟨e2.symm, by omega⟩⟩
  · by_cases h2 : nextR (nextR q) / 16 % 100 < b
    · rw [sendV_burst hc (by omega) h1 h2, h4, h0] at hP
      injection hP with e1 e2
      have hs := burst_seed (nextR (nextR q)) u ⟨nextR_lo _, nextR_hi _⟩
      obtain ⟨x, y, a, k, _, _, _, _, ha, hk, hv⟩ := burstV_in (nextR (nextR q)) u ⟨nextR_lo _, nextR_hi _, hu.1, hu.2⟩
      rw [hv] at e2
      exact ⟨⟨by rw [← e1]; exact hs, hc.2⟩, .inr (.inl ⟨by omega, a, k, e2.symm, ha, hk, by omega⟩)⟩
    · rw [sendV_whole hc (by omega) h1 h2] at hP
      injection hP with e1 e2
      exact ⟨⟨⟨by rw [← e1]; exact nextR_lo _, by rw [← e1]; exact nextR_hi _⟩, hc.2⟩, .inr (.inr ⟨by omega, e2.symm, by omega⟩)⟩

/-- The block g holds a channel, and so does the block gz. -/
structure Fit2 (w W : World) (g : Nat) (q b l : Int) (gz : Nat) (x y z : Int) : Prop where
  below : Below w.heap.size w W
  one : ChB W g q b l
  two : ChB W gz x y z
abbrev Cells2 (W : World) (g : Nat) (q b l : Int) (gz : Nat) (x y z : Int) : Prop := (BoxC W g q b l ∧ ∀ j, W.frozen? ⟨g, j, none⟩ = false) ∧ (BoxC W gz x y z ∧ ∀ j, W.frozen? ⟨gz, j, none⟩ = false) ∧ BoxC (W.alloc (.cells #[.int .i64 0, .int .i64 0, .int .i64 0] 33)) g q b l
theorem Fit2.more {w W W' : World} {g : Nat} {q b l : Int} {gz : Nat} {x y z : Int} (h : Fit2 w W g q b l gz x y z) (hb : Below W.heap.size W W') : Fit2 w W' g q b l gz x y z ∧ Cells2 W' g q b l gz x y z :=
  ⟨⟨h.below.trans (hb.mono h.below.size), h.one.more hb, h.two.more hb⟩, ⟨(h.one.more hb).box, (h.one.more hb).ice⟩, ⟨(h.two.more hb).box, (h.two.more hb).ice⟩, ((h.one.more hb).alloc _).box⟩
theorem Fit2.alloc {w W : World} {g : Nat} {q b l : Int} {gz : Nat} {x y z : Int} (h : Fit2 w W g q b l gz x y z) : Fit2 w (W.alloc (.cells #[.int .i64 0, .int .i64 0, .int .i64 0] 33)) g q b l W.heap.size 0 0 0 :=
  ⟨h.below.alloc h.below.size _, h.one.alloc _, ChB.made W 0 0 0 _⟩

set_option maxHeartbeats 4000000 in
theorem law_channels (A : Option Addr) (n c : Nat) (hm : n ≤ maxLen) (w : World) (hc : CodeOk w w.heap.size A n) (hT : BitW w) :
    Calls Tryd.prog 6 #[.slice A n c] w fun e w' => e = .returned (.bool true) ∧ Below w.heap.size w w' := by
  by_cases hbig : 1048576 < n
  · clear hT
    go_enter Tryd.func6, Tryd.ntmps6
    go_wp2_with (go_at_call 13; refine (big_yes _ _ _ hbig hm _).mono ?_; rintro e w' ⟨rfl, rfl⟩)
    go_ret
    exact ⟨rfl, Below.refl _ _⟩
  · have hn : n ≤ 1048576 := by omega
    have Ha := Lib.hid (fun (w1 : World) (hb : Below w.heap.size w w1) i hi => at_any w.heap.size A n c hn i hi w1 (hc.more hb))
    have Hd := Lib.hid (fun (w1 : World) (hb : Below w.heap.size w w1) => draw_bytes A n c hn w1 ((hc.more hb).wider hb.size))
    have HT := Lib.hid (fun W (hb : Below w.heap.size w W) => hT.more hb)
    clear hc hbig hT
    go_enter Tryd.func6, Tryd.ntmps6
    go_wp2_with (go_at_call 13; refine (big_no _ _ _ hn _).mono ?_; rintro e w' ⟨rfl, rfl⟩)
    refine (Ha.out _ (Below.refl _ _) 0 (by omega)).mono ?_
    rintro e w' ⟨x0, hx0, rfl, rfl⟩
    go_wp2_with fail
    refine (Ha.out _ (Below.refl _ _) 1 (by omega)).mono ?_
    rintro e w' ⟨x1, hx1, rfl, rfl⟩
    go_wp2_with fail
    refine (Ha.out _ (Below.refl _ _) 2 (by omega)).mono ?_
    rintro e w' ⟨x2, hx2, rfl, rfl⟩
    obtain ⟨b, hb, eb⟩ : ∃ b : Nat, b ≤ 100 ∧ (x2 : Int) % 101 = (b : Int) := ⟨x2 % 101, by omega, by omega⟩
    go_wp2_with fail
    refine (Ha.out _ (Below.refl _ _) 3 (by omega)).mono ?_
    rintro e w' ⟨x3, hx3, rfl, rfl⟩
    obtain ⟨l, hl, el⟩ : ∃ l : Nat, l ≤ 100 ∧ (x3 : Int) % 101 = (l : Int) := ⟨x3 % 101, by omega, by omega⟩
    go_wp2_with fail
    have MC := ChB.made w ((x0 : Int) * 256 + (x1 : Int)) (b : Int) (l : Int) 33
    have BC : Below w.heap.size w (w.alloc (.cells #[.int .i64 ((x0 : Int) * 256 + (x1 : Int)), .int .i64 (b : Int), .int .i64 (l : Int)] 33)) := (Below.refl _ w).alloc (Nat.le_refl _) _
    refine (Hd.out _ BC).mono ?_
    rintro e w1 ⟨s, hs, rfl, hb1⟩
    have C1 := Lib.hid (MC.more hb1)
    have B1 := Lib.hid (BC.trans (hb1.mono BC.size))
    have hq : ChOk ((x0 : Int) * 256 + (x1 : Int)) (b : Int) (l : Int) := ⟨by omega, by omega, by omega⟩
    have HQ := Lib.hid hq
    clear MC BC hb1 hq
    have z1 : (⟨#[115]⟩ : ByteArray).size = 1 := rfl
    have zS : (⟨#[115]⟩ ++ s : ByteArray).size = s.size + 1 := by rw [ByteArray.size_append, z1]; omega
    go_wp2
    generalize (⟨#[115]⟩ ++ s : ByteArray) = S at *
    generalize (x0 : Int) * 256 + (x1 : Int) = q0 at *
    have HM := Lib.hid (make_impl S (by omega))
    have e4 := made_tail S (by omega) (by omega)
    have e0 := made_head S (by omega) (by omega)
    have zM := makeT_size S (by omega) (by omega)
    have zu := bodyT_size S
    have HR0 := Lib.hid (readV_body S (by omega) (by omega))
    have HRB := Lib.hid (fun a b h1 h2 h3 => readV_burst S (by omega) (by omega) a b h1 h2 h3)
    have E4 := Lib.hid e4
    have E0 := Lib.hid e0
    clear e4 e0
    generalize makeT S = M at *
    generalize bodyT S = u at *
    go_loopg [5] 8 (fun g v5 wx => ∃ (k : Nat) (q : Int), k ≤ 8 ∧ g = 8 - k ∧ v5 = .int .i64 (k : Int) ∧ ChOk q (b : Int) (l : Int) ∧ ChB wx w.heap.size q (b : Int) (l : Int) ∧ Below w.heap.size w wx)
    case atStart => exact ⟨0, q0, by omega, rfl, rfl, HQ.out, C1.out, B1.out⟩
    case round =>
      obtain ⟨k, q, hk, rfl, rfl, hcok, hcb, hbel⟩ := hrel
      have HB := Lib.hid hbel
      have HCB := Lib.hid hcb
      have HOK := Lib.hid hcok
      clear hcok hcb hbel
      by_cases hlt : k < 8
      · have hd : decide ((k : Int) < 8) = true := by simp; omega
        have hd' : decide (k < 8) = true := by simp; omega
        have HS0 := send_impl q (b : Int) (l : Int) M (by omega)
        obtain ⟨⟨q1, t⟩, hP⟩ : ∃ P, sendV q (b : Int) (l : Int) M = P := ⟨_, rfl⟩
        rw [hP] at HS0
        simp only [retC] at HS0
        have HS := Lib.hid HS0
        have HP := Lib.hid hP
        clear HS0 hP
        go_upto_region 8 with fail
        go_cut [6, 7] from 29 to 82 (fun s6 s7 wx => ∃ ga : Nat, s6 = .pointer (some ⟨ga, 0, none⟩) ∧ s7 = .string t ∧ ChB wx ga q1 (b : Int) (l : Int) ∧ ChB wx w.heap.size q (b : Int) (l : Int) ∧ Below w.heap.size w wx)
        case first =>
          obtain ⟨_, ⟨k0, k1, k2⟩, i0⟩ := HCB.out.drew
          obtain ⟨a0, a1, a2⟩ := (HCB.out.alloc (.cells #[.int .i64 0, .int .i64 0, .int .i64 0] 33)).box
          have F0 := Lib.hid (show Fit2 w wr.drew w.heap.size q (b : Int) (l : Int) w.heap.size q (b : Int) (l : Int) from ⟨HB.out.drew, HCB.out.drew, HCB.out.drew⟩)
          have F1 := Lib.hid (show Fit2 w (wr.alloc (.cells #[.int .i64 0, .int .i64 0, .int .i64 0] 33)).drew w.heap.size q (b : Int) (l : Int) wr.heap.size 0 0 0 from ⟨(HB.out.alloc HB.out.size _).drew, (HCB.out.alloc _).drew, (ChB.made wr 0 0 0 _).drew⟩)
          have FM := Lib.hid (fun W gz x y z (hf : Fit2 w W w.heap.size q (b : Int) (l : Int) gz x y z) => (HM.out W (HT.out W hf.below)).mono fun e w' h => (⟨h.1, hf.more h.2⟩ : e = .returned (.string M) ∧ Fit2 w w' w.heap.size q (b : Int) (l : Int) gz x y z ∧ Cells2 w' w.heap.size q (b : Int) (l : Int) gz x y z))
          have FS := Lib.hid (fun W gz x y z (hf : Fit2 w W w.heap.size q (b : Int) (l : Int) gz x y z) => (HS.out W).mono fun e w' h => (⟨h.1, hf.more h.2⟩ : e = .returned (.tuple #[chV q1 (b : Int) (l : Int), .string t]) ∧ Fit2 w w' w.heap.size q (b : Int) (l : Int) gz x y z ∧ Cells2 w' w.heap.size q (b : Int) (l : Int) gz x y z))
          go_region_law ((first
            | (go_simp; go_at_call 10; (with_reducible refine (FM.out _ _ _ _ _ F0.out).mono ?_); rintro e w2 ⟨rfl, F2, ⟨⟨m0, m1, m2⟩, mi⟩, ⟨⟨z0, z1, z2⟩, zi⟩, n0, n1, n2⟩)
            | (go_simp; go_at_call 10; (with_reducible refine (FM.out _ _ _ _ _ F1.out).mono ?_); rintro e w2 ⟨rfl, F2, ⟨⟨m0, m1, m2⟩, mi⟩, ⟨⟨z0, z1, z2⟩, zi⟩, n0, n1, n2⟩)
            | (go_simp; go_at_call 17; (with_reducible refine (FS.out _ _ _ _ _ F2).mono ?_); rintro e w3 ⟨rfl, F3, ⟨⟨p0, p1, p2⟩, pi⟩, ⟨⟨y0, y1, y2⟩, yi⟩, o0, o1, o2⟩)
            | (go_simp; go_at_call 17; (with_reducible refine (FS.out _ _ _ _ _ F2.alloc).mono ?_); rintro e w3 ⟨rfl, F3, ⟨⟨p0, p1, p2⟩, pi⟩, ⟨⟨y0, y1, y2⟩, yi⟩, o0, o1, o2⟩)))
          all_goals go_wp2_with fail
          all_goals go_meet
          all_goals (first
            | exact ⟨_, rfl, rfl, ChB.made _ _ _ _ _, F3.one.alloc _, F3.below.alloc F3.below.size _⟩
            | exact ⟨_, rfl, rfl, F3.two.set _ _ _, F3.one.other (Nat.ne_of_gt F2.one.lt) _ _ _, below_set3 F3.below F2.below.size _ _ _⟩
            | exact ⟨_, rfl, rfl, F3.two.set _ _ _, F3.one.other (Nat.ne_of_gt HCB.out.lt) _ _ _, below_set3 F3.below HB.out.size _ _ _⟩)
        case rest =>
          obtain ⟨ga, rfl, rfl, hx, hc2, hbl⟩ := hcut
          have HX := Lib.hid hx
          have HC2 := Lib.hid hc2
          have HBL := Lib.hid hbl
          clear hbl
          obtain ⟨hxl, ⟨p0, p1, p2⟩, pi⟩ := hx
          obtain ⟨hcl, ⟨m0, m1, m2⟩, mi⟩ := hc2
          obtain ⟨hok1, hways⟩ := send_ways q b l M u HOK.out (by omega) (by omega) E4.out E0.out q1 t HP.out
          have HO1 := Lib.hid hok1
          have HFIN := Lib.hid (show ChB (((wc.setCell ⟨w.heap.size, 0, none⟩ (.int .i64 q1)).setCell ⟨w.heap.size, 1, none⟩ (.int .i64 (b : Int))).setCell ⟨w.heap.size, 2, none⟩ (.int .i64 (l : Int))) w.heap.size q1 (b : Int) (l : Int) ∧ Below w.heap.size w (((wc.setCell ⟨w.heap.size, 0, none⟩ (.int .i64 q1)).setCell ⟨w.heap.size, 1, none⟩ (.int .i64 (b : Int))).setCell ⟨w.heap.size, 2, none⟩ (.int .i64 (l : Int))) from ⟨HC2.out.set _ _ _, below_set3 HBL.out (Nat.le_refl _) _ _ _⟩)
          clear hok1
          rcases hways with ⟨rfl, hl0⟩ | ⟨hl1, a, kk, rfl, ha, hkk, hb0⟩ | ⟨hl1, rfl, hb1⟩
          · have d1 : ((l : Int) == 0) = false := by simpa using hl0
            clear HRB HR0
            go_wp2
            go_roundg (8 - (k + 1))
            case measure => omega
            case rel => exact ⟨k + 1, q1, by omega, rfl, by go_num, HO1.out, HFIN.out.1, HFIN.out.2⟩
          · clear HFIN
            obtain ⟨z4, t4⟩ := tail_four (flipT u a (a + kk + 1))
            obtain ⟨kc, hk1, hk2, hrv⟩ := HRB.out a (a + kk + 1) (by omega) (by omega) (by omega)
            have zf := flipT_size u a (a + kk + 1)
            have H5 := read_impl (flipT u a (a + kk + 1)) (by omega)
            rw [hrv] at H5
            simp only [retB] at H5
            have HH5 := Lib.hid H5
            have dne := text_full ((⟨#[26, 207, 252, 29]⟩ : ByteArray) ++ flipT u a (a + kk + 1)) (by omega)
            have hsl : ∀ W : World, (Instr.slice 9 (.string ((⟨#[26, 207, 252, 29]⟩ : ByteArray) ++ flipT u a (a + kk + 1))) (some (.int .i64 4)) none none).run Tryd.prog W = .ok (.string (flipT u a (a + kk + 1))) W := fun W => by
              have h := run_slice_string_from_if W 9 ((⟨#[26, 207, 252, 29]⟩ : ByteArray) ++ flipT u a (a + kk + 1)) .i64 4 Tryd.underlying9
              rw [if_pos (by omega), show (4 : Int).toNat = 4 from rfl, z4, t4] at h
              exact h
            have hself := self_text S
            have c1 : ((l : Int) == 100) = false := by simpa using hl1
            have c2 : decide ((0 : Int) < kc) = true := by simp; omega
            have c3 : ((b : Int) == 0) = false := by simpa using hb0
            have c4 : (kc == 0) = false := by simp; omega
            clear H5 hrv t4 HRB HR0
            generalize (⟨#[26, 207, 252, 29]⟩ : ByteArray) ++ flipT u a (a + kk + 1) = t at *
            generalize flipT u a (a + kk + 1) = F at *
            go_wp2_with fail
            refine (HH5.out _ (HT.out _ HBL.out)).mono ?_
            rintro e w5 ⟨rfl, hb5⟩
            have B5 := Lib.hid (HBL.out.trans (hb5.mono HBL.out.size))
            have D1 := Lib.hid (HX.out.more hb5)
            have D2 := Lib.hid (HC2.out.more hb5)
            have HFIN := Lib.hid (show ChB (((w5.setCell ⟨w.heap.size, 0, none⟩ (.int .i64 q1)).setCell ⟨w.heap.size, 1, none⟩ (.int .i64 (b : Int))).setCell ⟨w.heap.size, 2, none⟩ (.int .i64 (l : Int))) w.heap.size q1 (b : Int) (l : Int) ∧ Below w.heap.size w (((w5.setCell ⟨w.heap.size, 0, none⟩ (.int .i64 q1)).setCell ⟨w.heap.size, 1, none⟩ (.int .i64 (b : Int))).setCell ⟨w.heap.size, 2, none⟩ (.int .i64 (l : Int))) from ⟨D2.out.set _ _ _, below_set3 B5.out (Nat.le_refl _) _ _ _⟩)
            clear p0 p1 p2 pi m0 m1 m2 mi hb5
            obtain ⟨⟨p0, p1, p2⟩, pi⟩ := And.intro D1.out.box D1.out.ice
            obtain ⟨⟨m0, m1, m2⟩, mi⟩ := And.intro D2.out.box D2.out.ice
            go_wp2
            go_roundg (8 - (k + 1))
            case measure => omega
            case rel => exact ⟨k + 1, q1, by omega, rfl, by go_num, HO1.out, HFIN.out.1, HFIN.out.2⟩
          · clear HFIN
            have H5 := read_impl u (by omega)
            rw [HR0.out] at H5
            simp only [retB] at H5
            have HH5 := Lib.hid H5
            have dne := text_full t (by omega)
            have hsl : ∀ W : World, (Instr.slice 9 (.string t) (some (.int .i64 4)) none none).run Tryd.prog W = .ok (.string u) W := fun W => by
              have h := run_slice_string_from_if W 9 t .i64 4 Tryd.underlying9
              rw [if_pos (by omega), show (4 : Int).toNat = 4 from rfl, E4.out] at h
              exact h
            have hself := self_text S
            have c1 : ((l : Int) == 100) = false := by simpa using hl1
            have c3 : ((b : Int) == 100) = false := by simpa using hb1
            clear H5 HRB HR0
            go_wp2_with fail
            refine (HH5.out _ (HT.out _ HBL.out)).mono ?_
            rintro e w5 ⟨rfl, hb5⟩
            have B5 := Lib.hid (HBL.out.trans (hb5.mono HBL.out.size))
            have D1 := Lib.hid (HX.out.more hb5)
            have D2 := Lib.hid (HC2.out.more hb5)
            have HFIN := Lib.hid (show ChB (((w5.setCell ⟨w.heap.size, 0, none⟩ (.int .i64 q1)).setCell ⟨w.heap.size, 1, none⟩ (.int .i64 (b : Int))).setCell ⟨w.heap.size, 2, none⟩ (.int .i64 (l : Int))) w.heap.size q1 (b : Int) (l : Int) ∧ Below w.heap.size w (((w5.setCell ⟨w.heap.size, 0, none⟩ (.int .i64 q1)).setCell ⟨w.heap.size, 1, none⟩ (.int .i64 (b : Int))).setCell ⟨w.heap.size, 2, none⟩ (.int .i64 (l : Int))) from ⟨D2.out.set _ _ _, below_set3 B5.out (Nat.le_refl _) _ _ _⟩)
            clear p0 p1 p2 pi m0 m1 m2 mi hb5
            obtain ⟨⟨p0, p1, p2⟩, pi⟩ := And.intro D1.out.box D1.out.ice
            obtain ⟨⟨m0, m1, m2⟩, mi⟩ := And.intro D2.out.box D2.out.ice
            go_wp2
            go_roundg (8 - (k + 1))
            case measure => omega
            case rel => exact ⟨k + 1, q1, by omega, rfl, by go_num, HO1.out, HFIN.out.1, HFIN.out.2⟩
      · have hd : decide ((k : Int) < 8) = false := by simp; omega
        have hd' : decide (k < 8) = false := by simp; omega
        have hch := chan_impl q (b : Int) (l : Int)
        rw [decide_eq_true HOK.out] at hch
        have HCH := Lib.hid hch
        obtain ⟨⟨m0, m1, m2⟩, mi⟩ := And.intro HCB.out.box HCB.out.ice
        clear hch HRB HR0
        go_wp2_with fail
        refine (HCH.out _).mono ?_
        rintro e w5 ⟨rfl, hb5⟩
        go_wp2
        go_ret
        exact ⟨rfl, HB.out.trans (hb5.mono HB.out.size)⟩
end Go.Proofs.YtdponcannphboabDoor
