/- What this text proves: the law that a number that is far from the expected one locks the receiver, which then takes nothing until it is unlocked, returns true for every bytes that it draws from. -/
import Derived.Test.YtmmedhjmilgnbaaDoorTkE
import Derived.Test.YtmmedhjmilgnbaaDoorTcI
import Derived.Test.YtmmedhjmilgnbaaDoorZb
import Derived.Test.YtmmedhjmilgnbaaDoorAt
import Derived.Deep.RegionHeld3
import Derived.Deep.Cut
import Derived.Deep.CutRange
namespace Go.Proofs.YtmmedhjmilgnbaaDoor
open Go.ChangeShapes Go.WideShapes Go.ChangeAt Go.RowKit
set_option linter.unusedVariables false

set_option maxRecDepth 8000 in
set_option maxHeartbeats 8000000 in
theorem law_lockedOut (A : Option Addr) (n c : Nat) (hm : n ≤ maxLen) (w : World) (hc : CodeOk w w.heap.size A n) (hS : ∃ a0 a1 a2, Sents w a0 a1 a2) :
    Calls Tryd.prog 4 #[.slice A n c] w fun e w' => e = .returned (.bool true) ∧ Below w.heap.size w w' := by
  obtain ⟨a0, a1, a2, hS⟩ := hS
  by_cases hbig : 1048576 < n
  · go_enter Tryd.func4, Tryd.ntmps4
    go_wp2_with (go_at_call 6; refine (big_yes _ _ _ hbig hm _).mono ?_; rintro e w' ⟨rfl, rfl⟩)
    go_ret
    exact ⟨rfl, Below.refl _ _⟩
  · have hn : n ≤ 1048576 := by omega
    have Ha := Lib.hid (fun (w1 : World) (hb : Below w.heap.size w w1) i hi => at_any w.heap.size A n c hn i hi w1 (hc.more hb))
    have HT := Lib.hid (fun x p q t (s : ByteArray) (hs : s.size ≤ 50) (W : World) (hb : Below w.heap.size w W) => take_impl x p q t s (by omega) W a0 a1 a2 (hS.more hb))
    clear hc hbig hS
    go_enter Tryd.func4, Tryd.ntmps4
    go_wp2_with (go_at_call 6; refine (big_no _ _ _ hn _).mono ?_; rintro e w' ⟨rfl, rfl⟩)
    refine (Ha.out _ (Below.refl _ _) 0 (by omega)).mono ?_
    rintro e w' ⟨x, hx, rfl, rfl⟩
    have R0 := Lib.hid (Box.made w (rcL (x : Int) false false 0) 31 w.heap.size rfl)
    have B0 := Lib.hid ((Below.refl w.heap.size w).alloc (Nat.le_refl _) (.cells (rcL (x : Int) false false 0).toArray 31))
    go_wp2_with fail
    refine (Ha.out _ B0.out 1 (by omega)).mono ?_
    rintro e w' ⟨y, hy, rfl, rfl⟩
    obtain ⟨m1, hm1⟩ : ∃ m1 : Nat, ((x : Int) + (41 + (y : Int) % 175)) % 256 = (m1 : Int) := ⟨((x : Int) + (41 + (y : Int) % 175)).toNat % 256, by omega⟩
    have hm1' : m1 ≤ 255 := by omega
    have hok : RcOk (x : Int) 0 := ⟨by omega, by omega⟩
    have e1 : tkC (x : Int) false false 0 (cmT 0 (m1 : Int) ⟨#[102, 97, 114]⟩) = ((x : Int), true, false, 0, ⟨#[]⟩, false) := by rw [tk_enc false false hm1' (by decide) hok]; exact tkD_lock (by omega)
    have e2 : tkC (x : Int) true false 0 (cmT 0 (x : Int) ⟨#[110, 101, 120, 116]⟩) = ((x : Int), true, false, 0, ⟨#[]⟩, false) := by rw [tk_enc true false hx (by decide) hok]; exact tkD_locked
    have e3 : tkC (x : Int) true false 0 (cmT 1 0 ⟨#[]⟩) = ((x : Int), false, false, 0, ⟨#[]⟩, false) := tk_unl (n := 0) true false (by omega) (by decide) hok
    have e4 : tkC (x : Int) false false 0 (cmT 0 (x : Int) ⟨#[110, 101, 120, 116]⟩) = (((x : Int) + 1) % 256, false, false, 1, ⟨#[110, 101, 120, 116]⟩, true) := by rw [tk_enc false false hx (by decide) hok]; exact tkD_take ⟨by omega, by omega⟩
    have HF := Lib.hid (encC_impl 0 (m1 : Int) ⟨#[102, 97, 114]⟩ (by decide))
    have HN := Lib.hid (encC_impl 0 (x : Int) ⟨#[110, 101, 120, 116]⟩ (by decide))
    have HU := Lib.hid (encC_impl 1 0 ⟨#[]⟩ (by decide))
    have T1 := HT.out (x : Int) false false 0 (cmT 0 (m1 : Int) ⟨#[102, 97, 114]⟩) (cmT_le _ _ _ (by decide))
    have T2 := HT.out (x : Int) true false 0 (cmT 0 (x : Int) ⟨#[110, 101, 120, 116]⟩) (cmT_le _ _ _ (by decide))
    have T3 := HT.out (x : Int) true false 0 (cmT 1 0 ⟨#[]⟩) (cmT_le _ _ _ (by decide))
    have T4 := HT.out (x : Int) false false 0 (cmT 0 (x : Int) ⟨#[110, 101, 120, 116]⟩) (cmT_le _ _ _ (by decide))
    simp only [e1, retT] at T1
    simp only [e2, retT] at T2
    simp only [e3, retT] at T3
    simp only [e4, retT] at T4
    have H1 := Lib.hid T1
    have H2 := Lib.hid T2
    have H3 := Lib.hid T3
    have H4 := Lib.hid T4
    have HOK := Lib.hid hok
    clear T1 T2 T3 T4 e1 e2 e3 e4 hok
    generalize cmT 0 (m1 : Int) ⟨#[102, 97, 114]⟩ = EF at *
    generalize cmT 0 (x : Int) ⟨#[110, 101, 120, 116]⟩ = EN at *
    generalize cmT 1 0 ⟨#[]⟩ = EU at *
    obtain ⟨r0, r1, r2, r3⟩ := R0.out.fourR
    go_wp2_with fail
    refine (HF.out _).mono ?_
    rintro e w1 ⟨rfl, hb1⟩
    have R1 := Lib.hid (R0.out.more hb1)
    have B1 := Lib.hid (B0.out.trans (hb1.mono B0.out.size))
    clear hb1 r0 r1 r2 r3 hm1
    obtain ⟨r0, r1, r2, r3⟩ := R1.out.fourR
    go_wp2_with fail
    refine (HN.out _).mono ?_
    rintro e w2 ⟨rfl, hb2⟩
    have R2 := Lib.hid (R1.out.more hb2)
    have B2 := Lib.hid (B1.out.trans (hb2.mono B1.out.size))
    clear hb2 r0 r1 r2 r3
    obtain ⟨r0, r1, r2, r3⟩ := R2.out.fourR
    go_wp2_with fail
    refine (H1.out _ B2.out).mono ?_
    rintro e w3 ⟨rfl, hb3⟩
    have R3 := Lib.hid ((R2.out.more hb3).alloc (.cells (rcL (x : Int) true false 0).toArray 31))
    have A3 := Lib.hid (Box.made w3 (rcL (x : Int) true false 0) 31 w3.heap.size rfl)
    have B3 := Lib.hid ((B2.out.trans (hb3.mono B2.out.size)).alloc (B2.out.trans (hb3.mono B2.out.size)).size (.cells (rcL (x : Int) true false 0).toArray 31))
    clear hb3 r0 r1 r2 r3
    obtain ⟨r0, r1, r2, r3⟩ := A3.out.fourR
    go_wp2_with fail
    refine (H2.out _ B3.out).mono ?_
    rintro e w4 ⟨rfl, hb4⟩
    have R4 := Lib.hid ((R3.out.more hb4).alloc (.cells (rcL (x : Int) true false 0).toArray 31))
    have A4 := Lib.hid ((A3.out.more hb4).alloc (.cells (rcL (x : Int) true false 0).toArray 31))
    have C4 := Lib.hid (Box.made w4 (rcL (x : Int) true false 0) 31 w4.heap.size rfl)
    have B4 := Lib.hid ((B3.out.trans (hb4.mono B3.out.size)).alloc (B3.out.trans (hb4.mono B3.out.size)).size (.cells (rcL (x : Int) true false 0).toArray 31))
    clear hb4 r0 r1 r2 r3
    go_upto_region 9 with fail
    generalize w4.alloc (.cells #[.int .i64 (x : Int), .bool true, .bool false, .int .i64 0] 31) = w5 at *
    generalize w4.heap.size = g10 at *
    generalize w3.heap.size = g7 at *
    go_cut [13, 14, 15] from 55 to 60 (fun s13 s14 s15 wx => ∃ g : Nat, s13 = .pointer (some ⟨g, 0, none⟩) ∧ s14 = .string ⟨#[]⟩ ∧ s15 = .bool false ∧ KeptB w5 wx [(g10, rcL (x : Int) true false 0)] (rcL (x : Int) false false 0) g)
    case first =>
      have Z0 := (ZB.start1 C4.out).drew
      have Z1 := ((ZB.start1 C4.out).new (rcL 0 false false 0) 31).drew
      have Z2 := Z0.new (rcL 0 false false 0) 31
      have FA := Lib.hid (fun W zo (hz : ZB w5 W [(g10, rcL (x : Int) true false 0)] zo) => (HU.out W).mono fun e w' hh => (show e = .returned (.string EU) ∧ ZB w5 w' [(g10, rcL (x : Int) true false 0)] zo from ⟨hh.1, hz.more hh.2⟩))
      have FF := Lib.hid (fun W zo (hz : ZB w5 W [(g10, rcL (x : Int) true false 0)] zo) => (H3.out W (B4.out.trans (hz.below.mono B4.out.size))).mono fun e w' hh => (show e = .returned (.tuple #[rcV (x : Int) false false 0, .string ⟨#[]⟩, .bool false]) ∧ ZB w5 w' [(g10, rcL (x : Int) true false 0)] zo from ⟨hh.1, hz.more hh.2⟩))
      go_wp2
      go_region_held3 (fun w' => w'.cell? ⟨g10, 0, none⟩ = some (.int .i64 (x : Int)) ∧ w'.cell? ⟨g10, 1, none⟩ = some (.bool true) ∧ w'.cell? ⟨g10, 2, none⟩ = some (.bool false) ∧ w'.cell? ⟨g10, 3, none⟩ = some (.int .i64 0))
        (first | with_reducible exact Z0.one | with_reducible exact Z1.one | with_reducible exact Z2.one | with_reducible exact ZF.one | with_reducible exact (ZF.alloc _).one | with_reducible exact ZA.one | with_reducible exact (ZA.alloc _).one | exact (ZF.put (rcL (x : Int) false false 0) rfl).one)
        (first
          | (go_at_call 19; (first
              | (with_reducible refine (FA.out _ _ Z0).mono ?_)
              | (with_reducible refine (FA.out _ _ Z1).mono ?_)
              | (with_reducible refine (FA.out _ _ Z2).mono ?_)); rintro e wA ⟨rfl, ZA⟩)
          | (go_at_call 13; (first
              | (with_reducible refine (FF.out _ _ ZA).mono ?_)
              | (with_reducible refine (FF.out _ _ (ZA.new (rcL 0 false false 0) 31)).mono ?_)); rintro e wF ⟨rfl, ZF⟩; try (have zb := ZF.box.1; obtain ⟨z0, z1, z2, z3⟩ := zb.fourR; have zi := zb.ice)))
      all_goals go_wp2_with fail
      all_goals go_meet
      all_goals (first
        | exact ⟨_, rfl, rfl, rfl, ZF.fin_made (rcL (x : Int) false false 0) _⟩
        | exact ⟨_, rfl, rfl, rfl, ZF.fin_put (rcL (x : Int) false false 0) rfl⟩)
    case rest =>
      obtain ⟨g13, rfl, rfl, rfl, K6⟩ := hcut
      have B6 := Lib.hid (B4.out.trans (K6.below.mono B4.out.size))
      have R6 := Lib.hid (R4.out.more K6.below)
      have A6 := Lib.hid (A4.out.more K6.below)
      have C6 := Lib.hid (C4.out.more K6.below)
      have E6 := Lib.hid K6.box.1
      clear K6 R4 A4 C4 B4 HU H3
      generalize wc = w6 at *
      obtain ⟨r0, r1, r2, r3⟩ := E6.out.fourR
      go_wp2_with fail
      refine (H4.out _ B6.out).mono ?_
      rintro e w7 ⟨rfl, hb7⟩
      have R7 := Lib.hid ((R6.out.more hb7).alloc (.cells (rcL (((x : Int) + 1) % 256) false false 1).toArray 31))
      have A7 := Lib.hid ((A6.out.more hb7).alloc (.cells (rcL (((x : Int) + 1) % 256) false false 1).toArray 31))
      have C7 := Lib.hid ((C6.out.more hb7).alloc (.cells (rcL (((x : Int) + 1) % 256) false false 1).toArray 31))
      have E7 := Lib.hid ((E6.out.more hb7).alloc (.cells (rcL (((x : Int) + 1) % 256) false false 1).toArray 31))
      have G7 := Lib.hid (Box.made w7 (rcL (((x : Int) + 1) % 256) false false 1) 31 w7.heap.size rfl)
      have B7 := Lib.hid ((B6.out.trans (hb7.mono B6.out.size)).alloc (B6.out.trans (hb7.mono B6.out.size)).size (.cells (rcL (((x : Int) + 1) % 256) false false 1).toArray 31))
      clear hb7 r0 r1 r2 r3 R6 A6 C6 E6 B6 H4
      have HX := Lib.hid (fun (z : Nat) => encC_impl 0 (((x : Int) + 1 + (z : Int) % 40) % 256) ⟨#[120]⟩ (by decide))
      have HP := Lib.hid (fun (z : Nat) (hz : z ≤ 255) (W : World) (hb : Below w.heap.size w W) => (show Calls Tryd.prog 13 #[rcV (x : Int) false false 0, .string (cmT 0 (((x : Int) + 1 + (z : Int) % 40) % 256) ⟨#[120]⟩)] W fun e w' => e = .returned (.tuple #[rcV (x : Int) false true 0, .string ⟨#[]⟩, .bool false]) ∧ Below W.heap.size W w' from by
        have T := HT.out (x : Int) false false 0 (cmT 0 (((x : Int) + 1 + (z : Int) % 40) % 256) ⟨#[120]⟩) (cmT_le _ _ _ (by decide)) W hb
        obtain ⟨m, hm⟩ : ∃ m : Nat, ((x : Int) + 1 + (z : Int) % 40) % 256 = (m : Int) := ⟨(((x : Int) + 1 + (z : Int) % 40) % 256).toNat, by omega⟩
        have e1 : tkC (x : Int) false false 0 (cmT 0 (((x : Int) + 1 + (z : Int) % 40) % 256) ⟨#[120]⟩) = ((x : Int), false, true, 0, ⟨#[]⟩, false) := by
          rw [hm, tk_enc false false (by omega) (by decide) HOK.out]
          exact tkD_again (by omega)
        simpa only [e1, retT] using T))
      clear HT
      obtain ⟨cX, hcX⟩ : ∃ f : Nat → ByteArray, ∀ z : Nat, cmT 0 (((x : Int) + 1 + (z : Int) % 40) % 256) ⟨#[120]⟩ = f z := ⟨_, fun _ => rfl⟩
      simp only [hcX] at HX HP
      clear hcX
      go_upto_region 11 with fail
      generalize w7.alloc (.cells #[.int .i64 (((x : Int) + 1) % 256), .bool false, .bool false, .int .i64 1] 31) = w8 at *
      generalize w7.heap.size = g16 at *
      go_cut [19, 20, 21] from 69 to 82 (fun s19 s20 s21 wx => ∃ g : Nat, s19 = .pointer (some ⟨g, 0, none⟩) ∧ s20 = .string ⟨#[]⟩ ∧ s21 = .bool false ∧ KeptB w8 wx [(w.heap.size, rcL (x : Int) false false 0)] (rcL (x : Int) false true 0) g)
      case first =>
        clear A7 C7 E7 G7
        have Z0 := (ZB.start1 R7.out).drew
        have Z1 := ((ZB.start1 R7.out).new (rcL 0 false false 0) 31).drew
        have Z2 := Z0.new (rcL 0 false false 0) 31
        have FB := Lib.hid (fun W zo (hz : ZB w8 W [(w.heap.size, rcL (x : Int) false false 0)] zo) => (show Calls Tryd.prog 8 #[.slice A n c, .int .i64 2] W (Small W) from Ha.out W (B7.out.trans (hz.below.mono B7.out.size)) 2 (by omega)))
        have FA := Lib.hid (fun (z : Nat) (hzz : z ≤ 255) W zo (hz : ZB w8 W [(w.heap.size, rcL (x : Int) false false 0)] zo) => (show Calls Tryd.prog 19 #[.int .i64 0, .int .i64 ((IntKind.i64.wrap (IntKind.i64.wrap ((x : Int) + 1) + (z : Int).tmod 40)).tmod 256), .string ⟨#[120]⟩] W (fun e w' => e = .returned (.string (cX z)) ∧ Below W.heap.size W w') from by
          have h1 : IntKind.i64.wrap ((x : Int) + 1) = (x : Int) + 1 := IntWalk.i64_in _ (by omega)
          have h2 : (z : Int).tmod 40 = (z : Int) % 40 := Int.tmod_eq_emod_of_nonneg (by omega)
          have h3 : IntKind.i64.wrap ((x : Int) + 1 + (z : Int) % 40) = (x : Int) + 1 + (z : Int) % 40 := IntWalk.i64_in _ (by omega)
          have h4 : ((x : Int) + 1 + (z : Int) % 40).tmod 256 = ((x : Int) + 1 + (z : Int) % 40) % 256 := Int.tmod_eq_emod_of_nonneg (by omega)
          rw [h1, h2, h3, h4]
          exact HX.out z W).mono fun e w' hh => (show e = .returned (.string (cX z)) ∧ ZB w8 w' [(w.heap.size, rcL (x : Int) false false 0)] zo from ⟨hh.1, hz.more hh.2⟩))
        have FF := Lib.hid (fun z hzz W zo (hz : ZB w8 W [(w.heap.size, rcL (x : Int) false false 0)] zo) => (HP.out z hzz W (B7.out.trans (hz.below.mono B7.out.size))).mono fun e w' hh => (show e = .returned (.tuple #[rcV (x : Int) false true 0, .string ⟨#[]⟩, .bool false]) ∧ ZB w8 w' [(w.heap.size, rcL (x : Int) false false 0)] zo from ⟨hh.1, hz.more hh.2⟩))
        go_wp2
        go_region_held3 (fun w' => w'.cell? ⟨w.heap.size, 0, none⟩ = some (.int .i64 (x : Int)) ∧ w'.cell? ⟨w.heap.size, 1, none⟩ = some (.bool false) ∧ w'.cell? ⟨w.heap.size, 2, none⟩ = some (.bool false) ∧ w'.cell? ⟨w.heap.size, 3, none⟩ = some (.int .i64 0))
          (first | with_reducible exact Z0.one | with_reducible exact Z1.one | with_reducible exact Z2.one | with_reducible exact ZF.one | with_reducible exact (ZF.alloc _).one | with_reducible exact ZA.one | with_reducible exact (ZA.alloc _).one | exact (ZF.put (rcL (x : Int) false true 0) rfl).one)
          (first
            | (go_at_call 8; (first
                | (with_reducible refine (FB.out _ _ Z0).mono ?_)
                | (with_reducible refine (FB.out _ _ Z1).mono ?_)
                | (with_reducible refine (FB.out _ _ Z2).mono ?_)); rintro e wB ⟨z, hzz, rfl, rfl⟩)
            | (go_at_call 19; (first
                | (with_reducible refine (FA.out z hzz _ _ Z0).mono ?_)
                | (with_reducible refine (FA.out z hzz _ _ Z1).mono ?_)
                | (with_reducible refine (FA.out z hzz _ _ Z2).mono ?_)); rintro e wA ⟨rfl, ZA⟩)
            | (go_at_call 13; (first
                | (with_reducible refine (FF.out z hzz _ _ ZA).mono ?_)
                | (with_reducible refine (FF.out z hzz _ _ (ZA.new (rcL 0 false false 0) 31)).mono ?_)); rintro e wF ⟨rfl, ZF⟩; try (have zb := ZF.box.1; obtain ⟨z0, z1, z2, z3⟩ := zb.fourR; have zi := zb.ice)))
        all_goals go_wp2_with fail
        all_goals go_meet
        all_goals (first
          | exact ⟨_, rfl, rfl, rfl, ZF.fin_made (rcL (x : Int) false true 0) _⟩
          | exact ⟨_, rfl, rfl, rfl, ZF.fin_put (rcL (x : Int) false true 0) rfl⟩)
      case rest =>
        obtain ⟨g19, rfl, rfl, rfl, K9⟩ := hcut
        have B9 := Lib.hid (B7.out.trans (K9.below.mono B7.out.size))
        have R9 := Lib.hid (R7.out.more K9.below)
        have A9 := Lib.hid (A7.out.more K9.below)
        have C9 := Lib.hid (C7.out.more K9.below)
        have E9 := Lib.hid (E7.out.more K9.below)
        have G9 := Lib.hid (G7.out.more K9.below)
        have X9 := Lib.hid K9.box.1
        clear K9 R7 A7 C7 E7 G7 B7
        generalize wc = w9 at *
        obtain ⟨r0, _, _, _⟩ := R9.out.fourR
        obtain ⟨a0, a1, a2, a3⟩ := A9.out.fourR
        obtain ⟨c0, c1, c2, c3⟩ := C9.out.fourR
        obtain ⟨_, e1, _, _⟩ := E9.out.fourR
        obtain ⟨f0, _, _, _⟩ := G9.out.fourR
        obtain ⟨_, x1, x2, _⟩ := X9.out.fourR
        go_wp2_with fail
        go_ret
        exact ⟨rfl, B9.out⟩
end Go.Proofs.YtmmedhjmilgnbaaDoor
