/- What this text proves: the law that packets and frames can be read from their bytes, and frames with one byte changed cannot, returns true for every bytes that it draws from. -/
import Derived.Test.YtegahdlfjdjcaaaPaMath
import Derived.Test.YtegahdlfjdjcaaaDrawP
import Derived.Test.YtegahdlfjdjcaaaIPp
import Derived.Test.YtegahdlfjdjcaaaIPf
import Derived.Test.YtegahdlfjdjcaaaITf
import Derived.Test.YtegahdlfjdjcaaaIPd
import Derived.Test.YtegahdlfjdjcaaaIFe
import Derived.Test.YtegahdlfjdjcaaaIFd
import Derived.Test.YtegahdlfjdjcaaaIFr
import Derived.Test.YtegahdlfjdjcaaaAtTn
import Derived.Deep.RegionHeld3
import Derived.Deep.Cut
import Derived.Deep.CutRange
namespace Go.Proofs.Ytegahdlfjdjcaaa
open Go.ChangeShapes Go.WideShapes Go.ChangeAt Go.RowKit
set_option linter.unusedVariables false

/-- From world b on: the three cells of a packet that is read, and a variable, once it has been made. -/
structure ZL (b W : World) (gl : Nat) (x0 x1 x2 : Value) (zo : Option (Nat × List Value)) : Prop where
  below : Below b.heap.size b W
  cs : W.cell? ⟨gl, 0, none⟩ = some x0 ∧ W.cell? ⟨gl, 1, none⟩ = some x1 ∧ W.cell? ⟨gl, 2, none⟩ = some x2
  lt : gl < b.heap.size
  bz : ∀ z, zo = some z → Box W z.1 z.2 ∧ b.heap.size ≤ z.1
theorem ZL.more {b W W' : World} {gl : Nat} {x0 x1 x2 : Value} {zo : Option (Nat × List Value)} (h : ZL b W gl x0 x1 x2 zo) (hb : Below W.heap.size W W') : ZL b W' gl x0 x1 x2 zo := by
  have hl : gl < W.heap.size := Nat.lt_of_lt_of_le h.lt h.below.size
  exact ⟨h.below.trans (hb.mono h.below.size), ⟨(hb.cell (p := ⟨gl, 0, none⟩) hl).trans h.cs.1, (hb.cell (p := ⟨gl, 1, none⟩) hl).trans h.cs.2.1, (hb.cell (p := ⟨gl, 2, none⟩) hl).trans h.cs.2.2⟩, h.lt, fun z e => ⟨(h.bz z e).1.more hb, (h.bz z e).2⟩⟩
theorem ZL.drew {b W : World} {gl : Nat} {x0 x1 x2 : Value} {zo : Option (Nat × List Value)} (h : ZL b W gl x0 x1 x2 zo) : ZL b W.drew gl x0 x1 x2 zo := h.more (Below.refl _ _).drew
theorem ZL.alloc {b W : World} {gl : Nat} {x0 x1 x2 : Value} {zo : Option (Nat × List Value)} (h : ZL b W gl x0 x1 x2 zo) (o : Obj) : ZL b (W.alloc o) gl x0 x1 x2 zo := h.more ((Below.refl _ _).alloc (Nat.le_refl _) o)
theorem ZL.new {b W : World} {gl : Nat} {x0 x1 x2 : Value} {zo : Option (Nat × List Value)} (h : ZL b W gl x0 x1 x2 zo) (zs : List Value) (T : TypeId) : ZL b (W.alloc (.cells zs.toArray T)) gl x0 x1 x2 (some (W.heap.size, zs)) :=
  ⟨(h.alloc _).below, (h.alloc _).cs, h.lt, fun z e => by
    obtain rfl : (W.heap.size, zs) = z := by injection e
    exact ⟨Box.made W zs T _ rfl, h.below.size⟩⟩
theorem ZL.put {b W : World} {gl gz : Nat} {x0 x1 x2 : Value} {zs : List Value} (h : ZL b W gl x0 x1 x2 (some (gz, zs))) (us : List Value) (hl : us.length = zs.length) : ZL b (W.setCells gz 0 us) gl x0 x1 x2 (some (gz, us)) := by
  obtain ⟨hz, hf⟩ := h.bz _ rfl
  have l1 := h.lt
  have hf' : b.heap.size ≤ gz := hf
  have hne : ∀ (us : List Value) (o j : Nat) (W : World), (W.setCells gz o us).cell? ⟨gl, j, none⟩ = W.cell? ⟨gl, j, none⟩ := by
    intro us
    induction us with
    | nil => intro o j W; rfl
    | cons u us ih =>
      intro o j W
      show ((W.setCell ⟨gz, o, none⟩ u).setCells gz (o + 1) us).cell? _ = _
      rw [ih]
      exact World.cell?_setCell_other _ _ _ _ (fun he => by have h2 := congrArg Addr.block he; simp only at h2; omega)
  exact ⟨below_setCells hf' us 0 _ h.below, ⟨(hne us 0 0 W).trans h.cs.1, (hne us 0 1 W).trans h.cs.2.1, (hne us 0 2 W).trans h.cs.2.2⟩, l1, fun z e => by
    obtain rfl : (gz, us) = z := by injection e
    exact ⟨hz.all hl, hf⟩⟩
theorem ZL.box {b W : World} {gl gz : Nat} {x0 x1 x2 : Value} {zs : List Value} (h : ZL b W gl x0 x1 x2 (some (gz, zs))) : Box W gz zs ∧ b.heap.size ≤ gz := h.bz _ rfl
/-- What the region leaves: an answer in a box of its own, a slice of its own in it. -/
def KeptL (b wx : World) (zs : Value → List Value) (l : List Int) (g : Nat) (v : Value) : Prop :=
  Below b.heap.size b wx ∧ Box wx g (zs v) ∧ OwnI wx b.heap.size v l
theorem ZL.fin_made {b W : World} {gl n : Nat} {x0 x1 x2 : Value} {zo : Option (Nat × List Value)} (h : ZL b W gl x0 x1 x2 zo) (zs : Value → List Value) {v : Value} {l : List Int} (ho : OwnI W n v l) (hn : b.heap.size ≤ n) (T : TypeId) :
    KeptL b (W.alloc (.cells (zs v).toArray T)) zs l W.heap.size v :=
  ⟨(h.alloc _).below, Box.made W (zs v) T _ rfl, (ho.lower hn).more ((Below.refl _ _).alloc (Nat.le_refl _) _)⟩
theorem ZL.fin_put {b W : World} {gl gz n : Nat} {x0 x1 x2 : Value} {z0 : List Value} (h : ZL b W gl x0 x1 x2 (some (gz, z0))) (zs : Value → List Value) {v : Value} {l : List Int} (ho : OwnI W n v l) (hn : gz < n) (hl : (zs v).length = z0.length) :
    KeptL b (W.setCells gz 0 (zs v)) zs l gz v :=
  ⟨(h.put _ hl).below, (h.put _ hl).box.1, (OwnI.cellsPast' hn (zs v) 0 W ho).lower (by have := h.box.2; omega)⟩

set_option maxRecDepth 100000 in
set_option maxHeartbeats 8000000 in
theorem law_packetBytes (A : Option Addr) (n c : Nat) (hm : n ≤ maxLen) (w : World) (hc : CodeOk w w.heap.size A n) :
    Calls Try.prog 3 #[.slice A n c] w fun e w' => e = .returned (.bool true) ∧ Below w.heap.size w w' := by
  by_cases hbig : 1048576 < n
  · go_enter Try.func3, Try.ntmps3
    go_wp2_with (go_at_call 15; refine (big_yes _ _ _ hbig hm _).mono ?_; rintro e w' ⟨rfl, rfl⟩)
    go_ret
    exact ⟨rfl, Below.refl _ _⟩
  · have hn : n ≤ 1048576 := by omega
    have Ha := Lib.hid (fun (w1 : World) (hb : Below w.heap.size w w1) i hi => at_any w.heap.size A n c hn i hi w1 (hc.more hb))
    have Hd := Lib.hid (draw_packets A n c hn w hc)
    clear hc hbig
    go_enter Try.func3, Try.ntmps3
    go_wp2_with (go_at_call 15; refine (big_no _ _ _ hn _).mono ?_; rintro e w' ⟨rfl, rfl⟩)
    refine Hd.out.mono ?_
    rintro e w1 ⟨v, L, hL1, hL7, hgood, rfl, hown, hb1⟩
    obtain ⟨gl, cap, rfl, _, hgl, hcells, _⟩ := OwnP.rows hown (by omega)
    have HQ : ∀ p ∈ L, OkQ p := fun p hp => by
      have h := hgood p hp
      exact ⟨⟨h.a0, by have := h.a1; omega⟩, ⟨h.q0, h.q1⟩, h.d⟩
    have HK := Lib.hid HQ
    have HC := Lib.hid hcells
    have B1 := Lib.hid hb1
    have hall := encQ_size_le L HQ
    clear hcells hb1 hown hgood Hd HQ
    go_wp2
    go_loopg [4, 5] L.length (fun g v4 v5 wx => ∃ k : Nat, k ≤ L.length ∧ g = L.length - k ∧ v4 = .string (encQ (L.take k)) ∧ v5 = .int .i64 (k : Int) ∧ Below w1.heap.size w1 wx)
    case atStart => exact ⟨0, by omega, by omega, rfl, by go_num, Below.refl _ _⟩
    case round =>
      obtain ⟨k, hk, rfl, rfl, rfl, hbel⟩ := hrel
      have HB := Lib.hid hbel
      by_cases hlt : k < L.length
      · have hd : decide (k < L.length) = true := by simp; omega
        obtain ⟨x0, x1, x2⟩ := HC.out k hlt
        have cx0 := (hbel.cell (p := ⟨gl, k * 3, none⟩) hgl).trans x0
        have cx1 := (hbel.cell (p := ⟨gl, k * 3 + 1, none⟩) hgl).trans x1
        have cx2 := (hbel.cell (p := ⟨gl, k * 3 + 2, none⟩) hgl).trans x2
        clear x0 x1 x2 hbel
        have E := Lib.hid (encQ_step L k hlt)
        have hS : (encQ (L.take k)).size ≤ 308 := by
          have h1 := encQ_size_le (L.take k) (fun p hp => HK.out p (List.mem_of_mem_take hp))
          rw [List.length_take] at h1
          omega
        have hp := HK.out _ (List.getElem_mem hlt)
        have hT := pkT_size hp
        have hd40 := hp.2.2
        have hT44 : (pkT (L[k]'hlt).1 (L[k]'hlt).2.1 (L[k]'hlt).2.2).size ≤ 44 := by omega
        clear hT hp
        generalize encQ (L.take k) = S at *
        generalize (L[k]'hlt).1 = a at *
        generalize (L[k]'hlt).2.1 = q at *
        generalize (L[k]'hlt).2.2 = d at *
        have HE := Lib.hid (enc_impl a q d (by omega))
        generalize pkT a q d = T at *
        go_wp2_with fail
        refine (HE.out _).mono ?_
        rintro e w2 ⟨rfl, hb2⟩
        go_wp2
        go_roundg (L.length - (k + 1))
        case measure => omega
        case rel => exact ⟨k + 1, by omega, rfl, by rw [E.out], by go_num, HB.out.trans (hb2.mono HB.out.size)⟩
      · obtain rfl : k = L.length := by omega
        have hd : decide (L.length < L.length) = false := by simp
        rw [List.take_length]
        have hbs := hbel.size
        have B2 := Lib.hid (B1.out.trans (hbel.mono B1.out.size))
        have HC2 := Lib.hid (fun k hk => (⟨(hbel.cell (p := ⟨gl, k * 3, none⟩) hgl).trans (HC.out k hk).1, (hbel.cell (p := ⟨gl, k * 3 + 1, none⟩) hgl).trans (HC.out k hk).2.1, (hbel.cell (p := ⟨gl, k * 3 + 2, none⟩) hgl).trans (HC.out k hk).2.2⟩ : wr.cell? ⟨gl, k * 3, none⟩ = some (.int .i64 (L[k]'hk).1) ∧ wr.cell? ⟨gl, k * 3 + 1, none⟩ = some (.int .i64 (L[k]'hk).2.1) ∧ wr.cell? ⟨gl, k * 3 + 2, none⟩ = some (.string (L[k]'hk).2.2)))
        have hgl2 : gl < wr.heap.size := by omega
        have HD := Lib.hid (fun k hk => decP_at L HK.out k hk)
        have HZ := Lib.hid (fun k hk => encQ_step_size L HK.out k hk)
        have HW := Lib.hid (show ((encQ (L.take L.length)).size : Int) = ((encQ L).size : Int) by rw [List.take_length])
        have HX := Lib.hid (fun (a : Int) (ha : 0 ≤ a ∧ a ≤ 100000) W => dec_impl (encQ L) (by omega) a (by omega) W)
        have HS := Lib.hid (fun k => show (encQ (L.take k)).size ≤ 308 from by
          have h1 := encQ_size_le (L.take k) (fun p hp => HK.out p (List.mem_of_mem_take hp))
          rw [List.length_take] at h1
          omega)
        clear hbel HC HB hgl hbs
        generalize hwr : wr = w2 at *
        clear hwr
        generalize encQ L = S at *
        go_wp2
        go_loopg [6, 7] L.length (fun g v6 v7 wx => ∃ k : Nat, k ≤ L.length ∧ g = L.length - k ∧ v6 = .int .i64 ((encQ (L.take k)).size : Int) ∧ v7 = .int .i64 (k : Int) ∧ Below w2.heap.size w2 wx)
        case atStart => exact ⟨0, by omega, by omega, rfl, by go_num, Below.refl _ _⟩
        case round =>
          obtain ⟨k, hk, rfl, rfl, rfl, hbel⟩ := hrel
          have HB := Lib.hid hbel
          by_cases hlt : k < L.length
          · have hd : decide (k < L.length) = true := by simp; omega
            have hd2 := HS.out k
            have HDk := Lib.hid (HX.out ((encQ (L.take k)).size : Int) (by omega))
            rw [HD.out k hlt] at HDk
            simp only [retD] at HDk
            have HZk := Lib.hid (HZ.out k hlt)
            have HCk := Lib.hid (HC2.out k hlt)
            have hp := HK.out _ (List.getElem_mem hlt)
            have HP := Lib.hid (pk_impl (L[k]'hlt).1 (L[k]'hlt).2.1 (L[k]'hlt).2.2)
            rw [decide_eq_true hp] at HP
            have hd40 := hp.2.2
            clear hp hbel
            generalize (encQ (L.take k)).size = z at *
            generalize (L[k]'hlt).1 = a at *
            generalize (L[k]'hlt).2.1 = q at *
            generalize (L[k]'hlt).2.2 = d at *
            go_wp2_with fail
            refine (HDk.out _).mono ?_
            rintro e w3 ⟨rfl, hb3⟩
            have B3 := HB.out.trans (hb3.mono HB.out.size)
            have B4 := B3.alloc B3.size (.cells (pkL a q d).toArray 28)
            have F4 := Box.made w3 (pkL a q d) 28 _ rfl
            obtain ⟨x0, x1, x2⟩ := HCk.out
            have cx0 := (B4.cell (p := ⟨gl, k * 3, none⟩) hgl2).trans x0
            have cx1 := (B4.cell (p := ⟨gl, k * 3 + 1, none⟩) hgl2).trans x1
            have cx2 := (B4.cell (p := ⟨gl, k * 3 + 2, none⟩) hgl2).trans x2
            obtain ⟨m0, m1, m2⟩ := F4.three
            have hself : (d.toList == d.toList) = true := beq_self_eq_true _
            have BH := Lib.hid B4
            clear x0 x1 x2 hb3 B3 B4 F4
            go_upto_region 14 with fail
            generalize w3.alloc (.cells #[.int .i64 a, .int .i64 q, .string d] 28) = w4 at *
            generalize w3.heap.size = g4 at *
            go_wp2
            go_region_law ((go_simp; go_at_call 19; (with_reducible refine (HP.out _).mono ?_); rintro e w5 ⟨rfl, hb5⟩))
            all_goals go_wp2
            all_goals
              go_roundg (L.length - (k + 1))
              case measure => omega
              case rel => exact ⟨k + 1, by omega, rfl, by rw [HZk.out], by go_num, BH.out.drew.trans (hb5.mono BH.out.drew.size)⟩
          · obtain rfl : k = L.length := by omega
            have hd : decide (L.length < L.length) = false := by simp
            rw [HW.out]
            have B3 := Lib.hid (B2.out.trans (HB.out.mono B2.out.size))
            have hw3 := HB.out.size
            have h0 : 0 < L.length := by omega
            have hp : PkOk (L[0]'h0).1 (L[0]'h0).2.1 (L[0]'h0).2.2 := HK.out _ (List.getElem_mem h0)
            have HC0 := HC2.out 0 h0
            have c0 : wr.cell? ⟨gl, 0, none⟩ = some (.int .i64 (L[0]'h0).1) := (HB.out.cell (p := ⟨gl, 0, none⟩) hgl2).trans HC0.1
            have c1 : wr.cell? ⟨gl, 1, none⟩ = some (.int .i64 (L[0]'h0).2.1) := (HB.out.cell (p := ⟨gl, 1, none⟩) hgl2).trans HC0.2.1
            have c2 : wr.cell? ⟨gl, 2, none⟩ = some (.string (L[0]'h0).2.2) := (HB.out.cell (p := ⟨gl, 2, none⟩) hgl2).trans HC0.2.2
            have hgl3 : gl < wr.heap.size := by omega
            clear HC0 HD HZ HS HX hbel HC2 HW HB
            generalize (L[0]'h0).1 = a at *
            generalize (L[0]'h0).2.1 = q at *
            generalize (L[0]'h0).2.2 = d at *
            have hd40 := hp.2.2
            have hRz := pkT_size hp
            have HPK := Lib.hid (show ∀ (x : Nat), x ≤ 255 → ∀ W, Calls Try.prog 20 #[paV 0 (x : Int) ⟨#[]⟩ (.slice none 0 0), pkV a q d] W fun e w' => ∃ A1 c1, e = .returned (.tuple #[paV 0 (x : Int) (pkT a q d) (.slice A1 1 c1), .bool true]) ∧ OwnI w' W.heap.size (.slice A1 1 c1) [0] ∧ Below W.heap.size W w' from fun x hx W => (pack_impl 0 (x : Int) ⟨#[]⟩ none [] 0 a q d (by simp) (by decide) (by omega) W (.inl rfl)).mono fun e w' h => by
              obtain ⟨v, h1, h2, h3⟩ := h
              obtain ⟨p1, p2, p3, _⟩ := packed (pa_empty (x := (x : Int)) (by omega) (by omega)) hp (by show 0 + _ ≤ _; omega)
              rw [p1, p2, nil_app] at h1
              rw [p3] at h2
              obtain ⟨A1, c1, rfl⟩ := h2.form
              exact ⟨A1, c1, h1, h2, h3⟩)
            have HPA := Lib.hid (show ∀ (x : Nat), x ≤ 255 → PaOk 0 (x : Int) (pkT a q d) [0] from fun x hx => by
              obtain ⟨p1, p2, p3, p4⟩ := packed (pa_empty (x := (x : Int)) (by omega) (by omega)) hp (by show 0 + _ ≤ _; omega)
              rw [p2, p3, nil_app] at p4
              exact p4)
            clear hp
            generalize hR : pkT a q d = R at *
            clear hR
            generalize hwr : wr = w3 at *
            clear hwr
            go_upto_region 17 with fail
            go_cut [11, 12] from 71 to 80 (fun s11 s12 wx => ∃ (x g : Nat) (v : Value), x ≤ 255 ∧ s11 = .pointer (some ⟨g, 0, none⟩) ∧ s12 = .bool true ∧ KeptL w3 wx (fun v => paL 0 (x : Int) R v) [0] g v)
            case first =>
              have ZS : ZL w3 w3 gl (.int .i64 a) (.int .i64 q) (.string d) none := ⟨Below.refl _ _, ⟨c0, c1, c2⟩, hgl3, fun z e => by cases e⟩
              have Z0 := ZS.drew
              have Z1 := (ZS.new (paL 0 0 ⟨#[]⟩ (.slice none 0 0)) 34).drew
              have Z2 := Z0.new (paL 0 0 ⟨#[]⟩ (.slice none 0 0)) 34
              have FA := Lib.hid (fun W zo (hz : ZL w3 W gl (.int .i64 a) (.int .i64 q) (.string d) zo) => (show Calls Try.prog 21 #[.slice A n c, .int .i64 0] W (Small W) from Ha.out W (B3.out.trans (hz.below.mono B3.out.size)) 0 (by omega)))
              have FF := Lib.hid (fun (x : Nat) (hx : x ≤ 255) W zo (hz : ZL w3 W gl (.int .i64 a) (.int .i64 q) (.string d) zo) => (HPK.out x hx W).mono fun e w' hh => (show ∃ A2 c2, e = .returned (.tuple #[paV 0 (x : Int) R (.slice A2 1 c2), .bool true]) ∧ OwnI w' W.heap.size (.slice A2 1 c2) [0] ∧ ZL w3 w' gl (.int .i64 a) (.int .i64 q) (.string d) zo ∧ w3.heap.size ≤ W.heap.size ∧ (∀ z, zo = some z → z.1 < W.heap.size) from by
                obtain ⟨A2, c2, h1, h2, h3⟩ := hh
                exact ⟨A2, c2, h1, h2, hz.more h3, hz.below.size, fun z e => (hz.bz z e).1.lt⟩))
              clear HPK HPA B1 B2
              go_wp2
              go_region_held3 (fun w' => w'.cell? ⟨gl, 0, none⟩ = some (.int .i64 a) ∧ w'.cell? ⟨gl, 1, none⟩ = some (.int .i64 q) ∧ w'.cell? ⟨gl, 2, none⟩ = some (.string d))
                (first | with_reducible exact Z0.cs | with_reducible exact Z1.cs | with_reducible exact Z2.cs | with_reducible exact ZF.cs | with_reducible exact (ZF.alloc _).cs | exact (ZF.put (paL 0 (x : Int) R (.slice A2 1 c2)) rfl).cs)
                (first
                  | (go_at_call 21; (first
                      | (with_reducible refine (FA.out _ _ Z0).mono ?_)
                      | (with_reducible refine (FA.out _ _ Z1).mono ?_)
                      | (with_reducible refine (FA.out _ _ Z2).mono ?_)); rintro e w' ⟨x, hx, rfl, rfl⟩)
                  | (go_at_call 20; (first
                      | (with_reducible refine (FF.out x hx _ _ Z0).mono ?_)
                      | (with_reducible refine (FF.out x hx _ _ Z1).mono ?_)
                      | (with_reducible refine (FF.out x hx _ _ Z2).mono ?_)); rintro e wF ⟨A2, c2, rfl, OF, ZF, hbn, hzn⟩; try (have zb := ZF.box.1; obtain ⟨z0, z1, z2, z3⟩ := zb.fourP; have zi := zb.ice)))
              all_goals go_wp2_with fail
              all_goals go_meet
              all_goals (first
                | exact ⟨x, _, _, hx, rfl, rfl, ZF.fin_made (fun v => paL 0 (x : Int) R v) OF hbn _⟩
                | exact ⟨x, _, _, hx, rfl, rfl, ZF.fin_put (fun v => paL 0 (x : Int) R v) OF (hzn _ rfl) rfl⟩)
            case rest =>
              obtain ⟨x, g11, v, hx, rfl, rfl, hb4, P4, O4⟩ := hcut
              generalize wc = w4 at *
              have B4 := Lib.hid (B3.out.trans (hb4.mono B3.out.size))
              have hpa := HPA.out x hx
              obtain ⟨f1, f2, f3, f4, f5, f6⟩ := filled hpa (by omega)
              clear f1 f2
              have HFI := Lib.hid (show ∀ v W b, OwnI W b v [0] → Calls Try.prog 23 #[paV 0 (x : Int) R v] W fun e w' => ∃ A2 c2, e = .returned (paV 0 (x : Int) (fillR 0 (x : Int) R [0]) (.slice A2 (fillL 0 (x : Int) R [0]).length c2)) ∧ OwnI w' W.heap.size (.slice A2 (fillL 0 (x : Int) R [0]).length c2) (fillL 0 (x : Int) R [0]) ∧ Below W.heap.size W w' from fun v W b ho => by
                obtain ⟨A1, c1, rfl⟩ := ho.form
                refine (fill_impl 0 (x : Int) R A1 [0] c1 (by decide) (by omega) W ho.ints).mono ?_
                rintro e w' ⟨v, h1, h2, h3⟩
                obtain ⟨A2, c2, rfl⟩ := h2.form
                exact ⟨A2, c2, h1, h2, h3⟩)
              have hGl : (fillL 0 (x : Int) R [0]).length ≤ 2 := by
                unfold fillL packL
                split
                · decide
                · cases packB 0 (x : Int) R [0] 15 0 (zerosT (fillN R.size)) <;> simp
              generalize fillR 0 (x : Int) R [0] = F at *
              generalize fillL 0 (x : Int) R [0] = G at *
              obtain ⟨t1, t2, t3, t4, t5, hfr⟩ := taken f3 (show 24 ≤ F.size by omega)
              have HTK := Lib.hid (show ∀ v W b, OwnI W b v G → Calls Try.prog 22 #[paV 0 (x : Int) F v] W fun e w' => ∃ A3 n3 c3, e = .returned (.tuple #[paV 0 (((x : Int) + 1) % 256) (F.extract 24 F.size) (.slice A3 n3 c3), frV 0 (x : Int) (firstI G) (F.extract 0 24), .bool true]) ∧ Below W.heap.size W w' from fun v W b ho => by
                obtain ⟨A1, c1, rfl⟩ := ho.form
                refine (take_impl 0 (x : Int) F A1 G c1 (by omega) (by omega) W ho.ints).mono ?_
                rintro e w' ⟨v, h1, h2, h3⟩
                obtain ⟨A2, c2, rfl⟩ := h2.form
                rw [t1, t2, t3, t5] at h1
                exact ⟨A2, _, c2, h1, h3⟩)
              clear t1 t2 t3 t4 t5 f3 f4 f5 f6 hGl hpa HPA HPK hRz
              generalize F.extract 24 F.size = F2 at *
              generalize F.extract 0 24 = D at *
              generalize firstI G = fi at *
              generalize ((x : Int) + 1) % 256 = N at *
              have hD := hfr.2.2.2
              obtain ⟨db, dz⟩ := decF_back hfr
              have HEF := Lib.hid (encF_impl 0 (x : Int) fi D (by omega))
              have HFO := Lib.hid (fo_impl 0 (x : Int) fi D)
              rw [decide_eq_true hfr] at HFO
              have HDT := Lib.hid (fun t j y hj hy ht => decF_turned hfr t j y hj hy ht)
              generalize frT 0 (x : Int) fi D = T at *
              have HDF := Lib.hid (fun W => decF_impl T (by omega) W)
              rw [db] at HDF
              simp only [retF] at HDF
              have HDB := Lib.hid (show ∀ t : ByteArray, t.size ≤ 30 → decF t = (0, 0, 0, ⟨#[]⟩, false) → ∀ W, Calls Try.prog 25 #[.string t] W fun e w' => e = .returned (.tuple #[frV 0 0 0 ⟨#[]⟩, .bool false]) ∧ Below W.heap.size W w' from fun t ht hd W => by
                have h := decF_impl t (by omega) W
                rw [hd] at h
                exact h)
              have HFR := Lib.hid hfr
              clear hfr db
              obtain ⟨k0, k1, k2, k3⟩ := P4.fourP
              go_wp2_with fail
              refine (HFI.out _ _ _ O4).mono ?_
              rintro e w5 ⟨A2, c2, rfl, O5, hb5⟩
              have B5 := Lib.hid (B4.out.trans (hb5.mono B4.out.size))
              clear hb5 hb4 P4 O4 k0 k1 k2 k3
              go_wp2_with fail
              refine (HTK.out _ _ _ O5).mono ?_
              rintro e w6 ⟨A3, n3, c3, rfl, hb6⟩
              have B6 := B5.out.trans (hb6.mono B5.out.size)
              have B7 := Lib.hid ((B6.alloc B6.size (.cells (paL 0 N F2 (.slice A3 n3 c3)).toArray 34)).alloc (by have := B6.size; simp; omega) (.cells (frL 0 (x : Int) fi D).toArray 39))
              have F7 := Lib.hid (Box.made (w6.alloc (.cells (paL 0 N F2 (.slice A3 n3 c3)).toArray 34)) (frL 0 (x : Int) fi D) 39 (w6.heap.size + 1) (by simp))
              clear hb6 B6 O5 HFI HTK
              go_upto_region 19 with fail
              generalize (w6.alloc (.cells #[.int .i64 0, .int .i64 N, .string F2, .slice A3 n3 c3] 34)).alloc (.cells #[.int .i64 0, .int .i64 (x : Int), .int .i64 fi, .string D] 39) = w7 at *
              generalize w6.heap.size = g13 at *
              obtain ⟨k0, k1, k2, k3⟩ := F7.out.four
              go_wp2_with fail
              refine (HEF.out _).mono ?_
              rintro e w8 ⟨rfl, hb8⟩
              have B8 := Lib.hid (B7.out.trans (hb8.mono B7.out.size))
              have F8 := Lib.hid (F7.out.more hb8)
              clear hb8 k0 k1 k2 k3 HEF
              go_wp2_with fail
              refine (HDF.out _).mono ?_
              rintro e w9 ⟨rfl, hb9⟩
              have B9 := B8.out.trans (hb9.mono B8.out.size)
              have B10 := Lib.hid (B9.alloc B9.size (.cells (frL 0 (x : Int) fi D).toArray 39))
              have F10 := Lib.hid ((F8.out.more hb9).alloc (.cells (frL 0 (x : Int) fi D).toArray 39))
              have G10 := Lib.hid (Box.made w9 (frL 0 (x : Int) fi D) 39 _ rfl)
              clear hb9 B9 HDF
              go_upto_region 21 with fail
              generalize w9.alloc (.cells #[.int .i64 0, .int .i64 (x : Int), .int .i64 fi, .string D] 39) = w10 at *
              generalize w9.heap.size = g17 at *
              have zT : T.size ≤ 29 := by omega
              go_wp2_with fail
              refine (Ha.out _ B10.out 1 (by omega)).mono ?_
              rintro e w' ⟨x1, hx1, rfl, rfl⟩
              go_wp2_with fail
              refine (Ha.out _ B10.out 2 (by omega)).mono ?_
              rintro e w' ⟨x2, hx2, rfl, rfl⟩
              have HTU := Lib.hid (fun (s : ByteArray) (hs : s.size = 30) (k n : Nat) (hk : k ≤ 1000000) (hn : n ≤ 1000000) W => turn_any s (by omega) (by omega) k n hk hn W)
              go_wp2_with fail
              refine (HTU.out _ (by rw [ByteArray.size_append, dz]; rfl) x1 x2 (by omega) (by omega) _).mono ?_
              rintro e w11 ⟨t, j, y, hj, hy, ht, rfl, hb11⟩
              have ht30 : t.size = 30 := by rw [set_size ht, ByteArray.size_append, dz]; rfl
              have B11 := Lib.hid (B10.out.trans (hb11.mono B10.out.size))
              have F11 := Lib.hid (F10.out.more hb11)
              have G11 := Lib.hid (G10.out.more hb11)
              have HB1 := Lib.hid (HDB.out t (by omega) (decF_long (by omega)))
              clear hb11 hj hy ht HTU
              go_wp2_with fail
              refine (HB1.out _).mono ?_
              rintro e w12 ⟨rfl, hb12⟩
              have B12 := B11.out.trans (hb12.mono B11.out.size)
              have B13 := Lib.hid (B12.alloc B12.size (.cells (frL 0 0 0 ⟨#[]⟩).toArray 39))
              have F13 := Lib.hid ((F11.out.more hb12).alloc (.cells (frL 0 0 0 ⟨#[]⟩).toArray 39))
              have G13 := Lib.hid ((G11.out.more hb12).alloc (.cells (frL 0 0 0 ⟨#[]⟩).toArray 39))
              clear hb12 B12 HB1
              go_upto_region 22 with fail
              generalize w12.alloc (.cells #[.int .i64 0, .int .i64 0, .int .i64 0, .string ⟨#[]⟩] 39) = w13 at *
              go_wp2_with fail
              refine (Ha.out _ B13.out 1 (by omega)).mono ?_
              rintro e w' ⟨x3, hx3, rfl, rfl⟩
              go_wp2_with fail
              refine (Ha.out _ B13.out 2 (by omega)).mono ?_
              rintro e w' ⟨x4, hx4, rfl, rfl⟩
              go_wp2_with fail
              refine (turn_any T (by omega) (by omega) x3 x4 (by omega) (by omega) _).mono ?_
              rintro e w14 ⟨t', j', y', hj', hy', ht', rfl, hb14⟩
              have ht29 : t'.size = 29 := by rw [set_size ht', dz]
              have B14 := Lib.hid (B13.out.trans (hb14.mono B13.out.size))
              have F14 := Lib.hid (F13.out.more hb14)
              have G14 := Lib.hid (G13.out.more hb14)
              have HB2 := Lib.hid (HDB.out t' (by omega) (HDT.out t' j' y' hj' hy' ht'))
              clear hb14 hj' hy' ht'
              go_wp2_with fail
              refine (HB2.out _).mono ?_
              rintro e w15 ⟨rfl, hb15⟩
              have B15 := B14.out.trans (hb15.mono B14.out.size)
              have B16 := Lib.hid (B15.alloc B15.size (.cells (frL 0 0 0 ⟨#[]⟩).toArray 39))
              have F16 := (F14.out.more hb15).alloc (.cells (frL 0 0 0 ⟨#[]⟩).toArray 39)
              have G16 := (G14.out.more hb15).alloc (.cells (frL 0 0 0 ⟨#[]⟩).toArray 39)
              obtain ⟨k0, k1, k2, k3⟩ := F16.four
              obtain ⟨m0, m1, m2, m3⟩ := G16.four
              clear hb15 B15 F16 G16 HB2
              have hself : (D.toList == D.toList) = true := beq_self_eq_true _
              have hss : ((S.size : Int) == (S.size : Int)) = true := beq_self_eq_true _
              have h29 : ((T.size : Int) == 29) = true := by rw [dz]; rfl
              go_upto_region 23 with fail
              generalize w15.alloc (.cells #[.int .i64 0, .int .i64 0, .int .i64 0, .string ⟨#[]⟩] 39) = w16 at *
              go_wp2_with fail
              refine (HFO.out _).mono ?_
              rintro e w17 ⟨rfl, hb17⟩
              go_wp2
              go_ret
              exact ⟨rfl, B16.out.trans (hb17.mono B16.out.size)⟩
end Go.Proofs.Ytegahdlfjdjcaaa
