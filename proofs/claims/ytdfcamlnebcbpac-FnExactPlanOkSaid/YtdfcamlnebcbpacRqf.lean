/- What this text proves: the contracts of the program's requestOk, requestWith and of both sides' RequestsOk. -/
import Derived.Test.YtdfcamlnebcbpacPlkM
import Derived.Test.YtdfcamlnebcbpacRqU
import Derived.Test.YtdfcamlnebcbpacVis
import Derived.Deep.LoopGhost
import Derived.BigQuiet
namespace Go.Proofs.Ytdfcamlnebcbpac
open Go.ChangeShapes Go.WideShapes Go.ChangeAt Go.RowKit
set_option linter.unusedVariables false

set_option maxHeartbeats 1000000 in
theorem rq1_impl (a b c d : Int) (w : World) :
    Calls Try.prog 87 #[rqV a b c d] w fun e w' => e = .returned (.bool (decide (RqOk (a, b, c, d)))) ∧ Below w.heap.size w w' := by
  have HB := Lib.hid ((Below.refl _ w).alloc (Nat.le_refl _) (.cells (rqL a b c d).toArray 80))
  have H1 := iw_anyD a 0 255
  have H2 := im_any b
  have H3 := iw_anyD d 1 100
  by_cases h1 : 0 ≤ a ∧ a ≤ 255
  · rw [decide_eq_true h1] at H1
    have H1 := Lib.hid H1
    by_cases h2 : 0 ≤ b ∧ b ≤ 1000000
    · rw [decide_eq_true h2] at H2
      have H2 := Lib.hid H2
      by_cases h3 : 1 ≤ d ∧ d ≤ 100
      · rw [decide_eq_true h3] at H3
        have H3 := Lib.hid H3
        have w1 : IntKind.i64.wrap (b + 2000) = b + 2000 := IntWalk.i64_in _ (by omega)
        have w1' : wrap64 (b + 2000) = b + 2000 := by unfold wrap64; omega
        by_cases hc : 1000000 < b + 2000
        · have H4 := Lib.hid (iw_anyD c b 1000000)
          have HV := Lib.hid (show decide (RqOk (a, b, c, d)) = decide (b ≤ c ∧ c ≤ 1000000) from by
            rw [decide_eq_decide]
            exact ⟨fun h => ⟨h.2.2.1.1, by have : c ≤ min 1000000 (b + 2000) := h.2.2.1.2; omega⟩, fun h => ⟨h1, h2, ⟨h.1, by show c ≤ min 1000000 (b + 2000); omega⟩, h3⟩⟩)
          generalize decide (b ≤ c ∧ c ≤ 1000000) = r at *
          clear h1 h2 h3
          go_enter Try.func87, Try.ntmps87
          go_wp2_with fail
          refine (H1.out _).mono ?_
          rintro e w' ⟨rfl, rfl⟩
          go_wp2_with fail
          refine (H2.out _).mono ?_
          rintro e w' ⟨rfl, rfl⟩
          go_wp2_with fail
          refine (H3.out _).mono ?_
          rintro e w' ⟨rfl, rfl⟩
          go_wp2_with fail
          refine (H4.out _).mono ?_
          rintro e w' ⟨rfl, rfl⟩
          go_wp2
          go_ret
          exact ⟨by rw [HV.out]; first | done | rfl, HB.out⟩
        · have H4 := Lib.hid (iw_anyD c b (b + 2000))
          have HV := Lib.hid (show decide (RqOk (a, b, c, d)) = decide (b ≤ c ∧ c ≤ b + 2000) from by
            rw [decide_eq_decide]
            exact ⟨fun h => ⟨h.2.2.1.1, by have : c ≤ min 1000000 (b + 2000) := h.2.2.1.2; omega⟩, fun h => ⟨h1, h2, ⟨h.1, by show c ≤ min 1000000 (b + 2000); omega⟩, h3⟩⟩)
          generalize decide (b ≤ c ∧ c ≤ b + 2000) = r at *
          clear h1 h2 h3
          go_enter Try.func87, Try.ntmps87
          go_wp2_with fail
          refine (H1.out _).mono ?_
          rintro e w' ⟨rfl, rfl⟩
          go_wp2_with fail
          refine (H2.out _).mono ?_
          rintro e w' ⟨rfl, rfl⟩
          go_wp2_with fail
          refine (H3.out _).mono ?_
          rintro e w' ⟨rfl, rfl⟩
          go_wp2_with fail
          refine (H4.out _).mono ?_
          rintro e w' ⟨rfl, rfl⟩
          go_wp2
          go_ret
          exact ⟨by rw [HV.out]; first | done | rfl, HB.out⟩
      · rw [decide_eq_false h3] at H3
        have H3 := Lib.hid H3
        have HV := Lib.hid (show decide (RqOk (a, b, c, d)) = false from decide_eq_false (fun h => h3 h.2.2.2))
        clear h1 h2 h3
        go_enter Try.func87, Try.ntmps87
        go_wp2_with fail
        refine (H1.out _).mono ?_
        rintro e w' ⟨rfl, rfl⟩
        go_wp2_with fail
        refine (H2.out _).mono ?_
        rintro e w' ⟨rfl, rfl⟩
        go_wp2_with fail
        refine (H3.out _).mono ?_
        rintro e w' ⟨rfl, rfl⟩
        go_wp2
        go_ret
        exact ⟨by rw [HV.out]; first | done | rfl, HB.out⟩
    · rw [decide_eq_false h2] at H2
      have H2 := Lib.hid H2
      have HV := Lib.hid (show decide (RqOk (a, b, c, d)) = false from decide_eq_false (fun h => h2 h.2.1))
      clear h1 h2 H3
      go_enter Try.func87, Try.ntmps87
      go_wp2_with fail
      refine (H1.out _).mono ?_
      rintro e w' ⟨rfl, rfl⟩
      go_wp2_with fail
      refine (H2.out _).mono ?_
      rintro e w' ⟨rfl, rfl⟩
      go_wp2
      go_ret
      exact ⟨by rw [HV.out]; first | done | rfl, HB.out⟩
  · rw [decide_eq_false h1] at H1
    have H1 := Lib.hid H1
    have HV := Lib.hid (show decide (RqOk (a, b, c, d)) = false from decide_eq_false (fun h => h1 h.1))
    clear h1 H2 H3
    go_enter Try.func87, Try.ntmps87
    go_wp2_with fail
    refine (H1.out _).mono ?_
    rintro e w' ⟨rfl, rfl⟩
    go_wp2
    go_ret
    exact ⟨by rw [HV.out]; first | done | rfl, HB.out⟩
theorem rqc_impl (a b c d id : Int) (g : Nat) (w : World) (hg : g < w.heap.size) (hc : w.cell? ⟨g, 0, none⟩ = some (.int .i64 id)) :
    Calls Try.prog 89 #[rqV a b c d, .pointer (some ⟨g, 0, none⟩)] w fun e w' => e = .returned (.bool (a == id)) ∧ Below w.heap.size w w' := by
  have HB := Lib.hid ((Below.refl _ w).alloc (Nat.le_refl _) (.cells (rqL a b c d).toArray 80))
  have hc2 : (w.alloc (.cells (rqL a b c d).toArray 80)).cell? ⟨g, 0, none⟩ = some (.int .i64 id) := (HB.out.cell (p := ⟨g, 0, none⟩) hg).trans hc
  go_enter Try.func89, Try.ntmps89
  go_wp2
  go_ret
  exact ⟨rfl, HB.out⟩
set_option maxHeartbeats 1000000 in
theorem rqi_impl (A : Option Addr) (l : List Rq) (c : Nat) (id : Int) (g : Nat) (hl : l.length ≤ 2000000) (w : World) (hg : g < w.heap.size) (hc : w.cell? ⟨g, 0, none⟩ = some (.int .i64 id)) (h : LsI 4 w w.heap.size A (l.map rqC)) :
    Calls Try.prog 88 #[.slice A l.length c, .func (.func 89) #[] #[.pointer (some ⟨g, 0, none⟩)]] w fun e w' => ∃ i, e = .returned (.int .i64 i) ∧ IdxIs l id i ∧ Below w.heap.size w w' := by
  have HI := Lib.hid (fun W (hb : Below w.heap.size w W) => h.more hb)
  have HC := Lib.hid (fun W (hb : Below w.heap.size w W) x0 x1 x2 x3 => rqc_impl x0 x1 x2 x3 id g W (Nat.lt_of_lt_of_le hg hb.size) ((hb.cell (p := ⟨g, 0, none⟩) hg).trans hc))
  clear h hc
  go_enter Try.func88, Try.ntmps88
  go_wp2
  go_loopg [8] l.length (fun gh v8 wx => ∃ k : Nat, k ≤ l.length ∧ gh = l.length - k ∧ v8 = .int .i64 (k : Int) ∧ (∀ j, j < k → rI l j ≠ id) ∧ Below w.heap.size w wx)
  case atStart => exact ⟨0, by omega, rfl, rfl, fun j h => absurd h (Nat.not_lt_zero _), Below.refl _ _⟩
  case round =>
    obtain ⟨k, hk, rfl, rfl, hall, hbel⟩ := hrel
    have HA := Lib.hid hall
    have HB := Lib.hid hbel
    clear hall
    by_cases hlt : k < l.length
    · have hd : decide (k < l.length) = true := by simp; omega
      have hd' : decide ((k : Int) < (l.length : Int)) = true := by simp; omega
      obtain ⟨bb, off, rfl, hb, hcl⟩ := rqCellsI (b := 0) (off := 0) (HI.out _ hbel) (by omega)
      obtain ⟨c0, c1, c2, c3⟩ := hcl k hlt
      have HE := Lib.hid (show rqAt l k = l[k] from by simp [rqAt, hlt])
      clear hcl
      generalize l[k] = z at *
      obtain ⟨x0, x1, x2, x3⟩ := z
      simp only [] at c0 c1 c2 c3
      have HCK := Lib.hid (HC.out _ hbel x0 x1 x2 x3)
      clear hbel
      by_cases he : x0 = id
      · have hb1 : (x0 == id) = true := by simpa using he
        rw [hb1] at HCK
        have HP := Lib.hid (show IdxIs l id (k : Int) from .inr ⟨k, hlt, rfl, (by show (rqAt l k).1 = id; rw [HE.out]; exact he), HA.out⟩)
        clear hb1 he
        go_wp2_with fail
        refine HCK.out.mono ?_
        rintro e w2 ⟨rfl, hb2⟩
        have HB2 := Lib.hid (HB.out.trans (hb2.mono HB.out.size))
        clear hb2 c0 c1 c2 c3
        go_wp2
        go_ret
        exact ⟨_, rfl, HP.out, HB2.out⟩
      · have hb1 : (x0 == id) = false := by simpa using he
        rw [hb1] at HCK
        have HA2 := Lib.hid (show ∀ j, j < k + 1 → rI l j ≠ id from fun j hjk => by
          rcases Nat.lt_succ_iff_lt_or_eq.1 hjk with h3 | rfl
          · exact HA.out j h3
          · show (rqAt l j).1 ≠ id; rw [HE.out]; exact he)
        clear hb1 he
        go_wp2_with fail
        refine HCK.out.mono ?_
        rintro e w2 ⟨rfl, hb2⟩
        have HB2 := Lib.hid (HB.out.trans (hb2.mono HB.out.size))
        clear hb2 c0 c1 c2 c3
        go_wp2
        go_roundg (l.length - (k + 1))
        case measure => omega
        case rel => exact ⟨k + 1, by omega, rfl, by go_num, HA2.out, HB2.out⟩
    · have hd : decide (k < l.length) = false := by simp; omega
      have hd' : decide ((k : Int) < (l.length : Int)) = false := by simp; omega
      have HP := Lib.hid (show IdxIs l id (-1) from .inl ⟨rfl, fun j hj => HA.out j (by omega)⟩)
      clear hlt
      go_wp2
      go_ret
      exact ⟨_, rfl, HP.out, HB.out⟩
theorem rqw_impl (A : Option Addr) (l : List Rq) (c : Nat) (id : Int) (hl : l.length ≤ 2000000) (w : World) (h : LsI 4 w w.heap.size A (l.map rqC)) :
    Calls Try.prog 45 #[.slice A l.length c, .int .i64 id] w fun e w' => ∃ i, e = .returned (.int .i64 i) ∧ IdxIs l id i ∧ Below w.heap.size w w' := by
  have HB := (Below.refl _ w).alloc (Nat.le_refl _) (.cells #[.int .i64 id] 3)
  have HC := Lib.hid (rqi_impl A l c id w.heap.size hl (w.alloc (.cells #[.int .i64 id] 3)) (by simp) (by rw [World.cell?_alloc_at _ _ _ _ rfl]; rfl) (h.full HB))
  have HB := Lib.hid HB
  clear h
  go_enter Try.func45, Try.ntmps45
  go_wp2_with fail
  refine HC.out.mono ?_
  rintro e w2 ⟨i, rfl, hp, hb⟩
  have HP := Lib.hid hp
  have HB2 := Lib.hid (HB.out.trans (hb.mono HB.out.size))
  clear hp hb
  go_wp2
  go_ret
  exact ⟨i, rfl, HP.out, HB2.out⟩
set_option maxRecDepth 20000 in
set_option maxHeartbeats 2000000 in
theorem rqs_impl (A : Option Addr) (l : List Rq) (c : Nat) (hl : l.length ≤ 2000000) (w : World) (h : LsI 4 w w.heap.size A (l.map rqC)) :
    Calls Try.prog 44 #[.slice A l.length c] w fun e w' => e = .returned (.bool (decide (RqsOk l))) ∧ Below w.heap.size w w' := by
  have HNO := Lib.hid (show ¬ RqsOk l → decide (RqsOk l) = false from fun h => decide_eq_false h)
  have HYS := Lib.hid (show RqsOk l → decide (RqsOk l) = true from fun h => decide_eq_true h)
  by_cases hn : l.length ≤ 12
  · have dn : decide (12 < l.length) = false := by simp; omega
    have dn' : decide ((12 : Int) < (l.length : Int)) = false := by simp; omega
    have HI := Lib.hid (fun W (hb : Below w.heap.size w W) => h.more hb)
    have HI2 := Lib.hid (fun W (hb : Below w.heap.size w W) => h.full hb)
    have HW := Lib.hid (fun (id : Int) W (hb : Below w.heap.size w W) => rqw_impl A l c id hl W (HI2.out W hb))
    have H1 := Lib.hid (fun a b c d W => rq1_impl a b c d W)
    clear h HI2
    go_enter Try.func44, Try.ntmps44
    go_wp2
    go_loopg [10] l.length (fun gh v wx => ∃ k : Nat, k ≤ l.length ∧ gh = l.length - k ∧ v = .int .i64 (k : Int) ∧ RqUp l k ∧ Below w.heap.size w wx)
    case atStart => exact ⟨0, by omega, rfl, rfl, RqUp.zero l, Below.refl _ _⟩
    case round =>
      obtain ⟨k, hk, rfl, rfl, hup, hbel⟩ := hrel
      have HUP := Lib.hid hup
      have HB := Lib.hid hbel
      clear hup
      by_cases hlt : k < l.length
      · have hd : decide (k < l.length) = true := by simp; omega
        have hd' : decide ((k : Int) < (l.length : Int)) = true := by simp; omega
        obtain ⟨bb, off, rfl, hb, hcl⟩ := rqCellsI (b := 0) (off := 0) (HI.out _ hbel) (by omega)
        obtain ⟨c0, c1, c2, c3⟩ := hcl k hlt
        have HE := Lib.hid (show rqAt l k = l[k] from by simp [rqAt, hlt])
        clear hcl
        generalize l[k] = z at *
        obtain ⟨x0, x1, x2, x3⟩ := z
        simp only [] at c0 c1 c2 c3
        have B0 := Lib.hid (Box.made wr (rqL x0 x1 x2 x3) 80 _ rfl)
        have HB1 := Lib.hid (HB.out.alloc HB.out.size (.cells (rqL x0 x1 x2 x3).toArray 80))
        have HCK := H1.out x0 x1 x2 x3
        clear hbel
        by_cases h1 : RqOk (x0, x1, x2, x3)
        · rw [decide_eq_true h1] at HCK
          have HCK := Lib.hid HCK
          have HL := Lib.hid hlt
          have HWK := Lib.hid (HW.out x0)
          have HQ := Lib.hid (show ∀ i : Int, IdxIs l x0 i → (i = (k : Int) → RqUp l (k + 1)) ∧ (i ≠ (k : Int) → decide (RqsOk l) = false) from fun i hi => by
            have hx : rI l k = x0 := by show (rqAt l k).1 = x0; rw [HE.out]
            rcases hi with ⟨rfl, hi⟩ | ⟨m, hm, rfl, hm1, hm2⟩
            · exact absurd hx (hi k HL.out)
            · refine ⟨fun e => ?_, fun e => HNO.out fun hok => ?_⟩
              · have e2 : m = k := by omega
                subst e2
                exact HUP.out.succ (by rw [HE.out]; exact h1) (fun j hj => by rw [hx]; exact hm2 j hj)
              · have := hok.inj hm HL.out (hm1.trans hx.symm)
                omega)
          clear h1
          go_wp2_with fail
          refine (HCK.out _).mono ?_
          rintro e w2 ⟨rfl, hb2⟩
          have HB2 := Lib.hid (HB1.out.trans (hb2.mono HB1.out.size))
          have d0 := (B0.out.more hb2).cell 0 (by simp)
          clear hb2 c0 c1 c2 c3
          go_wp2_with fail
          refine (HWK.out _ HB2.out).mono ?_
          rintro e w3 ⟨i, rfl, hi, hb3⟩
          have HB3 := Lib.hid (HB2.out.trans (hb3.mono HB2.out.size))
          have HQ2 := Lib.hid (HQ.out i hi)
          clear hi hb3 HQ d0
          by_cases hik : i = (k : Int)
          · have hne : (i != (k : Int)) = false := by simp [hik]
            have HUP2 := Lib.hid (HQ2.out.1 hik)
            subst hik
            go_wp2
            go_roundg (l.length - (k + 1))
            case measure => omega
            case rel => exact ⟨k + 1, by omega, rfl, by go_num, HUP2.out, HB3.out⟩
          · have hne : (i != (k : Int)) = true := by simp [hik]
            have HV := Lib.hid (HQ2.out.2 hik)
            clear hik HQ2
            go_wp2
            go_ret
            exact ⟨by rw [HV.out]; first | done | rfl, HB3.out⟩
        · rw [decide_eq_false h1] at HCK
          have HCK := Lib.hid HCK
          have HV := Lib.hid (HNO.out (fun h => h1 (by have := h.at hlt; rw [HE.out] at this; exact this)))
          clear h1
          go_wp2_with fail
          refine (HCK.out _).mono ?_
          rintro e w2 ⟨rfl, hb2⟩
          have HB2 := Lib.hid (HB1.out.trans (hb2.mono HB1.out.size))
          clear hb2 c0 c1 c2 c3
          go_wp2
          go_ret
          exact ⟨by rw [HV.out]; first | done | rfl, HB2.out⟩
      · have hd : decide (k < l.length) = false := by simp; omega
        have hd' : decide ((k : Int) < (l.length : Int)) = false := by simp; omega
        obtain rfl : k = l.length := by omega
        have HV := Lib.hid (HYS.out ⟨hn, HUP.out⟩)
        clear hlt
        go_wp2
        go_ret
        exact ⟨by rw [HV.out]; first | done | rfl, HB.out⟩
  · have dn : decide (12 < l.length) = true := by simp; omega
    have dn' : decide ((12 : Int) < (l.length : Int)) = true := by simp; omega
    have HV := Lib.hid (HNO.out (fun h => hn h.1))
    clear hn h
    go_enter Try.func44, Try.ntmps44
    go_wp2
    go_ret
    exact ⟨by rw [HV.out]; first | done | rfl, Below.refl _ _⟩
set_option maxRecDepth 20000 in
set_option maxHeartbeats 4000000 in
theorem rqs_spec (A : Option Addr) (l : List Rq) (c : Nat) (hl : l.length ≤ 2000000) (w : World) (h : LsI 4 w w.heap.size A (l.map rqC)) :
    Calls Try.prog 40 #[.slice A l.length c] w fun e w' => e = .returned (.bool (decide (RqsOk l))) ∧ Below w.heap.size w w' := by
  have HNO := Lib.hid (show ¬ RqsOk l → decide (RqsOk l) = false from fun h => decide_eq_false h)
  have HI := Lib.hid (fun W (hb : Below w.heap.size w W) => h.more hb)
  have HW := Lib.hid (fun a b c W => in_anyP a b c W)
  clear h
  go_enter Try.func40, Try.ntmps40
  go_wp2
  go_loopg [3] l.length (fun gh v wx => ∃ k : Nat, k ≤ l.length ∧ gh = l.length - k ∧ v = .int .i64 (k : Int) ∧ RqUp l k ∧ Below w.heap.size w wx)
  case atStart => exact ⟨0, by omega, rfl, rfl, RqUp.zero l, Below.refl _ _⟩
  case round =>
    obtain ⟨k, hk, rfl, rfl, hup, hbel⟩ := hrel
    have HUP := Lib.hid hup
    have HB := Lib.hid hbel
    clear hup
    by_cases hlt : k < l.length
    · have hd : decide (k < l.length) = true := by simp; omega
      have hd' : decide ((k : Int) < (l.length : Int)) = true := by simp; omega
      obtain ⟨bb, off, rfl, hb, hcl⟩ := rqCellsI (b := 0) (off := 0) (HI.out _ hbel) (by omega)
      obtain ⟨c0, c1, c2, c3⟩ := hcl k hlt
      have HC := Lib.hid hcl
      have HE := Lib.hid (show rqAt l k = l[k] from by simp [rqAt, hlt])
      clear hcl
      generalize l[k] = z at *
      obtain ⟨x0, x1, x2, x3⟩ := z
      simp only [] at c0 c1 c2 c3
      have B0 := Lib.hid (Box.made wr (rqL x0 x1 x2 x3) 80 _ rfl)
      have HB1 := Lib.hid (HB.out.alloc HB.out.size (.cells (rqL x0 x1 x2 x3).toArray 80))
      have HBL := Lib.hid (Nat.lt_of_lt_of_le hb hbel.size)
      have HN1 := Lib.hid (show ¬ RqOk (x0, x1, x2, x3) → decide (RqsOk l) = false from fun h1 => HNO.out (fun h => h1 (by have := h.at hlt; rw [HE.out] at this; exact this)))
      clear hbel
      have H1 := HW.out x0 0 255
      have H2 := HW.out x1 0 1000000
      have H4 := HW.out x3 1 100
      by_cases h1 : 0 ≤ x0 ∧ x0 ≤ 255
      rotate_left
      · rw [decide_eq_false h1] at H1
        have H1 := Lib.hid H1
        have HV := Lib.hid (HN1.out (fun h => h1 h.1))
        clear h1
        go_wp2_with fail
        refine (H1.out _).mono ?_
        rintro e w' ⟨rfl, rfl⟩
        go_wp2
        go_ret
        exact ⟨by rw [HV.out]; first | done | rfl, HB1.out⟩
      rw [decide_eq_true h1] at H1
      have H1 := Lib.hid H1
      by_cases h2 : 0 ≤ x1 ∧ x1 ≤ 1000000
      rotate_left
      · rw [decide_eq_false h2] at H2
        have H2 := Lib.hid H2
        have HV := Lib.hid (HN1.out (fun h => h2 h.2.1))
        clear h2
        go_wp2_with fail
        refine (H1.out _).mono ?_
        rintro e w' ⟨rfl, rfl⟩
        go_wp2_with fail
        refine (H2.out _).mono ?_
        rintro e w' ⟨rfl, rfl⟩
        go_wp2
        go_ret
        exact ⟨by rw [HV.out]; first | done | rfl, HB1.out⟩
      rw [decide_eq_true h2] at H2
      have H2 := Lib.hid H2
      have w1 : IntKind.i64.wrap (x1 + 2000) = x1 + 2000 := IntWalk.i64_in _ (by omega)
      have w1' : wrap64 (x1 + 2000) = x1 + 2000 := by unfold wrap64; omega
      obtain ⟨M, hM, hMc⟩ : ∃ M, min 1000000 (x1 + 2000) = M ∧ (x1 + 2000 < 1000000 ∧ M = x1 + 2000 ∨ ¬ x1 + 2000 < 1000000 ∧ M = 1000000) := ⟨_, rfl, by omega⟩
      have H3 := HW.out x2 x1 M
      have HM := Lib.hid hM
      by_cases h3 : x1 ≤ x2 ∧ x2 ≤ M
      rotate_left
      · rw [decide_eq_false h3] at H3
        have H3 := Lib.hid H3
        have HV := Lib.hid (HN1.out (fun h => h3 (by have := h.2.2.1; simp only [] at this; rw [HM.out] at this; exact this)))
        clear h3 h1 h2 hM
        rcases hMc with ⟨hc, rfl⟩ | ⟨hc, rfl⟩
        all_goals
          go_wp2_with fail
          refine (H1.out _).mono ?_
          rintro e w' ⟨rfl, rfl⟩
          go_wp2_with fail
          refine (H2.out _).mono ?_
          rintro e w' ⟨rfl, rfl⟩
          go_wp2_with fail
          refine (H3.out _).mono ?_
          rintro e w' ⟨rfl, rfl⟩
          go_wp2
          go_ret
          exact ⟨by rw [HV.out]; first | done | rfl, HB1.out⟩
      rw [decide_eq_true h3] at H3
      have H3 := Lib.hid H3
      by_cases h4 : 1 ≤ x3 ∧ x3 ≤ 100
      rotate_left
      · rw [decide_eq_false h4] at H4
        have H4 := Lib.hid H4
        have HV := Lib.hid (HN1.out (fun h => h4 h.2.2.2))
        clear h4 h3 h1 h2 hM
        rcases hMc with ⟨hc, rfl⟩ | ⟨hc, rfl⟩
        all_goals
          go_wp2_with fail
          refine (H1.out _).mono ?_
          rintro e w' ⟨rfl, rfl⟩
          go_wp2_with fail
          refine (H2.out _).mono ?_
          rintro e w' ⟨rfl, rfl⟩
          go_wp2_with fail
          refine (H3.out _).mono ?_
          rintro e w' ⟨rfl, rfl⟩
          go_wp2_with fail
          refine (H4.out _).mono ?_
          rintro e w' ⟨rfl, rfl⟩
          go_wp2
          go_ret
          exact ⟨by rw [HV.out]; first | done | rfl, HB1.out⟩
      rw [decide_eq_true h4] at H4
      have H4 := Lib.hid H4
      have HOK := Lib.hid (show RqOk (x0, x1, x2, x3) from ⟨h1, h2, by show x1 ≤ x2 ∧ x2 ≤ min 1000000 (x1 + 2000); rw [hM]; exact h3, h4⟩)
      have HKL := Lib.hid hlt
      clear h1 h2 h3 h4 hM
      rcases hMc with ⟨hc, rfl⟩ | ⟨hc, rfl⟩
      all_goals
        go_wp2_with fail
        refine (H1.out _).mono ?_
        rintro e w' ⟨rfl, rfl⟩
        go_wp2_with fail
        refine (H2.out _).mono ?_
        rintro e w' ⟨rfl, rfl⟩
        go_wp2_with fail
        refine (H3.out _).mono ?_
        rintro e w' ⟨rfl, rfl⟩
        go_wp2_with fail
        refine (H4.out _).mono ?_
        rintro e w' ⟨rfl, rfl⟩
        clear H1 H2 H3 H4 w1 w1' hc
        have b0 := B0.out.cell 0 (by simp)
        have HX := Lib.hid (show rI l k = x0 from by show (rqAt l k).1 = x0; rw [HE.out])
        obtain ⟨wo, rfl⟩ : ∃ x, x = wr := ⟨_, rfl⟩
        go_wp2
        go_loopg [5] k (fun gh v wy => ∃ m : Nat, m ≤ k ∧ gh = k - m ∧ v = .int .i64 (m : Int) ∧ (∀ i, i < m → rI l i ≠ x0) ∧ Below (wo.alloc (.cells (rqL x0 x1 x2 x3).toArray 80)).heap.size (wo.alloc (.cells (rqL x0 x1 x2 x3).toArray 80)) wy)
        case atStart => exact ⟨0, by omega, rfl, rfl, fun j h => absurd h (Nat.not_lt_zero _), Below.refl _ _⟩
        case round =>
          obtain ⟨m, hm, rfl, rfl, hall, hbel⟩ := hrel
          have HAL := Lib.hid hall
          clear hall
          have HYB := Lib.hid (HB1.out.trans (hbel.mono HB1.out.size))
          have e0 := (B0.out.more hbel).cell 0 (by simp)
          have HBY := Lib.hid hbel
          clear hbel
          by_cases hlt2 : m < k
          · have e2 : decide (m < k) = true := by simp; omega
            have e2' : decide ((m : Int) < (k : Int)) = true := by simp; omega
            have hml : m < l.length := by have := HKL.out; omega
            have hdm : decide (m < l.length) = true := by simp; omega
            obtain ⟨bb2, off2, ee, hb2, hc2⟩ := rqCellsI (b := 0) (off := 0) (HI.out _ HYB.out) (by omega)
            obtain ⟨rfl, rfl⟩ : bb2 = bb ∧ off2 = off := by injection ee with ee; injection ee with e1 e2; exact ⟨e1.symm, e2.symm⟩
            obtain ⟨q0, _, _, _⟩ := hc2 m hml
            have HE2 := Lib.hid (show rI l m = (l[m]'hml).1 from by show (rqAt l m).1 = _; simp [rqAt, hml])
            clear hc2 ee
            generalize (l[m]'hml).1 = y0 at *
            by_cases he : y0 = x0
            · have hb1 : (y0 == x0) = true := by simpa using he
              have HV := Lib.hid (HNO.out (fun h => (h.2 k HKL.out).2 m hlt2 (by rw [HX.out, HE2.out]; exact he)))
              clear he
              go_wp2
              go_quiet (fail)
              go_wp2
              go_ret
              exact ⟨by rw [HV.out]; first | done | rfl, by first | exact HYB.out | exact HYB.out.drew | exact HYB.out.trans (below_draws (Below.refl _ _) _ |>.mono HYB.out.size)⟩
            · have hb1 : (y0 == x0) = false := by simpa using he
              have HA2 := Lib.hid (show ∀ i, i < m + 1 → rI l i ≠ x0 from fun i hi => by
                rcases Nat.lt_succ_iff_lt_or_eq.1 hi with h3 | rfl
                · exact HAL.out i h3
                · rw [HE2.out]; exact he)
              clear he
              go_wp2
              go_quiet (fail)
              go_wp2
              go_roundg (k - (m + 1))
              case measure => omega
              case rel => exact ⟨m + 1, by omega, rfl, by go_num, HA2.out, below_draws HBY.out _⟩
          · have e2 : decide (m < k) = false := by simp; omega
            have e2' : decide ((m : Int) < (k : Int)) = false := by simp; omega
            obtain rfl : m = k := by omega
            have HUP2 := Lib.hid (HUP.out.succ (by rw [HE.out]; exact HOK.out) (fun i hi => by rw [HX.out]; exact HAL.out i hi))
            clear hlt2
            go_wp2
            go_roundg (l.length - (m + 1))
            case measure => have := HKL.out; omega
            case rel => exact ⟨m + 1, by have := HKL.out; omega, rfl, by go_num, HUP2.out, HYB.out⟩
    · have hd : decide (k < l.length) = false := by simp; omega
      have hd' : decide ((k : Int) < (l.length : Int)) = false := by simp; omega
      obtain rfl : k = l.length := by omega
      have HV := Lib.hid (show decide (RqsOk l) = decide ((l.length : Int) ≤ 12) from by rw [decide_eq_decide]; exact ⟨fun h => by have := h.1; omega, fun h => ⟨by omega, HUP.out⟩⟩)
      have HV2 := Lib.hid (show decide (RqsOk l) = decide (l.length ≤ 12) from by rw [decide_eq_decide]; exact ⟨fun h => h.1, fun h => ⟨h, HUP.out⟩⟩)
      clear hlt
      go_wp2
      go_ret
      exact ⟨by first | (rw [HV.out]; first | done | rfl) | (rw [HV2.out]; first | done | rfl), HB.out⟩
end Go.Proofs.Ytdfcamlnebcbpac
