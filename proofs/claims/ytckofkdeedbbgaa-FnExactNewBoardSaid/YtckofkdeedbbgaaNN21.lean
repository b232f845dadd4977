/- What this text proves: the parts IRo, Qw, IBd of the proof, each under its own words. -/
import Derived.Test.YtckofkdeedbbgaaNN07
import Derived.Test.YtckofkdeedbbgaaNN03
import Derived.Test.YtckofkdeedbbgaaNN04
import Derived.BigQuiet
import Derived.Test.YtckofkdeedbbgaaNN00
import Derived.Test.YtckofkdeedbbgaaNN08
import Derived.Test.YtckofkdeedbbgaaNN10
/- What this text proves: the contracts of the program's areWithin, recordsOk and sizeOf. -/
namespace Go.Proofs.Ytckofkdeedbbgaa
open Go.ChangeShapes Go.WideShapes Go.ChangeAt Go.RowKit
set_option linter.unusedVariables false

set_option maxHeartbeats 1000000 in
theorem aw_impl (A : Option Addr) (d : List Int) (c : Nat) (a b : Int) (hl : d.length ≤ 2000000) (w : World) (h : LsI 1 w w.heap.size A (d.map inC)) :
    Calls Try.prog 62 #[.slice A d.length c, .int .i64 a, .int .i64 b] w fun e w' => e = .returned (.bool (winB d a b)) ∧ w = w' := by
  have HI := Lib.hid h
  have HW := Lib.hid (fun x W => iw_any x a b W)
  have HN := Lib.hid (fun k (hk : k < d.length) (h : ¬ (a ≤ d[k] ∧ d[k] ≤ b)) => winB_no (d := d) (a := a) (b := b) (fun hw => h (within_at hw k hk)))
  have HY := Lib.hid (fun (h : ∀ k (hk : k < d.length), a ≤ d[k] ∧ d[k] ≤ b) => winB_yes (within_all h))
  clear h
  go_enter Try.func62, Try.ntmps62
  go_wp2
  go_loopg [11] d.length (fun gh v wx => ∃ k : Nat, k ≤ d.length ∧ gh = d.length - k ∧ v = .int .i64 (k : Int) ∧ (∀ j (hj : j < d.length), j < k → a ≤ d[j] ∧ d[j] ≤ b) ∧ w = wx)
  case atStart => exact ⟨0, by omega, rfl, rfl, fun j _ h => absurd h (Nat.not_lt_zero _), rfl⟩
  case round =>
    obtain ⟨k, hk, rfl, rfl, hall, rfl⟩ := hrel
    have HA := Lib.hid hall
    clear hall
    by_cases hlt : k < d.length
    · have hd : decide (k < d.length) = true := by simp; omega
      have hd' : decide ((k : Int) < (d.length : Int)) = true := by simp; omega
      obtain ⟨bb, off, rfl, hb, hc⟩ := inCellsI HI.out (by omega)
      have hck := hc k hlt
      clear hc
      by_cases hin : a ≤ d[k] ∧ d[k] ≤ b
      · have H1 := HW.out d[k]
        rw [decide_eq_true hin] at H1
        have HA2 := Lib.hid (show ∀ j (hj : j < d.length), j < k + 1 → a ≤ d[j] ∧ d[j] ≤ b from fun j hj hjk => by
          rcases Nat.lt_or_ge j k with h3 | h3
          · exact HA.out j hj h3
          · obtain rfl : j = k := by omega
            exact hin)
        have H1 := Lib.hid H1
        generalize d[k] = x at *
        clear hin
        go_wp2_with fail
        refine (H1.out _).mono ?_
        rintro e w' ⟨rfl, rfl⟩
        go_wp2
        go_roundg (d.length - (k + 1))
        case measure => omega
        case rel => exact ⟨k + 1, by omega, rfl, by go_num, HA2.out, rfl⟩
      · have H1 := HW.out d[k]
        rw [decide_eq_false hin] at H1
        have HV := Lib.hid (HN.out k hlt hin)
        have H1 := Lib.hid H1
        generalize d[k] = x at *
        clear hin
        go_wp2_with fail
        refine (H1.out _).mono ?_
        rintro e w' ⟨rfl, rfl⟩
        go_wp2
        go_ret
        exact ⟨by rw [HV.out]; rfl, rfl⟩
    · have hd : decide (k < d.length) = false := by simp; omega
      have hd' : decide ((k : Int) < (d.length : Int)) = false := by simp; omega
      have HV := Lib.hid (HY.out (fun j hj => HA.out j hj (by omega)))
      clear hlt
      go_wp2
      go_ret
      exact ⟨by rw [HV.out]; rfl, rfl⟩

set_option maxHeartbeats 1000000 in
theorem so_rcd (A : Option Addr) (l : List Rc) (c : Nat) (hl : l.length ≤ 2000000) (hs : totRc l l.length ≤ 4000000) (w : World) (h : LsI 4 w w.heap.size A (l.map rcC)) :
    Calls Try.prog 70 #[.slice A l.length c] w fun e w' => e = .returned (.int .i64 (useR l l.length : Nat)) ∧ Below w.heap.size w w' := by
  have HI := Lib.hid (fun W (hb : Below w.heap.size w W) => h.more hb)
  have HS := Lib.hid (fun k (hk : k ≤ l.length) => Nat.le_trans (totRc_le l hk) hs)
  clear h hs
  go_enter Try.func70, Try.ntmps70
  go_wp2
  go_loopg [3, 8] l.length (fun gh v3 v8 wx => ∃ k : Nat, k ≤ l.length ∧ gh = l.length - k ∧ v8 = .int .i64 (k : Int) ∧ v3 = .int .i64 ((useR l k : Nat) : Int) ∧ Below w.heap.size w wx)
  case atStart => exact ⟨0, by omega, rfl, rfl, by rw [useR_zero]; rfl, Below.refl _ _⟩
  case round =>
    obtain ⟨k, hk, rfl, rfl, rfl, hbel⟩ := hrel
    have HB := Lib.hid hbel
    by_cases hlt : k < l.length
    · have hd : decide (k < l.length) = true := by simp; omega
      have hd' : decide ((k : Int) < (l.length : Int)) = true := by simp; omega
      obtain ⟨bb, off, rfl, hb, hc⟩ := rcCellsI (b := 0) (off := 0) (HI.out _ hbel) (by omega)
      obtain ⟨c0, c1, c2, c3⟩ := hc k hlt
      have HU := useR_succ l k
      rw [getRc_at hlt] at HU
      have ht := HS.out (k + 1) hlt
      have hu : useR l (k + 1) = 6 * (k + 1) + totRc l (k + 1) := rfl
      have hw1 : IntKind.i64.wrap (6 + (l[k].2.2.2.size : Int)) = 6 + (l[k].2.2.2.size : Int) := IntWalk.i64_in _ (by omega)
      have hw2 : IntKind.i64.wrap (((useR l k : Nat) : Int) + (6 + (l[k].2.2.2.size : Int))) = ((useR l (k + 1) : Nat) : Int) := by rw [HU]; exact (IntWalk.i64_in _ (by omega)).trans (by omega)
      have hw3 : Go.IntKind.wrap .i64 (6 + (l[k].2.2.2.size : Int)) = 6 + (l[k].2.2.2.size : Int) := hw1
      clear hc hbel ht hu HU
      generalize l[k].1 = x0 at *
      generalize l[k].2.1 = x1 at *
      generalize l[k].2.2.1 = x2 at *
      generalize l[k].2.2.2 = x3 at *
      generalize useR l k = U at *
      generalize hUV : useR l (k + 1) = V at *
      have HV := Lib.hid hUV
      clear hUV
      go_wp2
      go_roundg (l.length - (k + 1))
      case measure => omega
      case rel => exact ⟨k + 1, by omega, rfl, by go_num, by rw [HV.out], HB.out.alloc HB.out.size _⟩
    · have hd : decide (k < l.length) = false := by simp; omega
      have hd' : decide ((k : Int) < (l.length : Int)) = false := by simp; omega
      obtain rfl : k = l.length := by omega
      clear hlt
      go_wp2
      go_ret
      exact ⟨rfl, HB.out⟩

set_option maxHeartbeats 1000000 in
theorem rok_impl (A : Option Addr) (l : List Rc) (c : Nat) (hl : l.length ≤ 2000000) (w : World) (h : LsI 4 w w.heap.size A (l.map rcC)) :
    Calls Try.prog 69 #[.slice A l.length c] w fun e w' => e = .returned (.bool (upB l)) ∧ Below w.heap.size w w' := by
  have HI := Lib.hid (fun W (hb : Below w.heap.size w W) => h.more hb)
  have HR := Lib.hid (fun a b c d W => rd_impl a b c d W)
  have HY := Lib.hid (fun (h : UpTo l l.length) => upB_yes h)
  have HN := Lib.hid (fun (h : ¬ UpTo l l.length) => upB_no h)
  clear h
  go_enter Try.func69, Try.ntmps69
  go_wp2
  go_loopg [3, 8] l.length (fun gh v3 v8 wx => ∃ k : Nat, k ≤ l.length ∧ gh = l.length - k ∧ v8 = .int .i64 (k : Int) ∧ v3 = .int .i64 (befR l k) ∧ UpTo l k ∧ Below w.heap.size w wx)
  case atStart => exact ⟨0, by omega, rfl, rfl, rfl, UpTo.zero l, Below.refl _ _⟩
  case round =>
    obtain ⟨k, hk, rfl, rfl, rfl, hup, hbel⟩ := hrel
    have HU := Lib.hid hup
    have HB := Lib.hid hbel
    clear hup
    by_cases hlt : k < l.length
    · have hd : decide (k < l.length) = true := by simp; omega
      have hd' : decide ((k : Int) < (l.length : Int)) = true := by simp; omega
      obtain ⟨bb, off, rfl, hb, hc⟩ := rcCellsI (b := 0) (off := 0) (HI.out _ hbel) (by omega)
      obtain ⟨c0, c1, c2, c3⟩ := hc k hlt
      have HG := Lib.hid (getRc_at hlt)
      have HBF := Lib.hid (show befR l (k + 1) = l[k].1 by simp only [befR]; rw [getRc_at hlt])
      have HX := Lib.hid (show RdC l[k] ↔ RdOk l[k].1 l[k].2.1 l[k].2.2.1 l[k].2.2.2 from Iff.rfl)
      by_cases hok : RdC l[k]
      · have H1 := HR.out l[k].1 l[k].2.1 l[k].2.2.1 l[k].2.2.2
        rw [decide_eq_true (HX.out.1 hok)] at H1
        have H1 := Lib.hid H1
        by_cases hlt2 : befR l k < l[k].1
        · have hd2 : decide (l[k].1 ≤ befR l k) = false := by simp; omega
          have HN2 := Lib.hid (HU.out.succ (by rw [HG.out]; exact hok) (by rw [HG.out]; exact hlt2))
          clear hc hok hlt2 HX
          generalize befR l k = bf at *
          generalize l[k].1 = x0 at *
          generalize l[k].2.1 = x1 at *
          generalize l[k].2.2.1 = x2 at *
          generalize l[k].2.2.2 = x3 at *
          have B0 := Box.made wr (rdL x0 x1 x2 x3) 50 wr.heap.size rfl
          have F1 := Lib.hid (hbel.alloc hbel.size (.cells (rdL x0 x1 x2 x3).toArray 50))
          clear hbel
          go_wp2_with fail
          refine (H1.out _).mono ?_
          rintro e w' ⟨rfl, hb2⟩
          obtain ⟨k0, k1, k2, k3⟩ := (B0.more hb2).four4
          have F2 := Lib.hid (F1.out.trans (hb2.mono F1.out.size))
          clear hb2 B0 c0 c1 c2 c3
          go_wp2
          go_roundg (l.length - (k + 1))
          case measure => omega
          case rel => exact ⟨k + 1, by omega, rfl, by go_num, by rw [HBF.out], HN2.out, F2.out⟩
        · have hd2 : decide (l[k].1 ≤ befR l k) = true := by simp; omega
          have HV := Lib.hid (HN.out (fun h => hlt2 (upTo_at h hlt hlt).2))
          clear hc hok hlt2 HX
          generalize befR l k = bf at *
          generalize l[k].1 = x0 at *
          generalize l[k].2.1 = x1 at *
          generalize l[k].2.2.1 = x2 at *
          generalize l[k].2.2.2 = x3 at *
          have B0 := Box.made wr (rdL x0 x1 x2 x3) 50 wr.heap.size rfl
          have F1 := Lib.hid (hbel.alloc hbel.size (.cells (rdL x0 x1 x2 x3).toArray 50))
          clear hbel
          go_wp2_with fail
          refine (H1.out _).mono ?_
          rintro e w' ⟨rfl, hb2⟩
          obtain ⟨k0, k1, k2, k3⟩ := (B0.more hb2).four4
          have F2 := Lib.hid (F1.out.trans (hb2.mono F1.out.size))
          clear hb2 B0 c0 c1 c2 c3
          go_wp2
          go_ret
          exact ⟨by rw [HV.out]; rfl, F2.out⟩
      · have H1 := HR.out l[k].1 l[k].2.1 l[k].2.2.1 l[k].2.2.2
        rw [decide_eq_false (fun h => hok (HX.out.2 h))] at H1
        have H1 := Lib.hid H1
        have HV := Lib.hid (HN.out (fun h => hok (upTo_at h hlt hlt).1))
        clear hc hok HX
        generalize l[k].1 = x0 at *
        generalize l[k].2.1 = x1 at *
        generalize l[k].2.2.1 = x2 at *
        generalize l[k].2.2.2 = x3 at *
        have F1 := Lib.hid (hbel.alloc hbel.size (.cells (rdL x0 x1 x2 x3).toArray 50))
        clear hbel
        go_wp2_with fail
        refine (H1.out _).mono ?_
        rintro e w' ⟨rfl, hb2⟩
        have F2 := Lib.hid (F1.out.trans (hb2.mono F1.out.size))
        clear hb2 c0 c1 c2 c3
        go_wp2
        go_ret
        exact ⟨by rw [HV.out]; rfl, F2.out⟩
    · have hd : decide (k < l.length) = false := by simp; omega
      have hd' : decide ((k : Int) < (l.length : Int)) = false := by simp; omega
      obtain rfl : k = l.length := by omega
      have HV := Lib.hid (HY.out HU.out)
      clear hlt
      go_wp2
      go_ret
      exact ⟨by rw [HV.out]; rfl, HB.out⟩
end Go.Proofs.Ytckofkdeedbbgaa
/- What this text proves: a region that draws its order, whose callees may make memory but hand back one value in every world of a class: one walk serves every order. -/
namespace Go.Proofs.Ytckofkdeedbbgaa
open Go.ChangeShapes Go.WideShapes Go.ChangeAt Go.RowKit
set_option linter.unusedVariables false

/-- A world of the class. -/
structure InW (C : World → Prop) where
  W : World
  ok : C W
theorem wp_region_inW {P : Program} (C : World → Prop) {id : Nat} {Q : Exit → Act → World → Prop} {a : Act} {W : World} {l : List Oper} (hm : P.follows .mixedOrders = true) (hB : Region.lexB .any l.toArray = true) (hC : C W.drew)
    (h : wpQuiet P l.toArray (fun w' => ∃ p : InW C, w' = p.W) (fun a' => ∀ w', (∃ p : InW C, w' = p.W) → Q .normal a' w') l a) : (Code.region id l.toArray true).wp P Q a W :=
  wp_region_quiet (C := fun w' => ∃ p : InW C, w' = p.W) hm hB ⟨⟨_, hC⟩, rfl⟩ (by simpa using h)
theorem calls_inW {P : Program} {C : World → Prop} {f : FuncId} {args : Array Value} {W : World} {v : Value}
    (h : Calls P f args W fun e w' => e = .returned v ∧ C w') : Calls P f args W fun e w'' => e = .returned v ∧ ∃ p : InW C, w'' = p.W :=
  h.mono fun _ w' ⟨he, hc⟩ => ⟨he, ⟨w', hc⟩, rfl⟩
end Go.Proofs.Ytckofkdeedbbgaa
/- What this text proves: the contracts of the program's limitsOk, doneOk, placeOf, isBefore and ordersOk. -/
namespace Go.Proofs.Ytckofkdeedbbgaa
open Go.ChangeShapes Go.WideShapes Go.ChangeAt Go.RowKit
set_option linter.unusedVariables false

theorem isB_impl (n k t a b n' k' t' a' b' : Int) (w : World) :
    Calls Try.prog 127 #[wtV n k t a b, wtV n' k' t' a' b'] w fun e w' => e = .returned (.bool (decide (bef (n, k, t, a, b) (n', k', t', a', b')))) ∧ Below w.heap.size w w' := by
  have HB := Lib.hid (((Below.refl _ w).alloc (Nat.le_refl _) (.cells (wtL n k t a b).toArray 43)).alloc (by simp) (.cells (wtL n' k' t' a' b').toArray 43))
  by_cases h : t = t'
  · subst h
    have HV := Lib.hid (show decide (bef (n, k, t, a, b) (n', k', t, a', b')) = decide (n < n') by rw [decide_eq_decide]; unfold bef; simp)
    have hd : (t == t) = true := beq_self_eq_true _
    go_enter Try.func127, Try.ntmps127
    go_wp2
    go_ret
    exact ⟨by rw [HV.out]; rfl, HB.out⟩
  · have HV := Lib.hid (show decide (bef (n, k, t, a, b) (n', k', t', a', b')) = decide (t < t') by rw [decide_eq_decide]; unfold bef; simp [h])
    have hd : (t == t') = false := by simpa using h
    clear h
    go_enter Try.func127, Try.ntmps127
    go_wp2
    go_ret
    exact ⟨by rw [HV.out]; rfl, HB.out⟩

theorem clo_impl (n k t a b num : Int) (g : Nat) (w : World) (hg : g < w.heap.size) (hc : w.cell? ⟨g, 0, none⟩ = some (.int .i64 num)) :
    Calls Try.prog 132 #[wtV n k t a b, .pointer (some ⟨g, 0, none⟩)] w fun e w' => e = .returned (.bool (n == num)) ∧ Below w.heap.size w w' := by
  have HB := Lib.hid ((Below.refl _ w).alloc (Nat.le_refl _) (.cells (wtL n k t a b).toArray 43))
  have hc2 : (w.alloc (.cells (wtL n k t a b).toArray 43)).cell? ⟨g, 0, none⟩ = some (.int .i64 num) := (HB.out.cell (p := ⟨g, 0, none⟩) hg).trans hc
  go_enter Try.func132, Try.ntmps132
  go_wp2
  go_ret
  exact ⟨rfl, HB.out⟩

set_option maxHeartbeats 1000000 in
theorem idx_impl (A : Option Addr) (l : List Wt) (c : Nat) (num : Int) (g : Nat) (hl : l.length ≤ 2000000) (w : World) (hg : g < w.heap.size) (hc : w.cell? ⟨g, 0, none⟩ = some (.int .i64 num)) (h : LsI 5 w w.heap.size A (l.map wtC)) :
    Calls Try.prog 131 #[.slice A l.length c, .func (.func 132) #[] #[.pointer (some ⟨g, 0, none⟩)]] w fun e w' => ∃ i, e = .returned (.int .i64 i) ∧ PlcIs l num i ∧ Below w.heap.size w w' := by
  have HI := Lib.hid (fun W (hb : Below w.heap.size w W) => h.more hb)
  have HC := Lib.hid (fun W (hb : Below w.heap.size w W) n k t a b => clo_impl n k t a b num g W (Nat.lt_of_lt_of_le hg hb.size) ((hb.cell (p := ⟨g, 0, none⟩) hg).trans hc))
  clear h hc
  go_enter Try.func131, Try.ntmps131
  go_wp2
  go_loopg [8] l.length (fun gh v8 wx => ∃ k : Nat, k ≤ l.length ∧ gh = l.length - k ∧ v8 = .int .i64 (k : Int) ∧ (∀ j (hj : j < l.length), j < k → l[j].1 ≠ num) ∧ Below w.heap.size w wx)
  case atStart => exact ⟨0, by omega, rfl, rfl, fun j _ h => absurd h (Nat.not_lt_zero _), Below.refl _ _⟩
  case round =>
    obtain ⟨k, hk, rfl, rfl, hall, hbel⟩ := hrel
    have HA := Lib.hid hall
    have HB := Lib.hid hbel
    clear hall
    by_cases hlt : k < l.length
    · have hd : decide (k < l.length) = true := by simp; omega
      have hd' : decide ((k : Int) < (l.length : Int)) = true := by simp; omega
      obtain ⟨bb, off, rfl, hb, hcl⟩ := wtCellsI (b := 0) (off := 0) (HI.out _ hbel) (by omega)
      obtain ⟨c0, c1, c2, c3, c4⟩ := hcl k hlt
      have HCK := Lib.hid (HC.out _ hbel l[k].1 l[k].2.1 l[k].2.2.1 l[k].2.2.2.1 l[k].2.2.2.2)
      clear hcl hbel
      by_cases he : l[k].1 = num
      · have hb1 : (l[k].1 == num) = true := by simpa using he
        rw [hb1] at HCK
        have HP := Lib.hid (show PlcIs l num (k : Int) from .inr ⟨k, hlt, rfl, he, fun j hj => HA.out j (by omega) hj⟩)
        clear hb1 he
        generalize l[k].1 = x0 at *
        generalize l[k].2.1 = x1 at *
        generalize l[k].2.2.1 = x2 at *
        generalize l[k].2.2.2.1 = x3 at *
        generalize l[k].2.2.2.2 = x4 at *
        go_wp2_with fail
        refine HCK.out.mono ?_
        rintro e w2 ⟨rfl, hb2⟩
        have HB2 := Lib.hid (HB.out.trans (hb2.mono HB.out.size))
        clear hb2 c0 c1 c2 c3 c4
        go_wp2
        go_ret
        exact ⟨_, rfl, HP.out, HB2.out⟩
      · have hb1 : (l[k].1 == num) = false := by simpa using he
        rw [hb1] at HCK
        have HA2 := Lib.hid (show ∀ j (hj : j < l.length), j < k + 1 → l[j].1 ≠ num from fun j hj hjk => by
          rcases Nat.lt_or_ge j k with h3 | h3
          · exact HA.out j hj h3
          · obtain rfl : j = k := by omega
            exact he)
        clear hb1 he
        generalize l[k].1 = x0 at *
        generalize l[k].2.1 = x1 at *
        generalize l[k].2.2.1 = x2 at *
        generalize l[k].2.2.2.1 = x3 at *
        generalize l[k].2.2.2.2 = x4 at *
        go_wp2_with fail
        refine HCK.out.mono ?_
        rintro e w2 ⟨rfl, hb2⟩
        have HB2 := Lib.hid (HB.out.trans (hb2.mono HB.out.size))
        clear hb2 c0 c1 c2 c3 c4
        go_wp2
        go_roundg (l.length - (k + 1))
        case measure => omega
        case rel => exact ⟨k + 1, by omega, rfl, by go_num, HA2.out, HB2.out⟩
    · have hd : decide (k < l.length) = false := by simp; omega
      have hd' : decide ((k : Int) < (l.length : Int)) = false := by simp; omega
      have HP := Lib.hid (show PlcIs l num (-1) from .inl ⟨rfl, fun j hj => HA.out j hj (by omega)⟩)
      clear hlt
      go_wp2
      go_ret
      exact ⟨_, rfl, HP.out, HB.out⟩

theorem plc_impl (A : Option Addr) (l : List Wt) (c : Nat) (num : Int) (hl : l.length ≤ 2000000) (w : World) (h : LsI 5 w w.heap.size A (l.map wtC)) :
    Calls Try.prog 72 #[.slice A l.length c, .int .i64 num] w fun e w' => ∃ i, e = .returned (.int .i64 i) ∧ PlcIs l num i ∧ Below w.heap.size w w' := by
  have HB := (Below.refl _ w).alloc (Nat.le_refl _) (.cells #[.int .i64 num] 3)
  have HC := Lib.hid (idx_impl A l c num w.heap.size hl (w.alloc (.cells #[.int .i64 num] 3)) (by simp) (by rw [World.cell?_alloc_at _ _ _ _ rfl]; rfl) (h.full HB))
  have HB := Lib.hid HB
  clear h
  go_enter Try.func72, Try.ntmps72
  go_wp2_with fail
  refine HC.out.mono ?_
  rintro e w2 ⟨i, rfl, hp, hb⟩
  have HP := Lib.hid hp
  have HB2 := Lib.hid (HB.out.trans (hb.mono HB.out.size))
  clear hp hb
  go_wp2
  go_ret
  exact ⟨i, rfl, HP.out, HB2.out⟩
end Go.Proofs.Ytckofkdeedbbgaa
