/- What this text proves: the law that orders and records can be read from their bytes returns true for every bytes that it draws from. -/
import Derived.Test.YtebfefkknaalpaaOrMath
import Derived.Test.YtebfefkknaalpaaDrawQ
import Derived.Test.YtebfefkknaalpaaAt
import Derived.Test.YtebfefkknaalpaaLawV
import Derived.Test.YtebfefkknaalpaaQw
import Derived.Deep.Cut
import Derived.Deep.CutRange
namespace Go.Proofs.Ytebfefkknaalpaa
open Go.ChangeShapes Go.WideShapes Go.ChangeAt Go.RowKit
set_option linter.unusedVariables false

theorem CodeOk.wider5 {w : World} {B B' : Nat} {A : Option Addr} {n : Nat} (h : CodeOk w B A n) (hB : B ≤ B') : CodeOk w B' A n := by
  rcases h with h | ⟨b, off, hA, hlt, hc⟩
  · exact .inl h
  · exact .inr ⟨b, off, hA, Nat.lt_of_lt_of_le hlt hB, hc⟩
theorem oqCellsI {w : World} {B : Nat} {A : Option Addr} {l : List Oq} (h : LsI 4 w B A (l.map oqC)) (h0 : 0 < l.length) : ∃ b off, A = some ⟨b, off, none⟩ ∧ b < B ∧ ∀ k (hk : k < l.length), w.cell? ⟨b, off + k * 4, none⟩ = some (.int .i64 l[k].1) ∧ w.cell? ⟨b, off + k * 4 + 1, none⟩ = some (.int .i64 l[k].2.1) ∧ w.cell? ⟨b, off + k * 4 + 2, none⟩ = some (.int .i64 l[k].2.2.1) ∧ w.cell? ⟨b, off + k * 4 + 3, none⟩ = some (.int .i64 l[k].2.2.2) := by
  rcases h with h | ⟨b, off, hA, hb, hc⟩
  · rw [List.length_map] at h; omega
  · refine ⟨b, off, hA, hb, fun k hk => ?_⟩
    have h0 := hc k (by rw [List.length_map]; exact hk) 0 (by decide)
    have h1 := hc k (by rw [List.length_map]; exact hk) 1 (by decide)
    have h2 := hc k (by rw [List.length_map]; exact hk) 2 (by decide)
    have h3 := hc k (by rw [List.length_map]; exact hk) 3 (by decide)
    simp only [List.getElem_map] at h0 h1 h2 h3
    exact ⟨h0, h1, h2, h3⟩

set_option maxRecDepth 20000 in
set_option maxHeartbeats 8000000 in
theorem law_orderBytes (A : Option Addr) (n c : Nat) (hm : n ≤ maxLen) (w : World) (hc : CodeOk w w.heap.size A n) :
    Calls Try.prog 3 #[.slice A n c] w fun e w' => e = .returned (.bool true) ∧ Below w.heap.size w w' := by
  by_cases hbig : 1048576 < n
  · go_enter Try.func3, Try.ntmps3
    go_wp2_with (go_at_call 14; refine (big_yes _ _ _ hbig hm _).mono ?_; rintro e w' ⟨rfl, rfl⟩)
    go_ret
    exact ⟨rfl, Below.refl _ _⟩
  · have hn : n ≤ 1048576 := by omega
    have Ha := Lib.hid (fun (w1 : World) (hb : Below w.heap.size w w1) i hi => at_any w.heap.size A n c hn i hi w1 (hc.more hb))
    have Hd := Lib.hid (fun (w1 : World) (hb : Below w.heap.size w w1) => draw_bytes A n c hn w1 (CodeOk.wider5 (hc.more hb) hb.size))
    have Ho := Lib.hid (draw_orders A n c hn w hc)
    clear hc hbig
    go_enter Try.func3, Try.ntmps3
    go_wp2_with (go_at_call 14; refine (big_no _ _ _ hn _).mono ?_; rintro e w' ⟨rfl, rfl⟩)
    refine Ho.out.mono ?_
    rintro e w1 ⟨v, L, hL13, hgood, rfl, hown, hb1⟩
    obtain ⟨A5, c5, hv⟩ := hown.form
    rw [List.length_map] at hv
    subst hv
    have HI := Lib.hid (LsO.ats hown.toO)
    have HGD := Lib.hid hgood
    have B1 := Lib.hid hb1
    clear hb1 hown hgood Ho
    go_wp2
    go_loopg [4] L.length (fun g v4 wx => ∃ k : Nat, k ≤ L.length ∧ g = L.length - k ∧ v4 = .int .i64 (k : Int) ∧ Below w1.heap.size w1 wx)
    case atStart => exact ⟨0, by omega, rfl, rfl, Below.refl _ _⟩
    case round =>
      obtain ⟨k, hk, rfl, rfl, hbel⟩ := hrel
      have HB := Lib.hid hbel
      by_cases hlt : k < L.length
      · have hd : decide (k < L.length) = true := by simp; omega
        have hd' : decide ((k : Int) < (L.length : Int)) = true := by simp; omega
        obtain ⟨bb, off, rfl, hbb, hcells⟩ := oqCellsI HI.out (by omega)
        obtain ⟨x0, x1, x2, x3⟩ := hcells k hlt
        have hgk := HGD.out _ (List.getElem_mem hlt)
        unfold OqOk at hgk
        have c0 := (hbel.cell (p := ⟨bb, off + k * 4, none⟩) hbb).trans x0
        have c1 := (hbel.cell (p := ⟨bb, off + k * 4 + 1, none⟩) hbb).trans x1
        have c2 := (hbel.cell (p := ⟨bb, off + k * 4 + 2, none⟩) hbb).trans x2
        have c3 := (hbel.cell (p := ⟨bb, off + k * 4 + 3, none⟩) hbb).trans x3
        clear hcells hbel
        generalize L[k].1 = y0 at *
        generalize L[k].2.1 = y1 at *
        generalize L[k].2.2.1 = y2 at *
        generalize L[k].2.2.2 = y3 at *
        have HE := Lib.hid (encO_impl y0 y1 y2 y3)
        have hsz : (orT y0 y1 y2 y3).size ≤ 1048576 := by
          unfold orT
          rw [if_pos hgk]
          have z1 := putS_four_le y0 1
          have z2 := putS_four_le y1 3
          have z3 := putS_four_le y2 1
          have z4 := putS_four_le y3 2
          simp only [ByteArray.size_append]
          omega
        have HD := decO_impl (orT y0 y1 y2 y3) hsz
        rw [decO_back hgk] at HD
        simp only [retdecO] at HD
        have HD := Lib.hid HD
        have HK := or_impl y0 y1 y2 y3
        rw [decide_eq_true hgk] at HK
        have HK := Lib.hid HK
        generalize orT y0 y1 y2 y3 = TT at *
        clear hsz hgk
        go_wp2_with fail
        refine (HE.out _).mono ?_
        rintro e w2 ⟨rfl, hb2⟩
        have B2 := Lib.hid (HB.out.trans (hb2.mono HB.out.size))
        clear hb2 c0 c1 c2 c3
        go_wp2_with fail
        refine (HD.out _).mono ?_
        rintro e w3 ⟨rfl, hb3⟩
        have B3 := Lib.hid (B2.out.trans (hb3.mono B2.out.size))
        have X3 := Lib.hid (Box.made w3 (orL y0 y1 y2 y3) 27 w3.heap.size rfl)
        have B4 := Lib.hid (B3.out.alloc B3.out.size (.cells (orL y0 y1 y2 y3).toArray 27))
        clear hb3
        have hall : ∀ q : Prop, (InW (fun W => Below w1.heap.size w1 W ∧ Box W w3.heap.size (orL y0 y1 y2 y3)) → q) ↔ q := fun q => ⟨fun h => h ⟨_, B4.out, X3.out⟩, fun h _ => h⟩
        have p0 : ∀ p : InW (fun W => Below w1.heap.size w1 W ∧ Box W w3.heap.size (orL y0 y1 y2 y3)), p.W.cell? ⟨w3.heap.size, 0, none⟩ = some (.int .i64 y0) := fun p => p.ok.2.four4.1
        have p1 : ∀ p : InW (fun W => Below w1.heap.size w1 W ∧ Box W w3.heap.size (orL y0 y1 y2 y3)), p.W.cell? ⟨w3.heap.size, 1, none⟩ = some (.int .i64 y1) := fun p => p.ok.2.four4.2.1
        have p2 : ∀ p : InW (fun W => Below w1.heap.size w1 W ∧ Box W w3.heap.size (orL y0 y1 y2 y3)), p.W.cell? ⟨w3.heap.size, 2, none⟩ = some (.int .i64 y2) := fun p => p.ok.2.four4.2.2.1
        have p3 : ∀ p : InW (fun W => Below w1.heap.size w1 W ∧ Box W w3.heap.size (orL y0 y1 y2 y3)), p.W.cell? ⟨w3.heap.size, 3, none⟩ = some (.int .i64 y3) := fun p => p.ok.2.four4.2.2.2
        have q0 : ∀ p : InW (fun W => Below w1.heap.size w1 W ∧ Box W w3.heap.size (orL y0 y1 y2 y3)), p.W.cell? ⟨bb, off + k * 4, none⟩ = some (.int .i64 y0) := fun p => (p.ok.1.cell (p := ⟨bb, off + k * 4, none⟩) hbb).trans x0
        have q1 : ∀ p : InW (fun W => Below w1.heap.size w1 W ∧ Box W w3.heap.size (orL y0 y1 y2 y3)), p.W.cell? ⟨bb, off + k * 4 + 1, none⟩ = some (.int .i64 y1) := fun p => (p.ok.1.cell (p := ⟨bb, off + k * 4 + 1, none⟩) hbb).trans x1
        have q2 : ∀ p : InW (fun W => Below w1.heap.size w1 W ∧ Box W w3.heap.size (orL y0 y1 y2 y3)), p.W.cell? ⟨bb, off + k * 4 + 2, none⟩ = some (.int .i64 y2) := fun p => (p.ok.1.cell (p := ⟨bb, off + k * 4 + 2, none⟩) hbb).trans x2
        have q3 : ∀ p : InW (fun W => Below w1.heap.size w1 W ∧ Box W w3.heap.size (orL y0 y1 y2 y3)), p.W.cell? ⟨bb, off + k * 4 + 3, none⟩ = some (.int .i64 y3) := fun p => (p.ok.1.cell (p := ⟨bb, off + k * 4 + 3, none⟩) hbb).trans x3
        have HKW := Lib.hid (fun (W : World) (hW : Below w1.heap.size w1 W ∧ Box W w3.heap.size (orL y0 y1 y2 y3)) => (HK.out W).mono fun e w' h => (show e = .returned (.bool true) ∧ (Below w1.heap.size w1 w' ∧ Box w' w3.heap.size (orL y0 y1 y2 y3)) from ⟨h.1, hW.1.trans (h.2.mono hW.1.size), hW.2.more h.2⟩))
        go_upto_region 8 with fail
        refine wp_region_inW (fun W => Below w1.heap.size w1 W ∧ Box W w3.heap.size (orL y0 y1 y2 y3)) (by kernel_rfl) (by kernel_rfl) ⟨B4.out.drew, X3.out.drew⟩ ?_
        repeat (go_big_quiet_step ((go_at_call 18; exact calls_inW (C := fun W => Below w1.heap.size w1 W ∧ Box W w3.heap.size (orL y0 y1 y2 y3)) (HKW.out _ (InW.ok (C := fun W => Below w1.heap.size w1 W ∧ Box W w3.heap.size (orL y0 y1 y2 y3)) _)))))
        refine wpQuiet_nil ?_
        rintro _ ⟨⟨W5, B5, X5⟩, rfl⟩
        have HB5 := Lib.hid B5
        clear X5 B5
        go_wp2
        go_roundg (L.length - (k + 1))
        case measure => omega
        case rel => exact ⟨k + 1, by omega, rfl, by go_num, HB5.out⟩
      · have hd : decide (k < L.length) = false := by simp; omega
        have hd' : decide ((k : Int) < (L.length : Int)) = false := by simp; omega
        have BW := Lib.hid (B1.out.trans (HB.out.mono B1.out.size))
        clear hlt hbel HB HI HGD B1
        go_wp2_with fail
        refine (Ha.out _ BW.out 0 (by omega)).mono ?_
        rintro e w' ⟨a0, ha0, rfl, rfl⟩
        go_wp2_with fail
        refine (Ha.out _ BW.out 1 (by omega)).mono ?_
        rintro e w' ⟨a1, ha1, rfl, rfl⟩
        go_wp2_with fail
        refine (Ha.out _ BW.out 2 (by omega)).mono ?_
        rintro e w' ⟨a2, ha2, rfl, rfl⟩
        go_wp2_with fail
        refine (Hd.out _ BW.out).mono ?_
        rintro e w5 ⟨s, hs, rfl, hb5⟩
        have BW5 := Lib.hid (BW.out.trans (hb5.mono BW.out.size))
        obtain ⟨Q, hQ⟩ : ∃ Q : Int, ((a1 % 4 : Nat) : Int) = Q := ⟨_, rfl⟩
        have hok : RdOk ((a0 : Int) * 256) Q ((a2 : Int) * 3000) s := ⟨by omega, by omega, by omega, by omega⟩
        have hQ1 : Int.tmod (a1 : Int) 4 = Q := by rw [← hQ]; rfl
        have hQ2 : (a1 : Int) % 4 = Q := by omega
        have HE := Lib.hid (encR_impl ((a0 : Int) * 256) Q ((a2 : Int) * 3000) s)
        obtain ⟨hback, hsz⟩ := decR_back hok
        have HD := decR_impl (rdT ((a0 : Int) * 256) Q ((a2 : Int) * 3000) s) (by rw [hsz]; omega)
        rw [hback] at HD
        simp only [retdecR] at HD
        have HD := Lib.hid HD
        have HK := rd_impl ((a0 : Int) * 256) Q ((a2 : Int) * 3000) s
        rw [decide_eq_true hok] at HK
        have HK := Lib.hid HK
        have hse : ((rdT ((a0 : Int) * 256) Q ((a2 : Int) * 3000) s).size : Int) = 6 + (s.size : Int) := by rw [hsz]; omega
        generalize rdT ((a0 : Int) * 256) Q ((a2 : Int) * 3000) s = TT at *
        have hself : (s.toList == s.toList) = true := beq_self_eq_true _
        have hw6 : IntKind.i64.wrap (6 + (s.size : Int)) = 6 + (s.size : Int) := IntWalk.i64_in _ (by omega)
        have hee : ((TT.size : Int) == 6 + (s.size : Int)) = true := by rw [hse]; exact beq_self_eq_true _
        have R5 := Lib.hid (Box.made w5 (rdL ((a0 : Int) * 256) Q ((a2 : Int) * 3000) s) 35 w5.heap.size rfl)
        have B5 := Lib.hid ((Below.refl w5.heap.size w5).alloc (Nat.le_refl _) (.cells (rdL ((a0 : Int) * 256) Q ((a2 : Int) * 3000) s).toArray 35))
        clear hQ hok hback hsz hb5 Ha Hd BW
        go_wp2_with fail
        refine (HE.out _).mono ?_
        rintro e w6 ⟨rfl, hb6⟩
        have R6 := Lib.hid (R5.out.more hb6)
        have B6 := Lib.hid (B5.out.trans (hb6.mono B5.out.size))
        clear hb6 R5 B5
        go_wp2_with fail
        refine (HD.out _).mono ?_
        rintro e w7 ⟨rfl, hb7⟩
        have R7 := Lib.hid ((R6.out.more hb7).alloc (.cells (rdL ((a0 : Int) * 256) Q ((a2 : Int) * 3000) s).toArray 35))
        have Y7 := Lib.hid (Box.made w7 (rdL ((a0 : Int) * 256) Q ((a2 : Int) * 3000) s) 35 w7.heap.size rfl)
        have BX7 := B6.out.trans (hb7.mono B6.out.size)
        have B7 := Lib.hid (BX7.alloc BX7.size (.cells (rdL ((a0 : Int) * 256) Q ((a2 : Int) * 3000) s).toArray 35))
        clear hb7 R6 B6 BX7
        have hall : ∀ q : Prop, (InW (fun W => Below w5.heap.size w5 W ∧ Box W w5.heap.size (rdL ((a0 : Int) * 256) Q ((a2 : Int) * 3000) s) ∧ Box W w7.heap.size (rdL ((a0 : Int) * 256) Q ((a2 : Int) * 3000) s)) → q) ↔ q := fun q => ⟨fun h => h ⟨_, B7.out, R7.out, Y7.out⟩, fun h _ => h⟩
        have p0 : ∀ p : InW (fun W => Below w5.heap.size w5 W ∧ Box W w5.heap.size (rdL ((a0 : Int) * 256) Q ((a2 : Int) * 3000) s) ∧ Box W w7.heap.size (rdL ((a0 : Int) * 256) Q ((a2 : Int) * 3000) s)), p.W.cell? ⟨w5.heap.size, 0, none⟩ = some (.int .i64 ((a0 : Int) * 256)) := fun p => p.ok.2.1.four4.1
        have p1 : ∀ p : InW (fun W => Below w5.heap.size w5 W ∧ Box W w5.heap.size (rdL ((a0 : Int) * 256) Q ((a2 : Int) * 3000) s) ∧ Box W w7.heap.size (rdL ((a0 : Int) * 256) Q ((a2 : Int) * 3000) s)), p.W.cell? ⟨w5.heap.size, 1, none⟩ = some (.int .i64 Q) := fun p => p.ok.2.1.four4.2.1
        have p2 : ∀ p : InW (fun W => Below w5.heap.size w5 W ∧ Box W w5.heap.size (rdL ((a0 : Int) * 256) Q ((a2 : Int) * 3000) s) ∧ Box W w7.heap.size (rdL ((a0 : Int) * 256) Q ((a2 : Int) * 3000) s)), p.W.cell? ⟨w5.heap.size, 2, none⟩ = some (.int .i64 ((a2 : Int) * 3000)) := fun p => p.ok.2.1.four4.2.2.1
        have p3 : ∀ p : InW (fun W => Below w5.heap.size w5 W ∧ Box W w5.heap.size (rdL ((a0 : Int) * 256) Q ((a2 : Int) * 3000) s) ∧ Box W w7.heap.size (rdL ((a0 : Int) * 256) Q ((a2 : Int) * 3000) s)), p.W.cell? ⟨w5.heap.size, 3, none⟩ = some (.string s) := fun p => p.ok.2.1.four4.2.2.2
        have q0 : ∀ p : InW (fun W => Below w5.heap.size w5 W ∧ Box W w5.heap.size (rdL ((a0 : Int) * 256) Q ((a2 : Int) * 3000) s) ∧ Box W w7.heap.size (rdL ((a0 : Int) * 256) Q ((a2 : Int) * 3000) s)), p.W.cell? ⟨w7.heap.size, 0, none⟩ = some (.int .i64 ((a0 : Int) * 256)) := fun p => p.ok.2.2.four4.1
        have q1 : ∀ p : InW (fun W => Below w5.heap.size w5 W ∧ Box W w5.heap.size (rdL ((a0 : Int) * 256) Q ((a2 : Int) * 3000) s) ∧ Box W w7.heap.size (rdL ((a0 : Int) * 256) Q ((a2 : Int) * 3000) s)), p.W.cell? ⟨w7.heap.size, 1, none⟩ = some (.int .i64 Q) := fun p => p.ok.2.2.four4.2.1
        have q2 : ∀ p : InW (fun W => Below w5.heap.size w5 W ∧ Box W w5.heap.size (rdL ((a0 : Int) * 256) Q ((a2 : Int) * 3000) s) ∧ Box W w7.heap.size (rdL ((a0 : Int) * 256) Q ((a2 : Int) * 3000) s)), p.W.cell? ⟨w7.heap.size, 2, none⟩ = some (.int .i64 ((a2 : Int) * 3000)) := fun p => p.ok.2.2.four4.2.2.1
        have q3 : ∀ p : InW (fun W => Below w5.heap.size w5 W ∧ Box W w5.heap.size (rdL ((a0 : Int) * 256) Q ((a2 : Int) * 3000) s) ∧ Box W w7.heap.size (rdL ((a0 : Int) * 256) Q ((a2 : Int) * 3000) s)), p.W.cell? ⟨w7.heap.size, 3, none⟩ = some (.string s) := fun p => p.ok.2.2.four4.2.2.2
        have KE := Lib.hid (fun (W : World) (hW : (fun W => Below w5.heap.size w5 W ∧ Box W w5.heap.size (rdL ((a0 : Int) * 256) Q ((a2 : Int) * 3000) s) ∧ Box W w7.heap.size (rdL ((a0 : Int) * 256) Q ((a2 : Int) * 3000) s)) W) => (HE.out W).mono fun e w' h => (show e = .returned (.string TT) ∧ (fun W => Below w5.heap.size w5 W ∧ Box W w5.heap.size (rdL ((a0 : Int) * 256) Q ((a2 : Int) * 3000) s) ∧ Box W w7.heap.size (rdL ((a0 : Int) * 256) Q ((a2 : Int) * 3000) s)) w' from ⟨h.1, hW.1.trans (h.2.mono hW.1.size), hW.2.1.more h.2, hW.2.2.more h.2⟩))
        have KK := Lib.hid (fun (W : World) (hW : (fun W => Below w5.heap.size w5 W ∧ Box W w5.heap.size (rdL ((a0 : Int) * 256) Q ((a2 : Int) * 3000) s) ∧ Box W w7.heap.size (rdL ((a0 : Int) * 256) Q ((a2 : Int) * 3000) s)) W) => (HK.out W).mono fun e w' h => (show e = .returned (.bool true) ∧ (fun W => Below w5.heap.size w5 W ∧ Box W w5.heap.size (rdL ((a0 : Int) * 256) Q ((a2 : Int) * 3000) s) ∧ Box W w7.heap.size (rdL ((a0 : Int) * 256) Q ((a2 : Int) * 3000) s)) w' from ⟨h.1, hW.1.trans (h.2.mono hW.1.size), hW.2.1.more h.2, hW.2.2.more h.2⟩))
        go_upto_region 12 with fail
        refine wp_region_inW (fun W => Below w5.heap.size w5 W ∧ Box W w5.heap.size (rdL ((a0 : Int) * 256) Q ((a2 : Int) * 3000) s) ∧ Box W w7.heap.size (rdL ((a0 : Int) * 256) Q ((a2 : Int) * 3000) s)) (by kernel_rfl) (by kernel_rfl) ⟨B7.out.drew, R7.out.drew, Y7.out.drew⟩ ?_
        repeat (go_big_quiet_step (first
          | (go_at_call 23; exact calls_inW (C := (fun W => Below w5.heap.size w5 W ∧ Box W w5.heap.size (rdL ((a0 : Int) * 256) Q ((a2 : Int) * 3000) s) ∧ Box W w7.heap.size (rdL ((a0 : Int) * 256) Q ((a2 : Int) * 3000) s))) (KK.out _ (InW.ok (C := (fun W => Below w5.heap.size w5 W ∧ Box W w5.heap.size (rdL ((a0 : Int) * 256) Q ((a2 : Int) * 3000) s) ∧ Box W w7.heap.size (rdL ((a0 : Int) * 256) Q ((a2 : Int) * 3000) s))) _)))
          | (go_at_call 22; exact calls_inW (C := (fun W => Below w5.heap.size w5 W ∧ Box W w5.heap.size (rdL ((a0 : Int) * 256) Q ((a2 : Int) * 3000) s) ∧ Box W w7.heap.size (rdL ((a0 : Int) * 256) Q ((a2 : Int) * 3000) s))) (KE.out _ (InW.ok (C := (fun W => Below w5.heap.size w5 W ∧ Box W w5.heap.size (rdL ((a0 : Int) * 256) Q ((a2 : Int) * 3000) s) ∧ Box W w7.heap.size (rdL ((a0 : Int) * 256) Q ((a2 : Int) * 3000) s))) _)))))
        refine wpQuiet_nil ?_
        rintro _ ⟨⟨W9, B9, _, _⟩, rfl⟩
        have HB9 := Lib.hid (BW5.out.trans (B9.mono BW5.out.size))
        clear B9
        go_wp2
        go_ret
        exact ⟨rfl, HB9.out⟩
end Go.Proofs.Ytebfefkknaalpaa
