/- What this text proves: the contracts of SendBlock: program and model both return, for every channel and text, the channel with its next seed and what comes through. -/
import Derived.Test.YtdponcannphboabDoorChan
import Derived.Test.YtdponcannphboabDoorBrstw
import Derived.Deep.RegionLaw
import Derived.Laws.Concat
import Derived.Laws.IdiomCopy
namespace Go.Proofs.YtdponcannphboabDoor
open Go.ChangeShapes Go.WideShapes Go.ChangeAt Go.RowKit
set_option linter.unusedVariables false

/-- What SendBlock returns: the seed, the text. -/
noncomputable def sendV (a b c : Int) (s : ByteArray) : Int × ByteArray :=
  if ¬ (ChOk a b c ∧ 4 ≤ s.size) then (a, s)
  else if nextR a / 16 % 100 < c then (nextR a, ⟨#[]⟩)
  else if nextR (nextR a) / 16 % 100 < b then ((burstV (nextR (nextR a)) (s.extract 4 s.size)).1, s.extract 0 4 ++ (burstV (nextR (nextR a)) (s.extract 4 s.size)).2)
  else (nextR (nextR a), s)
theorem sendV_no {a b c : Int} {s : ByteArray} (h : ¬ (ChOk a b c ∧ 4 ≤ s.size)) : sendV a b c s = (a, s) := by unfold sendV; rw [if_pos h]
theorem sendV_lost {a b c : Int} {s : ByteArray} (h : ChOk a b c) (h4 : 4 ≤ s.size) (h1 : nextR a / 16 % 100 < c) : sendV a b c s = (nextR a, ⟨#[]⟩) := by
  unfold sendV; rw [if_neg (fun hn => hn ⟨h, h4⟩), if_pos h1]
theorem sendV_burst {a b c : Int} {s : ByteArray} (h : ChOk a b c) (h4 : 4 ≤ s.size) (h1 : ¬ nextR a / 16 % 100 < c) (h2 : nextR (nextR a) / 16 % 100 < b) :
    sendV a b c s = ((burstV (nextR (nextR a)) (s.extract 4 s.size)).1, s.extract 0 4 ++ (burstV (nextR (nextR a)) (s.extract 4 s.size)).2) := by
  unfold sendV; rw [if_neg (fun hn => hn ⟨h, h4⟩), if_neg h1, if_pos h2]
theorem sendV_whole {a b c : Int} {s : ByteArray} (h : ChOk a b c) (h4 : 4 ≤ s.size) (h1 : ¬ nextR a / 16 % 100 < c) (h2 : ¬ nextR (nextR a) / 16 % 100 < b) : sendV a b c s = (nextR (nextR a), s) := by
  unfold sendV; rw [if_neg (fun hn => hn ⟨h, h4⟩), if_neg h1, if_neg h2]
def retC (b c : Int) (p : Int × ByteArray) : Ending := .returned (.tuple #[chV p.1 b c, .string p.2])
theorem below_one (x : Int) (h : 0 ≤ x ∧ x ≤ 65535) : belowR x 100 = (nextR x, nextR x / 16 % 100) := by unfold belowR; rw [if_pos (by omega)]

/-- The block of a channel, and the one of what is returned, lie behind what was there. -/
structure ChW (w W : World) (a b c : Int) : Prop where
  below : Below w.heap.size w W
  size : w.heap.size + 1 < W.heap.size
  box : BoxC W w.heap.size a b c
  ice : ∀ j, W.frozen? ⟨w.heap.size, j, none⟩ = false
  res : ∀ j, j < 3 → ∃ v, W.cell? ⟨w.heap.size + 1, j, none⟩ = some (.int .i64 v)
  rice : ∀ j, W.frozen? ⟨w.heap.size + 1, j, none⟩ = false
theorem ChW.more {w W W' : World} {a b c : Int} (h : ChW w W a b c) (hb : Below W.heap.size W W') : ChW w W' a b c :=
  ⟨h.below.trans (hb.mono h.below.size), Nat.lt_of_lt_of_le h.size hb.size, h.box.more hb (by have := h.size; omega),
    fun j => (hb.frozen (p := ⟨w.heap.size, j, none⟩) (by have := h.size; simp; omega)).trans (h.ice j),
    fun j hj => by
      obtain ⟨v, hv⟩ := h.res j hj
      exact ⟨v, (hb.cell (p := ⟨w.heap.size + 1, j, none⟩) (by have := h.size; simp; omega)).trans hv⟩,
    fun j => (hb.frozen (p := ⟨w.heap.size + 1, j, none⟩) (by have := h.size; simp; omega)).trans (h.rice j)⟩
theorem ChW.start (w : World) (a b c : Int) (T : TypeId) : ChW w ((w.alloc (.cells #[.int .i64 a, .int .i64 b, .int .i64 c] T)).alloc (.cells #[.int .i64 0, .int .i64 0, .int .i64 0] T)) a b c := by
  have hz : (w.alloc (.cells #[.int .i64 a, .int .i64 b, .int .i64 c] T)).heap.size = w.heap.size + 1 := by simp
  refine ⟨((Below.refl _ w).alloc (Nat.le_refl _) _).alloc (by simp) _, by simp, (BoxC.made w a b c T).more (n := w.heap.size + 1) ((Below.refl _ _).alloc (by simp) _) (by omega), fun j => ?_, fun j hj => ?_, fun j => ?_⟩
  · rw [World.frozen?_alloc_past _ _ _ (by simp)]
    exact World.frozen?_alloc_at _ _ _ _ rfl
  · refine ⟨0, ?_⟩
    rw [World.cell?_alloc_at _ _ _ _ hz.symm]
    match j, hj with
    | 0, _ => rfl
    | 1, _ => rfl
    | 2, _ => rfl
  · exact World.frozen?_alloc_at _ _ _ _ hz.symm
theorem ChW.put {w W : World} {a b c : Int} (h : ChW w W a b c) (x : Int) : ChW w (W.setCell ⟨w.heap.size, 0, none⟩ (.int .i64 x)) x b c := by
  refine ⟨h.below.setCell (Nat.le_refl _) _, by have := h.size; simpa using this, ⟨World.cell?_setCell_same _ _ _ h.box.1, ?_, ?_⟩, fun j => ?_, fun j hj => ?_, fun j => ?_⟩
  · rw [World.cell?_setCell_other _ _ _ _ (by simp)]; exact h.box.2.1
  · rw [World.cell?_setCell_other _ _ _ _ (by simp)]; exact h.box.2.2
  · rw [World.frozen?_setCell]; exact h.ice j
  · obtain ⟨v, hv⟩ := h.res j hj
    exact ⟨v, by rw [World.cell?_setCell_other _ _ _ _ (by simp)]; exact hv⟩
  · rw [World.frozen?_setCell]; exact h.rice j
/-- What three stores leave in the block of what is returned. -/
theorem ChW.done {w W : World} {a b c : Int} (h : ChW w W a b c) (l : List Value) (hl : l.length = 3) : (∀ j (hj : j < l.length), (W.setCells (w.heap.size + 1) 0 l).cell? ⟨w.heap.size + 1, 0 + j, none⟩ = some l[j]) ∧ Below w.heap.size w (W.setCells (w.heap.size + 1) 0 l) := by
  refine ⟨World.cell?_setCells_in _ l 0 W (fun j hj => by
    obtain ⟨v, hv⟩ := h.res j (by omega)
    rw [Nat.zero_add, hv]
    rfl), ?_⟩
  have : ∀ (l : List Value) (o : Nat) (W : World), Below w.heap.size w W → Below w.heap.size w (W.setCells (w.heap.size + 1) o l) := by
    intro l
    induction l with
    | nil => intro o W hW; exact hW
    | cons v r ih => intro o W hW; exact ih _ _ (hW.setCell (by simp) _)
  exact this l 0 W h.below

set_option maxHeartbeats 2000000 in
theorem send_impl (a b c : Int) (s : ByteArray) (hs : s.size ≤ 1048576) (w : World) :
    Calls Tryd.prog 17 #[chV a b c, .string s] w fun e w' => e = retC b c (sendV a b c s) ∧ Below w.heap.size w w' := by
  have H1 := Lib.hid (chan_impl a b c)
  by_cases hc : ChOk a b c
  · rw [decide_eq_true hc] at H1
    by_cases h4 : 4 ≤ s.size
    · have d4 : decide (s.size < 4) = false := by simp; omega
      have d4' : decide ((s.size : Int) < 4) = false := by simp; omega
      have Hx1 := Lib.hid (And.intro (nextR_lo a) (nextR_hi a))
      have hc2 := Lib.hid hc
      have R1 := Lib.hid (fun W => (below_impl a 100 W).mono fun e w' h => (⟨h.1, by obtain ⟨n, hn⟩ := h.2; rw [hn]; exact below_draws (Below.refl _ _) n⟩ : e = retR (belowR a 100) ∧ Below W.heap.size W w'))
      have R2 := Lib.hid (fun W => (below_impl (nextR a) 100 W).mono fun e w' h => (⟨h.1, by obtain ⟨n, hn⟩ := h.2; rw [hn]; exact below_draws (Below.refl _ _) n⟩ : e = retR (belowR (nextR a) 100) ∧ Below W.heap.size W w'))
      rw [below_one a hc.1] at R1
      rw [below_one (nextR a) Hx1.out] at R2
      simp only [retR] at R1 R2
      by_cases hl : nextR a / 16 % 100 < c
      · have HV := Lib.hid (sendV_lost hc h4 hl)
        have dl : decide (nextR a / 16 % 100 < c) = true := by simpa using hl
        clear hc
        generalize nextR a / 16 % 100 = n1 at *
        generalize nextR a = x1 at *
        go_enter Tryd.func17, Tryd.ntmps17
        go_wp2_with fail
        refine (H1.out _).mono ?_
        rintro e w1 ⟨rfl, hb1⟩
        have C1 := (ChW.start w a b c _).more hb1
        obtain ⟨k0, k1, k2⟩ := C1.box
        have i0 := C1.ice 0
        obtain ⟨v0, r0⟩ := C1.res 0 (by decide)
        obtain ⟨v1, r1⟩ := C1.res 1 (by decide)
        obtain ⟨v2, r2⟩ := C1.res 2 (by decide)
        have z0 := C1.rice 0
        have z1 := C1.rice 1
        have z2 := C1.rice 2
        have HC1 := Lib.hid C1
        clear C1 hb1
        go_wp2_with fail
        refine (R1.out _).mono ?_
        rintro e w2 ⟨rfl, hb2⟩
        clear k0 k1 k2 i0 r0 r1 r2 z0 z1 z2 v0 v1 v2
        have C2 := HC1.out.more hb2
        obtain ⟨k0, k1, k2⟩ := C2.box
        have i0 := C2.ice 0
        obtain ⟨v0, r0⟩ := C2.res 0 (by decide)
        obtain ⟨v1, r1⟩ := C2.res 1 (by decide)
        obtain ⟨v2, r2⟩ := C2.res 2 (by decide)
        have z0 := C2.rice 0
        have z1 := C2.rice 1
        have z2 := C2.rice 2
        have C3 := Lib.hid (C2.put x1)
        clear C2 hb2
        have HD := Lib.hid (C3.out.done [.int .i64 x1, .int .i64 b, .int .i64 c] rfl)
        go_wp2
        show bodyPost Tryd.prog Tryd.f17 _ Exit.ret _ ((w2.setCell ⟨w.heap.size, 0, none⟩ (.int .i64 x1)).setCells (w.heap.size + 1) 0 [.int .i64 x1, .int .i64 b, .int .i64 c])
        generalize (w2.setCell ⟨w.heap.size, 0, none⟩ (.int .i64 x1)).setCells (w.heap.size + 1) 0 [.int .i64 x1, .int .i64 b, .int .i64 c] = WE at *
        have c0 : WE.cell? ⟨w.heap.size + 1, 0, none⟩ = some (.int .i64 x1) := HD.out.1 0 (by simp)
        have c1 : WE.cell? ⟨w.heap.size + 1, 1, none⟩ = some (.int .i64 b) := HD.out.1 1 (by simp)
        have c2 : WE.cell? ⟨w.heap.size + 1, 2, none⟩ = some (.int .i64 c) := HD.out.1 2 (by simp)
        refine bodyPost_ret_by (v := .tuple #[chV x1 b c, .string ⟨#[]⟩]) ?_ rfl ⟨by rw [HV.out]; rfl, HD.out.2⟩
        simp [results, Tryd.f17, go_sem, c0, c1, c2]
      · have dl : decide (nextR a / 16 % 100 < c) = false := by simpa using hl
        by_cases hbu : nextR (nextR a) / 16 % 100 < b
        · have HV := Lib.hid (sendV_burst hc h4 hl hbu)
          have db : decide (nextR (nextR a) / 16 % 100 < b) = true := by simpa using hbu
          have db' : decide (b ≤ nextR (nextR a) / 16 % 100) = false := by simp; omega
          have hsl : ∀ W : World, (Instr.slice 9 (.string s) (some (.int .i64 4)) none none).run Tryd.prog W = .ok (.string (s.extract 4 s.size)) W := fun W => by
            have h := run_slice_string_from_if W 9 s .i64 4 Tryd.underlying9
            rw [if_pos (by omega)] at h
            exact h
          have hsm : ∀ W : World, (Instr.slice 9 (.string s) none (some (.int .i64 4)) none).run Tryd.prog W = .ok (.string (s.extract 0 4)) W := fun W => by
            have h := run_slice_string_to_if W 9 s .i64 4 Tryd.underlying9
            rw [if_pos (by omega)] at h
            exact h
          have zt : (s.extract 4 s.size).size = s.size - 4 := by rw [ByteArray.size_extract]; omega
          have zh : (s.extract 0 4).size = 4 := by rw [ByteArray.size_extract]; omega
          have H5 := burst_impl (nextR (nextR a)) (s.extract 4 s.size) (by omega)
          have zb := burstV_size (nextR (nextR a)) (s.extract 4 s.size)
          generalize s.extract 4 s.size = tl at *
          generalize s.extract 0 4 = hdr at *
          generalize burstV (nextR (nextR a)) tl = B at *
          obtain ⟨x3, t3⟩ := B
          simp only [retZ] at H5
          have R3 := Lib.hid H5
          simp only [] at HV zb
          clear hc H5
          generalize nextR (nextR a) / 16 % 100 = n2 at *
          generalize nextR (nextR a) = x2 at *
          generalize nextR a / 16 % 100 = n1 at *
          generalize nextR a = x1 at *
          go_enter Tryd.func17, Tryd.ntmps17
          go_wp2_with fail
          refine (H1.out _).mono ?_
          rintro e w1 ⟨rfl, hb1⟩
          have C1 := (ChW.start w a b c _).more hb1
          obtain ⟨k0, k1, k2⟩ := C1.box
          have i0 := C1.ice 0
          obtain ⟨v0, r0⟩ := C1.res 0 (by decide)
          obtain ⟨v1, r1⟩ := C1.res 1 (by decide)
          obtain ⟨v2, r2⟩ := C1.res 2 (by decide)
          have z0 := C1.rice 0
          have z1 := C1.rice 1
          have z2 := C1.rice 2
          have HC1 := Lib.hid C1
          clear C1 hb1
          go_wp2_with fail
          refine (R1.out _).mono ?_
          rintro e w2 ⟨rfl, hb2⟩
          clear k0 k1 k2 i0 r0 r1 r2 z0 z1 z2 v0 v1 v2
          have C2 := HC1.out.more hb2
          obtain ⟨k0, k1, k2⟩ := C2.box
          have i0 := C2.ice 0
          obtain ⟨v0, r0⟩ := C2.res 0 (by decide)
          obtain ⟨v1, r1⟩ := C2.res 1 (by decide)
          obtain ⟨v2, r2⟩ := C2.res 2 (by decide)
          have z0 := C2.rice 0
          have z1 := C2.rice 1
          have z2 := C2.rice 2
          have C3 := Lib.hid (C2.put x1)
          clear C2 hb2
          go_wp2_with fail
          refine (R2.out _).mono ?_
          rintro e w3 ⟨rfl, hb3⟩
          clear k0 k1 k2 i0 r0 r1 r2 z0 z1 z2 v0 v1 v2
          have C4 := C3.out.more hb3
          obtain ⟨k0, k1, k2⟩ := C4.box
          have i0 := C4.ice 0
          obtain ⟨v0, r0⟩ := C4.res 0 (by decide)
          obtain ⟨v1, r1⟩ := C4.res 1 (by decide)
          obtain ⟨v2, r2⟩ := C4.res 2 (by decide)
          have z0 := C4.rice 0
          have z1 := C4.rice 1
          have z2 := C4.rice 2
          have C5 := Lib.hid (C4.put x2)
          clear C4 hb3
          go_wp2
          generalize w3.setCell ⟨w.heap.size, 0, none⟩ (.int .i64 x2) = W5 at *
          clear k0 k1 k2 i0 r0 r1 r2 z0 z1 z2 v0 v1 v2
          have C6 := C5.out.more ((Below.refl _ _).drew)
          obtain ⟨k0, k1, k2⟩ := C6.box
          have i0 := C6.ice 0
          obtain ⟨v0, r0⟩ := C6.res 0 (by decide)
          obtain ⟨v1, r1⟩ := C6.res 1 (by decide)
          obtain ⟨v2, r2⟩ := C6.res 2 (by decide)
          have z0 := C6.rice 0
          have z1 := C6.rice 1
          have z2 := C6.rice 2
          have C7 := Lib.hid C6
          clear C6 C5
          go_region_law ((go_simp; go_at_call 15; with_reducible refine (R3.out _).mono ?_; rintro e w4 ⟨rfl, hb4⟩))
          all_goals clear k0 k1 k2 i0 r0 r1 r2 z0 z1 z2 v0 v1 v2
          have C8 := C7.out.more hb4
          obtain ⟨k0, k1, k2⟩ := C8.box
          have i0 := C8.ice 0
          obtain ⟨v0, r0⟩ := C8.res 0 (by decide)
          obtain ⟨v1, r1⟩ := C8.res 1 (by decide)
          obtain ⟨v2, r2⟩ := C8.res 2 (by decide)
          have z0 := C8.rice 0
          have z1 := C8.rice 1
          have z2 := C8.rice 2
          have C9 := Lib.hid (C8.put x3)
          clear C8 hb4
          go_wp2
          generalize w4.setCell ⟨w.heap.size, 0, none⟩ (.int .i64 x3) = W9 at *
          clear k0 k1 k2 i0 r0 r1 r2 z0 z1 z2 v0 v1 v2
          have C10 := C9.out.more ((Below.refl _ _).drew)
          obtain ⟨k0, k1, k2⟩ := C10.box
          have i0 := C10.ice 0
          obtain ⟨v0, r0⟩ := C10.res 0 (by decide)
          obtain ⟨v1, r1⟩ := C10.res 1 (by decide)
          obtain ⟨v2, r2⟩ := C10.res 2 (by decide)
          have z0 := C10.rice 0
          have z1 := C10.rice 1
          have z2 := C10.rice 2
          have HD := Lib.hid (C10.done [.int .i64 x3, .int .i64 b, .int .i64 c] rfl)
          obtain ⟨u0, q0⟩ := C9.out.res 0 (by decide)
          obtain ⟨u1, q1⟩ := C9.out.res 1 (by decide)
          obtain ⟨u2, q2⟩ := C9.out.res 2 (by decide)
          have y0 := C9.out.rice 0
          have y1 := C9.out.rice 1
          have y2 := C9.out.rice 2
          clear C10 C9
          have hbs : ¬ 9223372036854775807 < s.size := by omega
          go_region
          go_wp2
          show bodyPost Tryd.prog Tryd.f17 _ Exit.ret _ (W9.drew.setCells (w.heap.size + 1) 0 [.int .i64 x3, .int .i64 b, .int .i64 c])
          generalize W9.drew.setCells (w.heap.size + 1) 0 [.int .i64 x3, .int .i64 b, .int .i64 c] = WE at *
          have c0 : WE.cell? ⟨w.heap.size + 1, 0, none⟩ = some (.int .i64 x3) := HD.out.1 0 (by simp)
          have c1 : WE.cell? ⟨w.heap.size + 1, 1, none⟩ = some (.int .i64 b) := HD.out.1 1 (by simp)
          have c2 : WE.cell? ⟨w.heap.size + 1, 2, none⟩ = some (.int .i64 c) := HD.out.1 2 (by simp)
          refine bodyPost_ret_by (v := .tuple #[chV x3 b c, .string (hdr ++ t3)]) ?_ rfl ⟨by rw [HV.out]; rfl, HD.out.2⟩
          simp [results, Tryd.f17, go_sem, c0, c1, c2]
        · have HV := Lib.hid (sendV_whole hc h4 hl hbu)
          have db : decide (nextR (nextR a) / 16 % 100 < b) = false := by simpa using hbu
          have db' : decide (b ≤ nextR (nextR a) / 16 % 100) = true := by simp; omega
          clear hc
          generalize nextR (nextR a) / 16 % 100 = n2 at *
          generalize nextR (nextR a) = x2 at *
          generalize nextR a / 16 % 100 = n1 at *
          generalize nextR a = x1 at *
          go_enter Tryd.func17, Tryd.ntmps17
          go_wp2_with fail
          refine (H1.out _).mono ?_
          rintro e w1 ⟨rfl, hb1⟩
          have C1 := (ChW.start w a b c _).more hb1
          obtain ⟨k0, k1, k2⟩ := C1.box
          have i0 := C1.ice 0
          obtain ⟨v0, r0⟩ := C1.res 0 (by decide)
          obtain ⟨v1, r1⟩ := C1.res 1 (by decide)
          obtain ⟨v2, r2⟩ := C1.res 2 (by decide)
          have z0 := C1.rice 0
          have z1 := C1.rice 1
          have z2 := C1.rice 2
          have HC1 := Lib.hid C1
          clear C1 hb1
          go_wp2_with fail
          refine (R1.out _).mono ?_
          rintro e w2 ⟨rfl, hb2⟩
          clear k0 k1 k2 i0 r0 r1 r2 z0 z1 z2 v0 v1 v2
          have C2 := HC1.out.more hb2
          obtain ⟨k0, k1, k2⟩ := C2.box
          have i0 := C2.ice 0
          obtain ⟨v0, r0⟩ := C2.res 0 (by decide)
          obtain ⟨v1, r1⟩ := C2.res 1 (by decide)
          obtain ⟨v2, r2⟩ := C2.res 2 (by decide)
          have z0 := C2.rice 0
          have z1 := C2.rice 1
          have z2 := C2.rice 2
          have C3 := Lib.hid (C2.put x1)
          clear C2 hb2
          go_wp2_with fail
          refine (R2.out _).mono ?_
          rintro e w3 ⟨rfl, hb3⟩
          clear k0 k1 k2 i0 r0 r1 r2 z0 z1 z2 v0 v1 v2
          have C4 := C3.out.more hb3
          obtain ⟨k0, k1, k2⟩ := C4.box
          have i0 := C4.ice 0
          obtain ⟨v0, r0⟩ := C4.res 0 (by decide)
          obtain ⟨v1, r1⟩ := C4.res 1 (by decide)
          obtain ⟨v2, r2⟩ := C4.res 2 (by decide)
          have z0 := C4.rice 0
          have z1 := C4.rice 1
          have z2 := C4.rice 2
          have C5 := Lib.hid (C4.put x2)
          clear C4 hb3
          have HD := Lib.hid (C5.out.done [.int .i64 x2, .int .i64 b, .int .i64 c] rfl)
          go_wp2
          show bodyPost Tryd.prog Tryd.f17 _ Exit.ret _ ((w3.setCell ⟨w.heap.size, 0, none⟩ (.int .i64 x2)).setCells (w.heap.size + 1) 0 [.int .i64 x2, .int .i64 b, .int .i64 c])
          generalize (w3.setCell ⟨w.heap.size, 0, none⟩ (.int .i64 x2)).setCells (w.heap.size + 1) 0 [.int .i64 x2, .int .i64 b, .int .i64 c] = WE at *
          have c0 : WE.cell? ⟨w.heap.size + 1, 0, none⟩ = some (.int .i64 x2) := HD.out.1 0 (by simp)
          have c1 : WE.cell? ⟨w.heap.size + 1, 1, none⟩ = some (.int .i64 b) := HD.out.1 1 (by simp)
          have c2 : WE.cell? ⟨w.heap.size + 1, 2, none⟩ = some (.int .i64 c) := HD.out.1 2 (by simp)
          refine bodyPost_ret_by (v := .tuple #[chV x2 b c, .string s]) ?_ rfl ⟨by rw [HV.out]; rfl, HD.out.2⟩
          simp [results, Tryd.f17, go_sem, c0, c1, c2]
    · have HV := Lib.hid (sendV_no (a := a) (b := b) (c := c) (s := s) (fun h => h4 h.2))
      have d4 : decide (s.size < 4) = true := by simp; omega
      have d4' : decide ((s.size : Int) < 4) = true := by simp; omega
      go_enter Tryd.func17, Tryd.ntmps17
      go_wp2_with fail
      refine (H1.out _).mono ?_
      rintro e w1 ⟨rfl, hb1⟩
      have C1 := (ChW.start w a b c _).more hb1
      obtain ⟨k0, k1, k2⟩ := C1.box
      have i0 := C1.ice 0
      obtain ⟨v0, r0⟩ := C1.res 0 (by decide)
      obtain ⟨v1, r1⟩ := C1.res 1 (by decide)
      obtain ⟨v2, r2⟩ := C1.res 2 (by decide)
      have z0 := C1.rice 0
      have z1 := C1.rice 1
      have z2 := C1.rice 2
      have HC1 := Lib.hid C1
      clear C1 hb1
      have HD := Lib.hid (HC1.out.done [.int .i64 a, .int .i64 b, .int .i64 c] rfl)
      go_wp2
      show bodyPost Tryd.prog Tryd.f17 _ Exit.ret _ (w1.setCells (w.heap.size + 1) 0 [.int .i64 a, .int .i64 b, .int .i64 c])
      generalize w1.setCells (w.heap.size + 1) 0 [.int .i64 a, .int .i64 b, .int .i64 c] = WE at *
      have c0 : WE.cell? ⟨w.heap.size + 1, 0, none⟩ = some (.int .i64 a) := HD.out.1 0 (by simp)
      have c1 : WE.cell? ⟨w.heap.size + 1, 1, none⟩ = some (.int .i64 b) := HD.out.1 1 (by simp)
      have c2 : WE.cell? ⟨w.heap.size + 1, 2, none⟩ = some (.int .i64 c) := HD.out.1 2 (by simp)
      refine bodyPost_ret_by (v := .tuple #[chV a b c, .string s]) ?_ rfl ⟨by rw [HV.out]; rfl, HD.out.2⟩
      simp [results, Tryd.f17, go_sem, c0, c1, c2]
  · have HV := Lib.hid (sendV_no (a := a) (b := b) (c := c) (s := s) (fun h => hc h.1))
    rw [decide_eq_false hc] at H1
    go_enter Tryd.func17, Tryd.ntmps17
    go_wp2_with fail
    refine (H1.out _).mono ?_
    rintro e w1 ⟨rfl, hb1⟩
    have C1 := (ChW.start w a b c _).more hb1
    obtain ⟨k0, k1, k2⟩ := C1.box
    have i0 := C1.ice 0
    obtain ⟨v0, r0⟩ := C1.res 0 (by decide)
    obtain ⟨v1, r1⟩ := C1.res 1 (by decide)
    obtain ⟨v2, r2⟩ := C1.res 2 (by decide)
    have z0 := C1.rice 0
    have z1 := C1.rice 1
    have z2 := C1.rice 2
    have HC1 := Lib.hid C1
    clear C1 hb1
    have HD := Lib.hid (HC1.out.done [.int .i64 a, .int .i64 b, .int .i64 c] rfl)
    go_wp2
    show bodyPost Tryd.prog Tryd.f17 _ Exit.ret _ (w1.setCells (w.heap.size + 1) 0 [.int .i64 a, .int .i64 b, .int .i64 c])
    generalize w1.setCells (w.heap.size + 1) 0 [.int .i64 a, .int .i64 b, .int .i64 c] = WE at *
    have c0 : WE.cell? ⟨w.heap.size + 1, 0, none⟩ = some (.int .i64 a) := HD.out.1 0 (by simp)
    have c1 : WE.cell? ⟨w.heap.size + 1, 1, none⟩ = some (.int .i64 b) := HD.out.1 1 (by simp)
    have c2 : WE.cell? ⟨w.heap.size + 1, 2, none⟩ = some (.int .i64 c) := HD.out.1 2 (by simp)
    refine bodyPost_ret_by (v := .tuple #[chV a b c, .string s]) ?_ rfl ⟨by rw [HV.out]; rfl, HD.out.2⟩
    simp [results, Tryd.f17, go_sem, c0, c1, c2]
end Go.Proofs.YtdponcannphboabDoor
