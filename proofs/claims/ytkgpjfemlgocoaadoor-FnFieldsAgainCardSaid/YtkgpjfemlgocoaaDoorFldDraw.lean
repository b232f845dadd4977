/- What this text proves: the line that is drawn for the law of fields is a text of at most 1000 bytes. -/
import Derived.Test.YtkgpjfemlgocoaaDoorLong
import Derived.Test.YtkgpjfemlgocoaaDoorNumv
import Derived.Laws.Strings2
import Derived.Deep.Cut
import Derived.Deep.CutRange
import Derived.Deep.DeepCutAuto
import Derived.Deep.LoopGhost
namespace Go.Proofs.YtkgpjfemlgocoaaDoor
open Go.ChangeShapes Go.WideShapes Go.ChangeAt Go.RowKit
set_option linter.unusedVariables false

def LineRes (m : Nat) (w : World) (e : Ending) (w' : World) : Prop := ∃ s : ByteArray, s.size ≤ m ∧ e = .returned (.string s) ∧ Below w.heap.size w w'
def PickRes (m : Nat) (g : Nat) (w : World) (e : Ending) (w' : World) : Prop := ∃ s : ByteArray, s.size ≤ m ∧ e = .returned (.string s) ∧ CurB w' g ∧ w.grownBy w' (some g)

set_option maxHeartbeats 1000000 in
theorem pick_text (w : World) (g b n c m : Nat) (f : Nat → ByteArray) (hf : ∀ j, (f j).size ≤ m) (hn0 : 0 < n) (hn : n ≤ 1000) (hb : b < w.heap.size) (hbg : b ≠ g)
    (hcell : ∀ j, j < n → w.cell? ⟨b, j, none⟩ = some (.string (f j))) (hcur : CurB w g) :
    Calls Tryd.prog 31 #[.pointer (some ⟨g, 0, none⟩), .slice (some ⟨b, 0, none⟩) n c] w (PickRes m g w) := by
  have Hf := Lib.hid hf
  have Hc := Lib.hid hcell
  clear hf hcell
  go_enter Tryd.func31, Tryd.ntmps31
  go_wp2_with fail
  refine (below_any _ g n (by omega) hcur).mono ?_
  rintro e w1 ⟨x, hx0, hx1, hx2, rfl, hc1, hg1⟩
  have hx3 := hx1 (by omega)
  clear hx1 hx2
  obtain ⟨j, rfl⟩ := Int.eq_ofNat_of_zero_le hx0
  have hj : j < n := by omega
  have cj : w1.cell? ⟨b, j, none⟩ = some (.string (f j)) := hg1.cell (Hc.out j hj) (fun e => by injection e with e; exact hbg e)
  go_wp2
  go_ret
  exact ⟨f j, Hf.out j, rfl, hc1, hg1⟩

def ends : List ByteArray := [⟨#[32]⟩, ⟨#[32, 32]⟩, ⟨#[9]⟩, ⟨#[10]⟩, ⟨#[127]⟩, ⟨#[233]⟩]
theorem ends_ok (j : Nat) : (ends.getD j ⟨#[]⟩).size ≤ 2 := by
  by_cases h : j < 6
  · have : ∀ k : Fin 6, (ends.getD k.val ⟨#[]⟩).size ≤ 2 := by decide +kernel
    exact this ⟨j, h⟩
  · rw [List.getD_eq_getElem?_getD, List.getElem?_eq_none (by show 6 ≤ j; omega)]
    decide

/-- The letters of a word. -/
def charB (x : Nat) : UInt8 := UInt8.ofNat (33 + x)
theorem charB_val (x : Nat) (h : x < 94) : ((charB x).toNat : Int) = 33 + (x : Int) := by unfold charB; rw [UInt8.toNat_ofNat']; omega

set_option maxHeartbeats 4000000 in
theorem draw_line (A : Option Addr) (n c : Nat) (hn : n ≤ 1048576) (w : World) (hc : CodeOk w w.heap.size A n) :
    Calls Tryd.prog 17 #[.slice A n c] w (LineRes 1000 w) := by
  have Hn := Lib.hid (new_any A n c hn w hc)
  clear hc
  go_enter Tryd.func17, Tryd.ntmps17
  go_wp2_with fail
  refine Hn.out.mono ?_
  rintro e w1 ⟨rfl, hc1, hb1⟩
  have HB := Lib.hid hb1
  clear hb1
  go_wp2_with fail
  refine (below_any _ _ 9 (by decide) hc1).mono ?_
  rintro e w2 ⟨x, hx0, hx1, hx2, rfl, hc2, hg2⟩
  have hx3 := hx1 (by decide)
  clear hx1 hx2
  have B2 := Lib.hid (below_of_new HB.out hg2 (Nat.le_refl _))
  clear hg2
  go_wp2_with fail
  refine (once_any _ _ 15 (by decide) hc2).mono ?_
  rintro e w3 ⟨b, rfl, hc3, hg3⟩
  have B3 := Lib.hid (below_of_new B2.out hg3 (Nat.le_refl _))
  clear hg3
  go_upto_if 13 with fail
  go_cut [4] (fun s4 wx => ∃ N : Nat, N ≤ 25 ∧ s4 = .int .i64 (N : Int) ∧ CurB wx w.heap.size ∧ Below w.heap.size w wx)
  case first =>
    cases b with
    | true =>
      go_wp2_with fail
      refine (below_any _ _ 2 (by decide) hc3).mono ?_
      rintro e w4 ⟨y, hy0, hy1, hy2, rfl, hc4, hg4⟩
      have hy3 := hy1 (by decide)
      clear hy1 hy2
      have B4 := Lib.hid (below_of_new B3.out hg4 (Nat.le_refl _))
      clear hg4
      go_wp2_with fail
      go_meet
      exact ⟨(24 + y).toNat, by omega, congrArg (Value.int .i64) (by omega), hc4, B4.out⟩
    | false =>
      go_wp2_with fail
      go_meet
      exact ⟨x.toNat, by omega, congrArg (Value.int .i64) (by omega), hc3, B3.out⟩
  case rest =>
    obtain ⟨N, hN, rfl, hcN, hbN⟩ := hcut
    have BN := Lib.hid hbN
    clear hbN B2 B3 HB hc1 hc2 hc3 hx0 hx3
    go_wp2_with fail
    go_loopg [5, 6] N (fun g s5 s6 wx => ∃ (s : ByteArray) (i : Nat), s5 = .string s ∧ s6 = .int .i64 (i : Int) ∧ i ≤ N ∧ g = N - i ∧ s.size ≤ 8 * i ∧ CurB wx w.heap.size ∧ Below w.heap.size w wx)
    case atStart => exact ⟨⟨#[]⟩, 0, rfl, rfl, by omega, rfl, by decide, hcN, BN.out⟩
    case round =>
      obtain ⟨s, i, rfl, rfl, hi, rfl, hs, hcr, hbr⟩ := hrel
      have BR := Lib.hid hbr
      clear hbr
      by_cases hlt : i < N
      · have hd : decide (i < N) = true := by simp; omega
        go_upto_region 9 with fail
        go_cut [27] (fun s27 wx => ∃ b : Bool, s27 = .bool b ∧ CurB wx w.heap.size ∧ Below w.heap.size w wx)
        case first =>
          by_cases h0 : 0 < i
          · have hd0 : decide (0 < i) = true := by simp; omega
            go_wp2_with fail
            go_meet
            exact ⟨true, rfl, hcr, BR.out⟩
          · have hd0 : decide (0 < i) = false := by simp; omega
            go_wp2_with fail
            refine (once_any _ _ 5 (by decide) hcr).mono ?_
            rintro e w5 ⟨b, rfl, hc5, hg5⟩
            have B5 := Lib.hid (below_of_new BR.out hg5 (Nat.le_refl _))
            clear hg5
            go_wp2_with fail
            go_meet
            exact ⟨b, rfl, hc5, B5.out⟩
        case rest =>
          obtain ⟨b, rfl, hc5, hb5⟩ := hcut
          have B5 := Lib.hid hb5
          clear hb5 hcr BR
          go_upto_if 27 with fail
          go_cut [5] (fun s5 wx => ∃ t : ByteArray, s5 = .string t ∧ t.size ≤ 8 * i + 3 ∧ CurB wx w.heap.size ∧ Below w.heap.size w wx)
          case first =>
            cases b with
            | true =>
              go_wp2_with fail
              refine (below_any _ _ 2 (by decide) hc5).mono ?_
              rintro e w6 ⟨y, hy0, hy1, hy2, rfl, hc6, hg6⟩
              have hy3 := hy1 (by decide)
              have B6 := Lib.hid (below_of_new B5.out hg6 (Nat.le_refl _))
              clear hg6 hy1 hy2
              go_wp2_with fail
              refine (below_any _ _ 3 (by decide) hc6).mono ?_
              rintro e w7 ⟨z, hz0, hz1, hz2, rfl, hc7, hg7⟩
              have hz3 := hz1 (by decide)
              have B7 := Lib.hid (below_of_new B6.out hg7 (Nat.le_refl _))
              clear hg7 hz1 hz2
              have hyz : 0 ≤ y * z ∧ y * z ≤ 2 := by
                have h1 : y = 0 ∨ y = 1 := by omega
                have h2 : z = 0 ∨ z = 1 ∨ z = 2 := by omega
                rcases h1 with rfl | rfl <;> rcases h2 with rfl | rfl | rfl <;> decide
              obtain ⟨P, hP, hPe⟩ : ∃ P : Nat, P ≤ 2 ∧ y * z = (P : Int) := ⟨(y * z).toNat, by omega, by omega⟩
              have hw2 : wrap64 (y * z) = (P : Int) := by rw [hPe]; unfold wrap64; omega
              have HL := Lib.hid (long_any w7 (1 + P) 32 (by omega))
              rw [show ((1 + P : Nat) : Int) = 1 + (P : Int) from by omega] at HL
              clear hy0 hy3 hz0 hz3 hyz hPe
              go_wp2_with fail
              refine HL.out.mono ?_
              rintro e w8 ⟨q, hq, rfl, hb8⟩
              have C8 := Lib.hid (hc7.more hb8 hc7.lt)
              have B8 := Lib.hid (B7.out.trans (hb8.mono B7.out.size))
              clear hb8
              go_wp2_with fail
              go_meet
              exact ⟨s ++ q, rfl, by rw [ByteArray.size_append]; omega, C8.out, B8.out⟩
            | false =>
              go_wp2_with fail
              go_meet
              exact ⟨s, rfl, by omega, hc5, B5.out⟩
          case rest =>
            obtain ⟨t, rfl, ht, hc6, hb6⟩ := hcut
            have B6 := Lib.hid hb6
            clear hb6 hc5 B5
            go_wp2_with fail
            go_loopg [5, 7] 5 (fun g s5 s7 wx => ∃ (q : ByteArray) (k : Nat), s5 = .string q ∧ s7 = .int .i64 (k : Int) ∧ k ≤ 5 ∧ g = 5 - k ∧ q.size ≤ 8 * i + 3 + k ∧ CurB wx w.heap.size ∧ Below w.heap.size w wx)
            case atStart => exact ⟨t, 0, rfl, rfl, by omega, rfl, by omega, hc6, B6.out⟩
            case round =>
              obtain ⟨q, k, rfl, rfl, hk, rfl, hq, hcq, hbq⟩ := hrel
              have BQ := Lib.hid hbq
              clear hbq B6 hc6
              go_wp2_with fail
              refine (below_any _ _ 5 (by decide) hcq).mono ?_
              rintro e w7 ⟨z, hz0, hz1, hz2, rfl, hc7, hg7⟩
              have hz3 := hz1 (by decide)
              have B7 := Lib.hid (below_of_new BQ.out hg7 (Nat.le_refl _))
              clear hg7 hz1 hz2
              obtain ⟨Z, rfl⟩ := Int.eq_ofNat_of_zero_le hz0
              have hZ : Z < 5 := by omega
              clear hz0 hz3
              by_cases hle : k ≤ Z
              · have hd2 : decide (k ≤ Z) = true := by simp; omega
                go_wp2_with fail
                refine (below_any _ _ 94 (by decide) hc7).mono ?_
                rintro e w8 ⟨y, hy0, hy1, hy2, rfl, hc8, hg8⟩
                have hy3 := hy1 (by decide)
                have B8 := Lib.hid (below_of_new B7.out hg8 (Nat.le_refl _))
                clear hg8 hy1 hy2
                obtain ⟨Y, rfl⟩ := Int.eq_ofNat_of_zero_le hy0
                have hY : Y < 94 := by omega
                have hcv := conv_one w8 (charB Y)
                rw [charB_val Y hY] at hcv
                have hone : (⟨#[charB Y]⟩ : ByteArray).size = 1 := rfl
                generalize charB Y = cc at *
                clear hy0 hy3
                go_wp2_with fail
                go_roundg (5 - (k + 1))
                case measure => omega
                case rel => exact ⟨q ++ ⟨#[cc]⟩, k + 1, rfl, by go_num, by omega, rfl, by rw [ByteArray.size_append]; omega, hc8.more ((Below.refl w8.heap.size w8).alloc (Nat.le_refl _) _) hc8.lt, B8.out.alloc B8.out.size _⟩
              · have hd2 : decide (k ≤ Z) = false := by simp; omega
                go_wp2_with fail
                go_roundg (N - (i + 1))
                case measure => omega
                case rel => exact ⟨q, i + 1, rfl, by go_num, by omega, rfl, by omega, hc7, B7.out⟩
      · have hd : decide (i < N) = false := by simp; omega
        have hs2 : s.size ≤ 200 := by omega
        clear hs hlt
        go_wp2_with fail
        refine (below_any _ _ 12 (by decide) hcr).mono ?_
        rintro e w7 ⟨z, hz0, hz1, hz2, rfl, hc7, hg7⟩
        have B7 := Lib.hid (below_of_new BR.out hg7 (Nat.le_refl _))
        clear hg7 hz1 hz2
        by_cases h0 : z = 0
        · subst h0
          go_wp2_with fail
          have hlt7 := hc7.lt
          have hcur2 : CurB (w7.alloc (.cells (ends.map Value.string).toArray 9)) w.heap.size := hc7.more ((Below.refl w7.heap.size w7).alloc (Nat.le_refl _) _) hlt7
          have hcells : ∀ j, j < 6 → (w7.alloc (.cells (ends.map Value.string).toArray 9)).cell? ⟨w7.heap.size, j, none⟩ = some (.string (ends.getD j ⟨#[]⟩)) := fun j hj => by
            rw [World.cell?_alloc_at _ _ _ _ rfl]
            have hl : j < ends.length := hj
            simp [List.getD_eq_getElem?_getD, List.getElem?_eq_getElem hl]
          refine (pick_text _ w.heap.size w7.heap.size 6 6 2 (fun j => ends.getD j ⟨#[]⟩) ends_ok (by decide) (by decide) (by simp) (by omega) hcells hcur2).mono ?_
          rintro e w8 ⟨q, hq, rfl, hc8, hg8⟩
          have B8 := Lib.hid (below_of_new B7.out (grown_trans (World.grownBy_alloc w7 _ _) hg8) (Nat.le_refl _))
          clear hg8 hcells
          go_wp2
          go_ret
          exact ⟨s ++ q, by rw [ByteArray.size_append]; omega, rfl, B8.out⟩
        · have hd0 : (z == 0) = false := by simpa using h0
          by_cases h1 : z = 1
          · have hd1 : (z == 1) = true := by simpa using h1
            have hd2 : decide ((s.size : Int) < 600) = true := by simp; omega
            clear h0 h1
            go_wp2_with fail
            refine (below_any _ _ 2 (by decide) hc7).mono ?_
            rintro e w8 ⟨y, hy0, hy1, hy2, rfl, hc8, hg8⟩
            have hy3 := hy1 (by decide)
            have B8 := Lib.hid (below_of_new B7.out hg8 (Nat.le_refl _))
            clear hg8 hy1 hy2
            obtain ⟨Y, rfl⟩ := Int.eq_ofNat_of_zero_le hy0
            have HL := Lib.hid (long_any w8 (600 - s.size + Y) 32 (by omega))
            rw [show ((600 - s.size + Y : Nat) : Int) = 600 - (s.size : Int) + (Y : Int) from by omega] at HL
            have hY : Y < 2 := by omega
            clear hy0 hy3
            go_wp2_with fail
            refine HL.out.mono ?_
            rintro e w9 ⟨q, hq, rfl, hb9⟩
            have B9 := Lib.hid (B8.out.trans (hb9.mono B8.out.size))
            clear hb9
            go_wp2
            go_ret
            exact ⟨s ++ q, by rw [ByteArray.size_append]; omega, rfl, B9.out⟩
          · have hd1 : (z == 1) = false := by simpa using h1
            clear h0 h1
            go_wp2
            go_ret
            exact ⟨s, by omega, rfl, B7.out⟩
end Go.Proofs.YtkgpjfemlgocoaaDoor
