/- What this text proves: the parts IPo of the proof, each under its own words. -/
import Derived.Test.YtegahdlfjdjcaaaV16
import Derived.Test.YtegahdlfjdjcaaaV22
/- What this text proves: the contract of the program's PackerOk. -/
namespace Go.Proofs.Ytegahdlfjdjcaaa
open Go.ChangeShapes Go.WideShapes Go.ChangeAt Go.RowKit
set_option linter.unusedVariables false

/-- The start before the k-th, -1 before the first. -/
def befI (l : List Int) (k : Nat) : Int := if k = 0 then -1 else l.getD (k - 1) 0
theorem befI_zero (l : List Int) : befI l 0 = -1 := rfl
theorem befI_succ (l : List Int) (k : Nat) : befI l (k + 1) = l.getD k 0 := by unfold befI; rw [if_neg (by omega)]; rfl
theorem PaTo.next {z : Nat} {l : List Int} {k : Nat} (h : PaTo z l k) (h1 : befI l k + 1 ≤ l.getD k 0 ∧ l.getD k 0 ≤ (z : Int) - 1) : PaTo z l (k + 1) := by
  cases k with
  | zero => exact h.succ ⟨by have := h1.1; rw [befI_zero] at this; omega, h1.2⟩ (fun h0 => absurd h0 (Nat.lt_irrefl _))
  | succ j =>
    have hb := befI_succ l j
    have h2 := (h j (Nat.lt_succ_self j)).1
    exact h.succ ⟨by have := h1.1; omega, h1.2⟩ (fun _ => by rw [Nat.add_sub_cancel]; have := h1.1; omega)
theorem PaTo.at {z : Nat} {l : List Int} {n k : Nat} (h : PaTo z l n) (hk : k < n) : befI l k + 1 ≤ l.getD k 0 ∧ l.getD k 0 ≤ (z : Int) - 1 := by
  have h1 := h k hk
  refine ⟨?_, h1.1.2⟩
  cases k with
  | zero => rw [befI_zero]; have := h1.1.1; omega
  | succ j => rw [befI_succ]; have := h1.2 (by omega); rw [Nat.add_sub_cancel] at this; omega
theorem PaTo.bef {z : Nat} {l : List Int} {k : Nat} (h : PaTo z l k) : -1 ≤ befI l k ∧ befI l k ≤ (z : Int) := by
  cases k with
  | zero => rw [befI_zero]; omega
  | succ j => rw [befI_succ]; have := (h j (Nat.lt_succ_self j)).1; omega

set_option maxHeartbeats 4000000 in
theorem po_impl (c n : Int) (r : ByteArray) (A : Option Addr) (l : List Int) (k0 : Nat) (hl : l.length ≤ 1048577) (hr : r.size ≤ 1048576) (w : World) (h : IntsAt w w.heap.size A l) :
    Calls Try.prog 32 #[paV c n r (.slice A l.length k0)] w fun e w' => e = .returned (.bool (paB c n r l)) ∧ Below w.heap.size w w' := by
  have HI := Lib.hid (fun W (hb : Below w.heap.size w W) => h.more hb)
  have BX := Lib.hid (Box.made w (paL c n r (.slice A l.length k0)) 34 _ rfl)
  have BW := Lib.hid ((Below.refl _ w).alloc (Nat.le_refl _) (.cells (paL c n r (.slice A l.length k0)).toArray 34))
  clear h
  by_cases h1 : 0 ≤ c ∧ c ≤ 2
  · have H1 := Lib.hid (iw_yes c 0 2 h1.1 h1.2)
    by_cases h2 : 0 ≤ n ∧ n ≤ 255
    · have H2 := Lib.hid (iw_yes n 0 255 h2.1 h2.2)
      by_cases h3 : r.size ≤ 5000
      · have hd5 : decide (5000 < r.size) = false := by simp; omega
        have hd5' : decide ((5000 : Int) < (r.size : Int)) = false := by simp; omega
        have HY := Lib.hid (fun h => paB_yes (c := c) (n := n) (r := r) (l := l) ⟨h, h1, h2, h3⟩)
        clear h1 h2
        go_enter Try.func32, Try.ntmps32
        go_wp2_with fail
        refine (H1.out _).mono ?_
        rintro e w' ⟨rfl, rfl⟩
        go_wp2_with fail
        refine (H2.out _).mono ?_
        rintro e w' ⟨rfl, rfl⟩
        go_wp2
        go_loopg [3, 25] l.length (fun gh v3 v25 wx => ∃ k : Nat, k ≤ l.length ∧ gh = l.length - k ∧ v3 = .int .i64 (befI l k) ∧ v25 = .int .i64 (k : Int) ∧ PaTo r.size l k ∧ Box wx w.heap.size (paL c n r (.slice A l.length k0)) ∧ Below w.heap.size w wx)
        case atStart => exact ⟨0, by omega, rfl, rfl, rfl, fun i hi => absurd hi (Nat.not_lt_zero _), BX.out, BW.out⟩
        case round =>
          obtain ⟨k, hk, rfl, rfl, rfl, hto, hbox, hbel⟩ := hrel
          have HTO := Lib.hid hto
          have HBX := Lib.hid hbox
          have HB := Lib.hid hbel
          obtain ⟨b0, b1, b2, b3⟩ := hbox.fourP
          by_cases hlt : k < l.length
          · have hd : decide (k < l.length) = true := by simp; omega
            have hd' : decide ((k : Int) < (l.length : Int)) = true := by simp; omega
            rcases HI.out _ hbel with h0 | ⟨b, off, rfl, hb, hc⟩
            · omega
            · have hck := hc k hlt
              have hgk := Lib.hid (show l.getD k 0 = l[k] by simp [List.getD_eq_getElem?_getD, hlt])
              have hbb := hto.bef
              have hw1 : IntKind.i64.wrap ((r.size : Int) - 1) = (r.size : Int) - 1 := IntWalk.i64_in _ (by omega)
              have hw2 : IntKind.i64.wrap (befI l k + 1) = befI l k + 1 := IntWalk.i64_in _ (by omega)
              have HSU := Lib.hid (befI_succ l k)
              by_cases hin : befI l k + 1 ≤ l[k] ∧ l[k] ≤ (r.size : Int) - 1
              · have HIN := Lib.hid (iw_yes l[k] (befI l k + 1) ((r.size : Int) - 1) hin.1 hin.2)
                have HN := Lib.hid (hto.next (by rw [hgk.out]; exact hin))
                rw [hgk.out] at HSU
                generalize befI l k = x at *
                generalize l[k] = y at *
                clear hin hto hc hbel hbox
                go_wp2_with fail
                refine (HIN.out _).mono ?_
                rintro e w' ⟨rfl, rfl⟩
                go_wp2
                go_roundg (l.length - (k + 1))
                case measure => omega
                case rel => exact ⟨k + 1, by omega, rfl, by rw [HSU.out], by go_num, HN.out, HBX.out, HB.out⟩
              · have HIN := Lib.hid (iw_no l[k] (befI l k + 1) ((r.size : Int) - 1) hin)
                have HV := Lib.hid (paB_no (c := c) (n := n) (r := r) (l := l) (fun h => hin (by have := h.1.at hlt; rw [hgk.out] at this; exact this)))
                generalize befI l k = x at *
                generalize l[k] = y at *
                clear hin hto hc hbel hbox
                go_wp2_with fail
                refine (HIN.out _).mono ?_
                rintro e w' ⟨rfl, rfl⟩
                go_wp2
                go_ret
                exact ⟨by rw [HV.out]; first | done | rfl, HB.out⟩
          · obtain rfl : k = l.length := by omega
            have hd : decide (l.length < l.length) = false := by simp
            have hd' : decide ((l.length : Int) < (l.length : Int)) = false := by simp
            have HV := Lib.hid (HY.out hto)
            clear hto hbel hbox
            go_wp2
            go_ret
            exact ⟨by rw [HV.out]; first | done | rfl, HB.out⟩
      · have hd5 : decide (5000 < r.size) = true := by simp; omega
        have hd5' : decide ((5000 : Int) < (r.size : Int)) = true := by simp; omega
        have HV := Lib.hid (paB_no (c := c) (n := n) (r := r) (l := l) (fun h => h3 h.2.2.2))
        clear h1 h2
        go_enter Try.func32, Try.ntmps32
        go_wp2_with fail
        refine (H1.out _).mono ?_
        rintro e w' ⟨rfl, rfl⟩
        go_wp2_with fail
        refine (H2.out _).mono ?_
        rintro e w' ⟨rfl, rfl⟩
        go_wp2
        go_ret
        exact ⟨by rw [HV.out]; first | done | rfl, BW.out⟩
    · have H2 := Lib.hid (iw_no n 0 255 h2)
      have HV := Lib.hid (paB_no (c := c) (n := n) (r := r) (l := l) (fun h => h2 h.2.2.1))
      clear h1 h2
      go_enter Try.func32, Try.ntmps32
      go_wp2_with fail
      refine (H1.out _).mono ?_
      rintro e w' ⟨rfl, rfl⟩
      go_wp2_with fail
      refine (H2.out _).mono ?_
      rintro e w' ⟨rfl, rfl⟩
      go_wp2
      go_ret
      exact ⟨by rw [HV.out]; first | done | rfl, BW.out⟩
  · have H1 := Lib.hid (iw_no c 0 2 h1)
    have HV := Lib.hid (paB_no (c := c) (n := n) (r := r) (l := l) (fun h => h1 h.2.1))
    clear h1
    go_enter Try.func32, Try.ntmps32
    go_wp2_with fail
    refine (H1.out _).mono ?_
    rintro e w' ⟨rfl, rfl⟩
    go_wp2
    go_ret
    exact ⟨by rw [HV.out]; first | done | rfl, BW.out⟩
end Go.Proofs.Ytegahdlfjdjcaaa
