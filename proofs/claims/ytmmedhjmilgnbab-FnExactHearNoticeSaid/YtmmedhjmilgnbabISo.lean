/- What this text proves: the contract of the program's SenderOk. -/
import Derived.Test.YtmmedhjmilgnbabSnO
import Derived.Test.YtmmedhjmilgnbabISq
namespace Go.Proofs.Ytmmedhjmilgnbab
open Go.ChangeShapes Go.WideShapes Go.ChangeAt Go.RowKit
set_option linter.unusedVariables false

set_option maxHeartbeats 4000000 in
theorem so_impl (n b d : Int) (A : Option Addr) (l : List Sn) (c : Nat) (hl : l.length ≤ 1100000) (hs : ∀ j (hj : j < l.length), l[j].2.size ≤ 1100000) (w : World) (h : SnsAt w w.heap.size A l) :
    Calls Try.prog 29 #[seV n b (.slice A l.length c) d] w fun e w' => e = .returned (.bool (snB n b l d)) ∧ Below w.heap.size w w' := by
  have HI := Lib.hid (fun W (hb : Below w.heap.size w W) => h.more hb)
  have BX := Lib.hid (Box.made w (seL n b (.slice A l.length c) d) 38 _ rfl)
  have BW := Lib.hid ((Below.refl _ w).alloc (Nat.le_refl _) (.cells (seL n b (.slice A l.length c) d).toArray 38))
  clear h
  by_cases h1 : 0 ≤ n ∧ n ≤ 255
  · have H1 := Lib.hid (iq_yes n h1)
    by_cases h2 : 1 ≤ b ∧ b ≤ 20
    · have H2 := Lib.hid (iw_yes b 1 20 h2.1 h2.2)
      by_cases h3 : 0 ≤ d ∧ d ≤ 1000000
      · have H3 := Lib.hid (iw_yes d 0 1000000 h3.1 h3.2)
        by_cases h4 : (l.length : Int) ≤ b
        · have d4 : decide (b < (l.length : Int)) = false := by simp; omega
          have HD := Lib.hid (show SnHd n b d l from ⟨h1, h2, h3, h4⟩)
          obtain ⟨n0, n1⟩ := h1
          have hl20 : l.length ≤ 20 := by omega
          have HM := Lib.hid (seq_minus n (l.length : Int) ⟨n0, n1⟩ (by omega))
          clear h2 h3 h4
          go_enter Try.func29, Try.ntmps29
          go_wp2_with fail
          refine (H1.out _).mono ?_
          rintro e w' ⟨rfl, rfl⟩
          go_wp2_with fail
          refine (H2.out _).mono ?_
          rintro e w' ⟨rfl, rfl⟩
          go_wp2_with fail
          refine (H3.out _).mono ?_
          rintro e w' ⟨rfl, rfl⟩
          go_wp2_with fail
          refine (HM.out _).mono ?_
          rintro e w' ⟨rfl, rfl⟩
          go_wp2
          go_loopg [3, 39] l.length (fun gh v3 v4 wx => ∃ k : Nat, k ≤ l.length ∧ gh = l.length - k ∧ v4 = .int .i64 (k : Int) ∧ v3 = .int .i64 ((n - (l.length : Int) + (k : Int)) % 256) ∧ SnTo n l k ∧ Box wx w.heap.size (seL n b (.slice A l.length c) d) ∧ Below w.heap.size w wx)
          case atStart => exact ⟨0, by omega, rfl, rfl, by simp, fun i _ hi => absurd hi (Nat.not_lt_zero _), BX.out, BW.out⟩
          case round =>
            obtain ⟨k, hk, rfl, rfl, rfl, hto, hbox, hbel⟩ := hrel
            have HNC := Lib.hid (next_cnt ((n - (l.length : Int) + (k : Int)) % 256) (by omega))
            have HQ := Lib.hid (show ((n - (l.length : Int) + (k : Int)) % 256 + 1) % 256 = (n - (l.length : Int) + ((k : Int) + 1)) % 256 by omega)
            obtain ⟨q2, hq2⟩ : ∃ q2, (n - (l.length : Int) + ((k : Int) + 1)) % 256 = q2 := ⟨_, rfl⟩
            rw [HQ.out, hq2] at HNC
            have HQ2 := Lib.hid hq2
            clear hq2 HQ
            have HTO := Lib.hid hto
            have HBX := Lib.hid hbox
            have HB := Lib.hid hbel
            obtain ⟨b0, b1, b2, b3⟩ := hbox.fourS
            have hlt0 := hbox.lt
            by_cases hlt : k < l.length
            · have hd : decide (k < l.length) = true := by simp; omega
              have hd' : decide ((k : Int) < (l.length : Int)) = true := by simp; omega
              rcases HI.out _ hbel with h0 | ⟨bb, off, rfl, hb, hc⟩
              · omega
              · obtain ⟨c0, c1⟩ := hc k hlt
                have HS := Lib.hid (hs k hlt)
                by_cases hq : l[k].1 = (n - (l.length : Int) + (k : Int)) % 256
                · have hq1 : (l[k].1 != (n - (l.length : Int) + (k : Int)) % 256) = false := by simpa using hq
                  by_cases hz : 1 ≤ l[k].2.size ∧ l[k].2.size ≤ 40
                  · have H4 := Lib.hid (iw_yes (l[k].2.size : Int) 1 40 (by omega) (by omega))
                    have HN := Lib.hid (hto.succ hlt hq hz)
                    generalize l[k].1 = x at *
                    generalize l[k].2 = y at *
                    clear hq hz hto hc hbel hbox
                    go_wp2_with fail
                    refine (H4.out _).mono ?_
                    rintro e w' ⟨rfl, rfl⟩
                    go_wp2_with fail
                    refine (HNC.out _).mono ?_
                    rintro e w' ⟨rfl, rfl⟩
                    go_wp2
                    go_roundg (l.length - (k + 1))
                    case measure => omega
                    case rel => exact ⟨k + 1, by omega, rfl, by go_num, by rw [show ((k + 1 : Nat) : Int) = (k : Int) + 1 by omega, HQ2.out], HN.out, HBX.out.alloc _, HB.out.alloc HB.out.size _⟩
                  · have H4 := Lib.hid (iw_no (l[k].2.size : Int) 1 40 (by omega))
                    have HV := Lib.hid (snB_no (n := n) (b := b) (d := d) (l := l) (fun h => hz (h.2 k hlt hlt).2))
                    generalize l[k].1 = x at *
                    generalize l[k].2 = y at *
                    clear hq hz hto hc hbel hbox
                    go_wp2_with fail
                    refine (H4.out _).mono ?_
                    rintro e w' ⟨rfl, rfl⟩
                    go_wp2
                    go_ret
                    exact ⟨by rw [HV.out]; first | done | rfl, HB.out.alloc HB.out.size _⟩
                · have hq1 : (l[k].1 != (n - (l.length : Int) + (k : Int)) % 256) = true := by simpa using hq
                  have HV := Lib.hid (snB_no (n := n) (b := b) (d := d) (l := l) (fun h => hq (h.2 k hlt hlt).1))
                  generalize l[k].1 = x at *
                  generalize l[k].2 = y at *
                  clear hq hto hc hbel hbox
                  go_wp2
                  go_ret
                  exact ⟨by rw [HV.out]; first | done | rfl, HB.out.alloc HB.out.size _⟩
            · obtain rfl : k = l.length := by omega
              have hd : decide (l.length < l.length) = false := by simp
              have hd' : decide ((l.length : Int) < (l.length : Int)) = false := by simp
              have HV := Lib.hid (snB_yes (n := n) (b := b) (d := d) (l := l) ⟨HD.out, HTO.out⟩)
              clear hto hbel hbox
              go_wp2
              go_ret
              exact ⟨by rw [HV.out]; first | done | rfl, HB.out⟩
        · have d4 : decide (b < (l.length : Int)) = true := by simp; omega
          have HV := Lib.hid (snB_no (n := n) (b := b) (d := d) (l := l) (fun h => h4 h.1.2.2.2))
          clear h1 h2 h3 h4
          go_enter Try.func29, Try.ntmps29
          go_wp2_with fail
          refine (H1.out _).mono ?_
          rintro e w' ⟨rfl, rfl⟩
          go_wp2_with fail
          refine (H2.out _).mono ?_
          rintro e w' ⟨rfl, rfl⟩
          go_wp2_with fail
          refine (H3.out _).mono ?_
          rintro e w' ⟨rfl, rfl⟩
          go_wp2
          go_ret
          exact ⟨by rw [HV.out]; first | done | rfl, BW.out⟩
      · have H3 := Lib.hid (iw_no d 0 1000000 h3)
        have HV := Lib.hid (snB_no (n := n) (b := b) (d := d) (l := l) (fun h => h3 h.1.2.2.1))
        clear h1 h2 h3
        go_enter Try.func29, Try.ntmps29
        go_wp2_with fail
        refine (H1.out _).mono ?_
        rintro e w' ⟨rfl, rfl⟩
        go_wp2_with fail
        refine (H2.out _).mono ?_
        rintro e w' ⟨rfl, rfl⟩
        go_wp2_with fail
        refine (H3.out _).mono ?_
        rintro e w' ⟨rfl, rfl⟩
        go_wp2
        go_ret
        exact ⟨by rw [HV.out]; first | done | rfl, BW.out⟩
    · have H2 := Lib.hid (iw_no b 1 20 h2)
      have HV := Lib.hid (snB_no (n := n) (b := b) (d := d) (l := l) (fun h => h2 h.1.2.1))
      clear h1 h2
      go_enter Try.func29, Try.ntmps29
      go_wp2_with fail
      refine (H1.out _).mono ?_
      rintro e w' ⟨rfl, rfl⟩
      go_wp2_with fail
      refine (H2.out _).mono ?_
      rintro e w' ⟨rfl, rfl⟩
      go_wp2
      go_ret
      exact ⟨by rw [HV.out]; first | done | rfl, BW.out⟩
  · have H1 := Lib.hid (iq_no n h1)
    have HV := Lib.hid (snB_no (n := n) (b := b) (d := d) (l := l) (fun h => h1 h.1.1))
    clear h1
    go_enter Try.func29, Try.ntmps29
    go_wp2_with fail
    refine (H1.out _).mono ?_
    rintro e w' ⟨rfl, rfl⟩
    go_wp2
    go_ret
    exact ⟨by rw [HV.out]; first | done | rfl, BW.out⟩
end Go.Proofs.Ytmmedhjmilgnbab
