/- What this text proves: the contract of the model's DecodeBlock. -/
import Derived.Test.YtdponcannphboabDoorLnkE
import Derived.Test.YtdponcannphboabDoorLnkU
import Derived.Test.YtdponcannphboabDoorBuf
import Derived.Outline
namespace Go.Proofs.YtdponcannphboabDoor
open Go.ChangeShapes Go.WideShapes Go.ChangeAt Go.RowKit
set_option linter.unusedVariables false

def retB (r : ByteArray × Int × Bool) : Ending := .returned (.tuple #[.string r.1, .int .i64 r.2.1, .bool r.2.2])
def goodB (t : ByteArray) (i : Nat) : Prop := 0 ≤ (decN (byteAt t i)).1
def decL (t : ByteArray) (k : Nat) : List UInt8 := (List.range k).map fun j => UInt8.ofNat (decBy t j)
theorem decL_step (t : ByteArray) (k : Nat) : decL t (k + 1) = decL t k ++ [UInt8.ofNat (decBy t k)] := by
  unfold decL
  rw [List.range_succ, List.map_append]
  rfl
theorem decL_len (t : ByteArray) (k : Nat) : (decL t k).length = k := by simp [decL]
theorem goodB_shape (t : ByteArray) (i : Nat) (h : goodB t i) : ∃ n c : Nat, n < 16 ∧ c < 2 ∧ decN (byteAt t i) = ((n : Int), (c : Int)) := by
  rcases decN_shape (byteAt t i) with h1 | h1
  · exact h1
  · unfold goodB at h
    rw [h1] at h
    exact absurd h (by decide)
theorem badB_shape (t : ByteArray) (i : Nat) (h : ¬ goodB t i) : decN (byteAt t i) = (-1, 2) := by
  rcases decN_shape (byteAt t i) with ⟨n, c, _, _, h1⟩ | h1
  · exact absurd (show goodB t i by unfold goodB; rw [h1]; exact Int.natCast_nonneg _) h
  · exact h1
theorem decSum_in (t : ByteArray) (n : Nat) (h : ∀ i, i < n → goodB t i) : 0 ≤ decSum t n ∧ decSum t n ≤ n := by
  refine sumTo_le _ n fun i hi => ?_
  obtain ⟨a, c, _, hc, e⟩ := goodB_shape t i (h i hi)
  rw [e]
  show 0 ≤ (c : Int) ∧ (c : Int) ≤ 1
  omega

set_option maxHeartbeats 4000000 in
theorem unblock_spec (s : ByteArray) (hs : s.size ≤ 1048576) (w : World) :
    Calls Tryd.prog 32 #[.string s] w fun e w' => e = retB (decT s) ∧ Below w.heap.size w w' := by
  by_cases hodd : s.size % 2 = 0
  · have d2 : ((s.size : Int) % 2 != 0) = false := by simp; omega
    by_cases hbig : 400 < s.size
    · have d1 : decide ((400 : Int) < (s.size : Int)) = true := by simp; omega
      have HV := Lib.hid (decT_no (t := s) (fun h => by have := h.2.1; omega))
      clear hodd hbig
      go_enter Tryd.func32, Tryd.ntmps32
      go_wp2
      go_ret3
      exact ⟨by rw [HV.out]; rfl, Below.refl _ _⟩
    · have d1 : decide ((400 : Int) < (s.size : Int)) = false := by simp; omega
      have hsm : s.size ≤ 400 := by omega
      have hmod := Lib.hid hodd
      clear hodd hbig
      go_enter Tryd.func32, Tryd.ntmps32
      go_wp2
      go_loopw [5, 6, 7] (fun v q i wr => ∃ k : Nat, 2 * k ≤ s.size ∧ i = .int .i64 ((2 * k : Nat) : Int) ∧ q = .int .i64 (decSum s (2 * k)) ∧ OwnB wr w.heap.size v (decL s k) ∧ Below w.heap.size w wr ∧ ∀ j, j < 2 * k → goodB s j) (fun _ _ i _ => s.size - (intOf i).toNat)
      case atStart => exact ⟨0, by omega, rfl, rfl, OwnB.empty w _ (Nat.le_refl _), (Below.refl _ _).alloc (Nat.le_refl _) _, fun j hj => by omega⟩
      case round =>
        obtain ⟨k, hk, rfl, rfl, hown, hbel, hall⟩ := hrel
        have Hall := Lib.hid hall
        have hsum := decSum_in s (2 * k) hall
        clear hall
        generalize hie : 2 * k = i at *
        have Hie := Lib.hid hie
        clear hie
        have hsz := hbel.size
        by_cases hlt : i < s.size
        · have hd : decide (i < s.size) = true := by simp; omega
          have hlt1 : i + 1 < s.size := by have := hmod.out; have := Hie.out; omega
          have eH := byteAt_of s i hlt
          have eL := byteAt_of s (i + 1) hlt1
          have v0 := Lib.hid (fun w' : World => unword_spec ((byteAt s i : Nat) : Int) w')
          have v1 := Lib.hid (fun w' : World => unword_spec ((byteAt s (i + 1) : Nat) : Int) w')
          rw [unwV_in _ (byteAt_lt s i)] at v0
          rw [unwV_in _ (byteAt_lt s (i + 1))] at v1
          have hb0 := byteAt_lt s i
          have hb1 := byteAt_lt s (i + 1)
          have hw0 : IntKind.i64.wrap ((byteAt s i : Nat) : Int) = ((byteAt s i : Nat) : Int) := IntWalk.i64_in _ (by omega)
          have hw1 : IntKind.i64.wrap ((byteAt s (i + 1) : Nat) : Int) = ((byteAt s (i + 1) : Nat) : Int) := IntWalk.i64_in _ (by omega)
          by_cases g0 : goodB s i
          · by_cases g1 : goodB s (i + 1)
            · obtain ⟨a, c, ha, hc, hA⟩ := goodB_shape s i g0
              obtain ⟨b, d, hb, hdd, hB⟩ := goodB_shape s (i + 1) g1
              have G0 := Lib.hid g0
              have G1 := Lib.hid g1
              have hby : decBy s k = 16 * a + b := by
                unfold decBy
                rw [Hie.out, hA, hB]
                simp
              have hst := decL_step s k
              rw [hby] at hst
              have hss : decSum s (2 * (k + 1)) = decSum s i + (c : Int) + (d : Int) := by
                have e1 : decSum s (i + 2) = decSum s i + (decN (byteAt s i)).2 + (decN (byteAt s (i + 1))).2 := rfl
                rw [show 2 * (k + 1) = i + 2 from by have := Hie.out; omega, e1, hA, hB]
              have hbv := ofNat_nat (16 * a + b) (by omega)
              rw [hA] at v0
              rw [hB] at v1
              have HST := Lib.hid hst
              have HSS := Lib.hid hss
              clear hst hss hby hA hB g0 g1
              have dH : decide ((a : Int) < 0) = false := by simp
              have dL : decide ((b : Int) < 0) = false := by simp
              have hwb : IntKind.u8.wrap (16 * (a : Int) + (b : Int)) = 16 * (a : Int) + (b : Int) := wrapb _ (by omega) (by omega)
              have hl4 : (decL s k).length + 1 ≤ 1099511627776 := by rw [decL_len]; have := Hie.out; omega
              generalize decSum s i = S at *
              generalize UInt8.ofNat (16 * a + b) = yb at *
              simp only [retP] at v0 v1
              go_wp2_with fail
              refine (v0.out _).mono ?_
              rintro e w' ⟨rfl, rfl⟩
              go_wp2_with fail
              refine (v1.out _).mono ?_
              rintro e w' ⟨rfl, rfl⟩
              go_wp2_with (at_builtin; refine app_bytes wr rfl _ _ rfl w.heap.size u5 (decL s k) [yb] rfl hown _ _ 1 1 rfl rfl ?c1 ?c2 hsz ?_)
              case c1 => simp [cellB, hbv]
              case c2 => simp; omega
              intro v' w' hown' hbel' hsz'
              go_wp2
              refine ⟨⟨k + 1, by have := Hie.out; omega, ?_, by rw [HSS.out], by rw [HST.out]; exact hown', hbel.trans hbel', fun j hj => ?_⟩, by simp [intOf]; omega⟩
              · rw [show 2 * (k + 1) = i + 2 from by have := Hie.out; omega]
                go_num
              · have := Hie.out
                by_cases e : j = i
                · rw [e]; exact G0.out
                · by_cases e1 : j = i + 1
                  · rw [e1]; exact G1.out
                  · exact Hall.out j (by omega)
            · obtain ⟨a, c, ha, hc, hA⟩ := goodB_shape s i g0
              rw [hA] at v0
              rw [badB_shape s (i + 1) g1] at v1
              have HV := Lib.hid (decT_no (t := s) (fun h => g1 (h.2.2 (i + 1) hlt1)))
              have dH : decide ((a : Int) < 0) = false := by simp
              clear g0 g1 hA
              simp only [retP] at v0 v1
              go_wp2_with fail
              refine (v0.out _).mono ?_
              rintro e w' ⟨rfl, rfl⟩
              go_wp2_with fail
              refine (v1.out _).mono ?_
              rintro e w' ⟨rfl, rfl⟩
              go_wp2
              go_ret3
              exact ⟨by rw [HV.out]; rfl, hbel⟩
          · rw [badB_shape s i g0] at v0
            have HV := Lib.hid (decT_no (t := s) (fun h => g0 (h.2.2 i hlt)))
            clear g0
            generalize decN (byteAt s (i + 1)) = p at *
            obtain ⟨p1, p2⟩ := p
            simp only [retP] at v0 v1
            go_wp2_with fail
            refine (v0.out _).mono ?_
            rintro e w' ⟨rfl, rfl⟩
            go_wp2_with fail
            refine (v1.out _).mono ?_
            rintro e w' ⟨rfl, rfl⟩
            go_wp2
            go_ret3
            exact ⟨by rw [HV.out]; rfl, hbel⟩
        · have hcv := conv_bytes wr _ _ _ hown
          have hd : decide (i < s.size) = false := by simp; omega
          have hki : k = s.size / 2 := by have := Hie.out; have := hmod.out; omega
          obtain rfl : i = s.size := by have := Hie.out; have := hmod.out; omega
          have HV := Lib.hid (decT_yes (t := s) ⟨hmod.out, hsm, Hall.out⟩)
          have hLst : (⟨(decL s k).toArray⟩ : ByteArray) = bytesT (s.size / 2) (decBy s) := by rw [hki]; rfl
          have HL := Lib.hid hLst
          clear hlt hki hLst
          go_wp2
          go_ret3
          exact ⟨by rw [HV.out, ← HL.out]; rfl, hbel⟩
  · have d2 : ((s.size : Int) % 2 != 0) = true := by simp; omega
    have HV := Lib.hid (decT_no (t := s) (fun h => hodd h.1))
    clear hodd
    go_enter Tryd.func32, Tryd.ntmps32
    go_wp2
    go_ret3
    exact ⟨by rw [HV.out]; rfl, Below.refl _ _⟩
end Go.Proofs.YtdponcannphboabDoor
