/- What this text proves: the contract of the program's EncodeBlock. -/
import Derived.Test.YtdponcannphboabDoorLnkO
import Derived.Test.YtdponcannphboabDoorLnkF
import Derived.Test.YtdponcannphboabDoorMkb
namespace Go.Proofs.YtdponcannphboabDoor
open Go.ChangeShapes Go.WideShapes Go.ChangeAt Go.RowKit
set_option linter.unusedVariables false

/-- An append in a region that has drawn its order, behind calls that have made memory of their own. -/
theorem step_app_far {ops : Array Oper} {o : Oper} {a : Act} {K : Act → World → Prop} {Q : Exit → Act → World → Prop} {E : Prop} (w W : World) (hb : Below w.heap.size w W) (cs : Array Value) (T : TypeId) (hgd : o.guard = none) (s x : Operand)
    (ho : o.op = .call { callee := .builtin .append, args := #[s, x], argTypes := #[26, 26] })
    (base : Nat) (v : Value) (l new : List UInt8) (hs : a.eval s = v) (m c : Nat)
    (hx : a.eval x = .slice (some ⟨W.heap.size, 0, none⟩) m c) (hm : m = new.length) (hown : OwnB w base v l) (hcs : cs = (new.map cellB).toArray)
    (hlen : l.length + new.length ≤ 1099511627776) (hbase : base ≤ w.heap.size)
    (h : ∀ v' w', OwnB w' base v' (l ++ new) → Below base w w' → w.heap.size ≤ w'.heap.size → K (a.put o.dst v') w') :
    if Region.wanted o (yielded ops a.tmps) = true then Oper.wp Tryd.prog o a (W.alloc (.cells cs T)) K Q else E := by
  have hb2 : Below w.heap.size w (W.alloc (.cells cs T)) := hb.alloc hb.size _
  refine step_app_bytes _ hgd s x ho base v l new hs W.heap.size m c hx hm (hown.more hb2) (fun j u hu => ?_) hlen (Nat.le_trans hbase hb2.size) (fun v' w' h1 h2 h3 => h v' w' h1 ((hb2.mono hbase).trans h2) (Nat.le_trans hb2.size h3))
  rw [World.cell?_alloc_at _ _ _ _ rfl, hcs]
  simpa using hu

set_option maxHeartbeats 4000000 in
theorem block_impl (s : ByteArray) (hs : s.size ≤ 1048576) (w : World) (ht : BitW w) :
    Calls Tryd.prog 31 #[.string s] w fun e w' => e = .returned (.string (encS s)) ∧ Below w.heap.size w w' := by
  have HT := Lib.hid (fun W (hb : Below w.heap.size w W) => ht.more hb)
  clear ht
  by_cases hbig : 200 < s.size
  · have HV := Lib.hid (show encS s = ⟨#[]⟩ by unfold encS; rw [if_neg (by omega)])
    have d : decide ((200 : Int) < (s.size : Int)) = true := by simp; omega
    go_enter Tryd.func31, Tryd.ntmps31
    go_wp2
    go_ret
    exact ⟨by rw [HV.out]; rfl, Below.refl _ _⟩
  · have d : decide ((200 : Int) < (s.size : Int)) = false := by simp; omega
    have HV := Lib.hid (show encS s = ⟨(encL s s.size).toArray⟩ by unfold encS; rw [if_pos (by omega)]; rfl)
    have hs6 : s.size ≤ 200 := by omega
    have hmk := fun W => make_room W (2 * s.size) (by omega)
    have h2s : ((2 * s.size : Nat) : Int) = 2 * (s.size : Int) := by omega
    rw [h2s] at hmk
    clear hbig
    go_enter Tryd.func31, Tryd.ntmps31
    go_wp2
    clear hmk h2s
    go_loopw [3, 14] (fun v i wr => ∃ k : Nat, k ≤ s.size ∧ i = .int .i64 (k : Int) ∧ OwnB wr w.heap.size v (encL s k) ∧ Below w.heap.size w wr) (fun _ i _ => s.size - (intOf i).toNat)
    case atStart => exact ⟨0, by omega, rfl, OwnB.made w _ _ (Nat.le_refl _) (by omega) _ (roomB_size _), (Below.refl _ _).alloc (Nat.le_refl _) _⟩
    case round =>
      obtain ⟨k, hk, rfl, hown, hbel⟩ := hrel
      have hsz := hbel.size
      by_cases hlt : k < s.size
      · have hd : decide (k < s.size) = true := by simp; omega
        have hb := UInt8.toNat_lt (s[k]'hlt)
        have eb := byteAt_of s k hlt
        obtain ⟨E1, b1, hE1, hb1, hw5⟩ : ∃ (E1 : Nat) (b1 : UInt8), encN (byteAt s k / 16) = E1 ∧ UInt8.ofNat (encN (byteAt s k / 16)) = b1 ∧ IntKind.u8.wrap (E1 : Int) = (b1.toNat : Int) := ⟨_, _, rfl, rfl, by
          have := encN_lt (byteAt s k / 16) (by omega)
          rw [UInt8.toNat_ofNat', IntKind.wrap_u8]
          omega⟩
        obtain ⟨E2, b2, hE2, hb2, hw6⟩ : ∃ (E2 : Nat) (b2 : UInt8), encN (byteAt s k % 16) = E2 ∧ UInt8.ofNat (encN (byteAt s k % 16)) = b2 ∧ IntKind.u8.wrap (E2 : Int) = (b2.toNat : Int) := ⟨_, _, rfl, rfl, by
          have := encN_lt (byteAt s k % 16) (by omega)
          rw [UInt8.toNat_ofNat', IntKind.wrap_u8]
          omega⟩
        have c1 : ∀ W : World, Below w.heap.size w W → Calls Tryd.prog 50 #[.int .i64 ((s[k].toNat : Int) / 16)] W fun e w' => e = .returned (.int .i64 (E1 : Int)) ∧ Below W.heap.size W w' := fun W hW => by
          have h := word_impl ((byteAt s k / 16 : Nat) : Int) W (HT.out W hW)
          rw [wordV_in _ (by omega), hE1, show ((byteAt s k / 16 : Nat) : Int) = (s[k].toNat : Int) / 16 from by omega] at h
          exact h
        have c2 : ∀ W : World, Below w.heap.size w W → Calls Tryd.prog 50 #[.int .i64 ((s[k].toNat : Int) % 16)] W fun e w' => e = .returned (.int .i64 (E2 : Int)) ∧ Below W.heap.size W w' := fun W hW => by
          have h := word_impl ((byteAt s k % 16 : Nat) : Int) W (HT.out W hW)
          rw [wordV_in _ (by omega), hE2, show ((byteAt s k % 16 : Nat) : Int) = (s[k].toNat : Int) % 16 from by omega] at h
          exact h
        have C1 := Lib.hid c1
        have C2 := Lib.hid c2
        have hst := encL_step s k
        rw [hb1, hb2] at hst
        have HST := Lib.hid hst
        have HO := Lib.hid hown
        have hsz2 : w.heap.size ≤ wr.drew.heap.size := hsz
        have HB := Lib.hid hbel
        have hl4 : (encL s k).length + 2 ≤ 1099511627776 := by rw [encL_len]; omega
        have hw1 : IntKind.i64.wrap (s[k].toNat : Int) = (s[k].toNat : Int) := IntWalk.i64_in _ (by omega)
        have hw2 : IntKind.i64.wrap ((s[k].toNat : Int) / 16) = (s[k].toNat : Int) / 16 := IntWalk.i64_in _ (by omega)
        have hw3 : IntKind.i64.wrap ((s[k].toNat : Int) % 16) = (s[k].toNat : Int) % 16 := IntWalk.i64_in _ (by omega)
        have hx3 : bits .and .u8 (s[k].toNat : Int) 15 = (s[k].toNat : Int) % 16 := bits_mask .u8 8 (by decide) wraps_u8 4 (by decide) _ (by omega) (by omega)
        clear c1 c2 hst hE1 hE2 hb1 hb2 eb hown hbel
        go_wp2
        go_region_law ((first
          | (refine step_app_far wr w2 (((Below.refl _ _).drew).trans (hb1.trans (hb2.mono hb1.size))) _ _ rfl (.tmp 17) (.tmp 32) rfl w.heap.size u3 (encL s k) [b1, b2] rfl 2 2 rfl rfl HO.out rfl hl4 hsz ?_; intro v' w' hown' hbel' hsz')
          | (go_simp; go_at_call 50; (first | (with_reducible refine (C1.out _ HB.out.drew).mono ?_; rintro e w1 ⟨rfl, hb1⟩) | (with_reducible refine (C2.out _ (HB.out.drew.trans (hb1.mono hsz2))).mono ?_; rintro e w2 ⟨rfl, hb2⟩)))))
        all_goals clear hw1 hw2 hw3
        all_goals go_wp2
        all_goals
          refine ⟨⟨k + 1, by omega, by go_num, ?_, HB.out.trans hbel'⟩, by simp [intOf]; omega⟩
          rw [HST.out]
          exact hown'
      · have hcv := conv_bytes wr _ _ _ hown
        have hd : decide (k < s.size) = false := by simp; omega
        obtain rfl : k = s.size := by omega
        clear hlt
        go_wp2
        go_ret
        exact ⟨by rw [HV.out]; rfl, hbel⟩
end Go.Proofs.YtdponcannphboabDoor
