/- What this text proves: the contracts of the model's CommandBlocks and of the program's: the blocks of all commands that wait. -/
import Derived.Test.YtmmedhjmilgnbaaISo
import Derived.Test.YtmmedhjmilgnbaaCmd
import Derived.Test.YtmmedhjmilgnbaaSndB
import Derived.Test.YtmmedhjmilgnbaaBufS
import Derived.RegionTactic
import Derived.BigRegion
import Derived.Deep.RegionLaw
import Derived.Outline
namespace Go.Proofs.Ytmmedhjmilgnbaa
open Go.ChangeShapes Go.WideShapes Go.ChangeAt Go.RowKit
set_option linter.unusedVariables false

noncomputable def cbk (l : List Sn) : List ByteArray := l.map fun p => cmT 0 p.1 p.2
noncomputable def cbL (n b : Int) (l : List Sn) (d : Int) : List ByteArray := if snB n b l d = true then cbk l else []
theorem cbL_yes {n b d : Int} {l : List Sn} (h : snB n b l d = true) : cbL n b l d = cbk l := by unfold cbL; rw [if_pos h]
theorem cbL_no {n b d : Int} {l : List Sn} (h : snB n b l d = false) : cbL n b l d = [] := by unfold cbL; rw [h]; rfl
theorem cbL_len (n b : Int) (l : List Sn) (d : Int) : (cbL n b l d).length ≤ l.length := by
  unfold cbL
  split
  · unfold cbk; rw [List.length_map]; exact Nat.le_refl _
  · exact Nat.zero_le _
theorem cbk_take (l : List Sn) (k : Nat) (h : k < l.length) : cbk (l.take (k + 1)) = cbk (l.take k) ++ [cmT 0 l[k].1 l[k].2] := by
  unfold cbk
  rw [List.take_succ_eq_append_getElem h, List.map_append]
  rfl

theorem step_app_text {ops : Array Oper} {o : Oper} {a : Act} {K : Act → World → Prop} {Q : Exit → Act → World → Prop} {E : Prop} (W : World) (hgd : o.guard = none) (s x : Operand)
    (ho : o.op = .call { callee := .builtin .append, args := #[s, x], argTypes := #[54, 54] })
    (base : Nat) (v : Value) (l : List ByteArray) (t : ByteArray) (hs : a.eval s = v) (T : TypeId) (c : Nat)
    (hx : a.eval x = .slice (some ⟨W.heap.size, 0, none⟩) 1 c) (hown : OwnS W base v l)
    (hlen : l.length ≤ 1099511627) (hbase : base ≤ W.heap.size)
    (h : ∀ v' w', OwnS w' base v' (l ++ [t]) → Below base W w' → W.heap.size ≤ w'.heap.size → K (a.put o.dst v') w') :
    if Region.wanted o (yielded ops a.tmps) = true then Oper.wp Try.prog o a (W.alloc (.cells #[.string t] T)) K Q else E := by
  have hw : Region.wanted o (yielded ops a.tmps) = true := by simp [Region.wanted, hgd]
  rw [if_pos hw]
  obtain ⟨i, hi, hz0, hz1, hz2⟩ := info_parts info_str
  have hown' : (W.alloc (.cells #[.string t] T)).ownsRow base 9 1 v l.length (l.map Value.string) := World.ownsRow.alloc hown _
  refine wp_append_own _ s x 54 ho base 9 i (.string ⟨#[]⟩) 1 16 Try.underlying54 hi hz0 hz1 hz2 rfl (by decide) v l.length (l.map Value.string) hs hown'
    ⟨W.heap.size, 0, none⟩ 1 c [.string t] hx rfl (fun j u hu => ?_) (fun u hu => ?_) (by unfold maxLen; omega) (by omega) (by simp; omega) (fun v' w' hown2 hg _ => ?_)
  · rw [show (⟨W.heap.size, 0, none⟩ : Addr).add j = ⟨W.heap.size, j, none⟩ from by unfold Addr.add; split <;> simp_all]
    rw [World.cell?_alloc_at _ _ _ _ rfl]
    simpa using hu
  · obtain rfl : u = .string t := by simpa using hu
    rfl
  · have hz : W.heap.size ≤ w'.heap.size := by have := hg.size; simp at this; omega
    refine h v' w' ?_ ?_ hz
    · unfold OwnS
      rw [List.length_append, List.map_append]
      exact hown2
    · exact ((Below.refl base W).alloc hbase _).grown hg (by simp; omega) fun k hk => (World.ownsRow.lt hown' k hk).1

set_option maxHeartbeats 4000000 in
theorem cb_spec (n b d : Int) (A : Option Addr) (l : List Sn) (c : Nat) (hl : l.length ≤ 1100000) (hs : ∀ j (hj : j < l.length), l[j].2.size ≤ 1100000) (w : World) (h : SnsAt w w.heap.size A l) :
    Calls Try.prog 33 #[seV n b (.slice A l.length c) d] w fun e w' => ∃ v, e = .returned v ∧ OwnS w' w.heap.size v (cbL n b l d) ∧ Below w.heap.size w w' := by
  have HI := Lib.hid (fun W (hb : Below w.heap.size w W) => h.more hb)
  have HS := Lib.hid (fun W (hb : Below w.heap.size w W) => so_spec n b d A l c hl hs W ((h.more hb).raise hb.size))
  have BX := Lib.hid ((Box.made w (seL n b (.slice A l.length c) d) 42 _ rfl).alloc (.cells #[] 9))
  have BW := Lib.hid (((Below.refl _ w).alloc (Nat.le_refl _) (.cells (seL n b (.slice A l.length c) d).toArray 42)).alloc (by simp) (.cells #[] 9))
  have BO := Lib.hid (show OwnS ((w.alloc (.cells (seL n b (.slice A l.length c) d).toArray 42)).alloc (.cells #[] 9)) (w.heap.size + 1) (.slice (some ⟨w.heap.size + 1, 0, none⟩) 0 0) [] from by
    have h := OwnS.empty (w.alloc (.cells (seL n b (.slice A l.length c) d).toArray 42)) (w.heap.size + 1) (by simp)
    rw [show (w.alloc (.cells (seL n b (.slice A l.length c) d).toArray 42)).heap.size = w.heap.size + 1 by simp] at h
    exact h)
  have HZ := Lib.hid hs
  clear h hs
  cases hsb : snB n b l d with
  | true =>
    rw [hsb] at HS
    have HV := Lib.hid (cbL_yes hsb)
    have HT := Lib.hid (cbk_take l)
    have HE := Lib.hid (show ∀ k (hk : k < l.length), _ from fun k hk W => encC_spec 0 l[k].1 l[k].2 (HZ.out k hk) W)
    clear hsb
    go_enter Try.func33, Try.ntmps33
    go_wp2
    go_loopg [3, 4] l.length (fun gh v3 v4 wx => ∃ k : Nat, k ≤ l.length ∧ gh = l.length - k ∧ v4 = .int .i64 (k : Int) ∧ OwnS wx (w.heap.size + 1) v3 (cbk (l.take k)) ∧ Box wx w.heap.size (seL n b (.slice A l.length c) d) ∧ Below w.heap.size w wx)
    case atStart => exact ⟨0, by omega, rfl, rfl, by simpa [cbk] using BO.out, BX.out, BW.out⟩
    case round =>
      obtain ⟨k, hk, rfl, rfl, hown, hbox, hbel⟩ := hrel
      have HO := Lib.hid hown
      have HBX := Lib.hid hbox
      have HB := Lib.hid hbel
      obtain ⟨b0, b1, b2, b3⟩ := hbox.fourS
      by_cases hlt : k < l.length
      · have hd : decide (k < l.length) = true := by simp; omega
        have hd' : decide ((k : Int) < (l.length : Int)) = true := by simp; omega
        rcases HI.out _ hbel with h0 | ⟨bb, off, rfl, hb, hc⟩
        · omega
        · go_wp2_with fail
          refine (HS.out _ HB.out).mono ?_
          rintro e w1 ⟨rfl, hb1⟩
          have HO1 := Lib.hid (OwnS.more HO.out hb1)
          have HBX1 := Lib.hid (HBX.out.more hb1)
          have HB1 := Lib.hid (HB.out.trans (hb1.mono HB.out.size))
          clear hb1 b0 b1 b2 b3 hc hown hbox hbel HO HBX HB
          obtain ⟨b0, b1, b2, b3⟩ := HBX1.out.fourS
          rcases HI.out _ HB1.out with h0 | ⟨bb2, off2, hA2, hb2, hc2⟩
          · omega
          · obtain ⟨rfl, rfl⟩ : bb = bb2 ∧ off = off2 := by injection hA2 with h1; injection h1 with h2 h3; exact ⟨h2, h3⟩
            obtain ⟨c0, c1⟩ := hc2 k hlt
            have HEK := Lib.hid (HE.out k hlt)
            have HTK := Lib.hid (HT.out k hlt)
            have hlen : (cbk (l.take k)).length ≤ 1100000 := by unfold cbk; rw [List.length_map, List.length_take]; omega
            generalize cmT 0 l[k].1 l[k].2 = E at *
            generalize l[k].1 = x at *
            generalize l[k].2 = y at *
            clear hc2 hA2
            have hsz : w.heap.size + 1 ≤ w1.heap.size := HBX1.out.lt
            go_wp2
            go_region_law (first
              | (go_simp; go_at_call 31; (with_reducible refine (HEK.out _).mono ?_); rintro e w2 ⟨rfl, hb2'⟩)
              | (refine step_app_text w2 rfl _ _ rfl (w.heap.size + 1) _ (cbk (l.take k)) E rfl _ 1 rfl (OwnS.more (OwnS.more HO1.out (Below.refl _ _).drew) hb2') (by omega) (Nat.le_trans hsz hb2'.size) ?_; intro v3 w3 ho3 hb3 hz3))
            all_goals
              have HB3 := Lib.hid ((HB1.out.drew.trans (hb2'.mono HB1.out.drew.size)).trans (hb3.mono (by omega)))
              have HBX3 := Lib.hid ((HBX1.out.drew.more hb2').moreAt hb3 (Nat.lt_succ_self _) hz3)
              have HO3 := Lib.hid (show OwnS w3 (w.heap.size + 1) v3 (cbk (l.take (k + 1))) from by rw [HTK.out]; exact ho3)
              clear hb2' hb3 hz3 ho3 HB1 HBX1 HO1 b0 b1 b2 b3
              go_wp2
              go_roundg (l.length - (k + 1))
              case measure => omega
              case rel => exact ⟨k + 1, by omega, rfl, by go_num, HO3.out, HBX3.out, HB3.out⟩
      · obtain rfl : k = l.length := by omega
        have hd : decide (l.length < l.length) = false := by simp
        have hd' : decide ((l.length : Int) < (l.length : Int)) = false := by simp
        rw [List.take_of_length_le (Nat.le_refl _)] at hown
        have HO2 := Lib.hid (show OwnS wr w.heap.size u3 (cbL n b l d) from by rw [HV.out]; exact OwnS.lower hown (Nat.le_succ _))
        clear hown hbox hbel HO
        go_wp2
        go_ret
        exact ⟨_, rfl, HO2.out, HB.out⟩
  | false =>
    rw [hsb] at HS
    have HO2 := Lib.hid (show ∀ W v, OwnS W (w.heap.size + 1) v [] → OwnS W w.heap.size v (cbL n b l d) from fun W v ho => by rw [cbL_no hsb]; exact OwnS.lower ho (Nat.le_succ _))
    clear hsb
    obtain ⟨x0, x1, x2, x3⟩ := BX.out.fourS
    by_cases h0 : 0 < l.length
    · have hd : decide (0 < l.length) = true := by simp; omega
      have hd' : decide ((0 : Int) < (l.length : Int)) = true := by simp; omega
      go_enter Try.func33, Try.ntmps33
      go_wp2
      refine wp_loop_rounds 1 ?_
      rw [rounds_succ]
      go_wp2_with fail
      refine (HS.out _ BW.out).mono ?_
      rintro e w1 ⟨rfl, hb1⟩
      have HO1 := Lib.hid (HO2.out _ _ (OwnS.more BO.out hb1))
      have HB1 := Lib.hid (BW.out.trans (hb1.mono BW.out.size))
      clear hb1
      go_wp2
      go_ret
      exact ⟨_, rfl, HO1.out, HB1.out⟩
    · have hd : decide (0 < l.length) = false := decide_eq_false h0
      have hd' : decide ((0 : Int) < (l.length : Int)) = false := decide_eq_false (by omega)
      have HO1 := Lib.hid (HO2.out _ _ BO.out)
      go_enter Try.func33, Try.ntmps33
      go_wp2
      refine wp_loop_rounds 1 ?_
      rw [rounds_succ]
      go_wp2
      go_ret
      exact ⟨_, rfl, HO1.out, BW.out⟩
end Go.Proofs.Ytmmedhjmilgnbaa
