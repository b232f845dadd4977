/- What this text proves: the drawn list of orders: at most thirteen orders. -/
import Derived.Test.YtebfefkknaalpaaDrawO
namespace Go.Proofs.Ytebfefkknaalpaa
open Go.ChangeShapes Go.WideShapes Go.ChangeAt Go.RowKit
set_option linter.unusedVariables false

theorem info_ord : (Try.prog.info? 27).map (fun i => (i.zero, i.size, i.bytes)) = some (some (orV 0 0 0 0), 4, 32) := by kernel_rfl
/-- Drawn orders, in a slice of the call's own. -/
def OrdersRes (w : World) (e : Ending) (w' : World) : Prop := ∃ (v : Value) (L : List Oq), L.length ≤ 13 ∧ (∀ p ∈ L, OqOk p) ∧ e = .returned v ∧ OwnR 27 4 w' w.heap.size v (L.map oqC) ∧ Below w.heap.size w w'

set_option maxHeartbeats 2000000 in
theorem draw_orders (A : Option Addr) (n c : Nat) (hn : n ≤ 1048576) (w : World) (hc : CodeOk w w.heap.size A n) :
    Calls Try.prog 15 #[.slice A n c] w (OrdersRes w) := by
  have Hn := Lib.hid (new_any A n c hn w hc)
  obtain ⟨ip, hip, hp0, hp1, hp2⟩ := info_parts info_ord
  have HIP := Lib.hid (And.intro hip (And.intro hp0 (And.intro hp1 hp2)))
  clear hc hip hp0 hp1 hp2
  go_enter Try.func15, Try.ntmps15
  go_wp2_with fail
  refine Hn.out.mono ?_
  rintro e w1 ⟨rfl, hc1, hb1⟩
  have HB := Lib.hid hb1
  have hlt1 := hc1.lt
  have E1 := Lib.hid (show OwnR 27 4 (w1.alloc (.cells #[] 27)) w1.heap.size (.slice (some ⟨w1.heap.size, 0, none⟩) 0 0) [] from OwnR.empty w1 w1.heap.size (Nat.le_refl _))
  have C1 := hc1.more ((Below.refl w1.heap.size w1).alloc (Nat.le_refl _) (.cells #[] 27)) hlt1
  have G1 := Lib.hid (World.grownBy_alloc w1 (.cells #[] 27) (some w.heap.size))
  clear hb1
  go_wp2_with fail
  refine (below_any _ _ 14 (by decide) C1).mono ?_
  rintro e w2 ⟨x, hx0, hx1, _, rfl, hc2, hg2⟩
  obtain ⟨m, rfl⟩ := Int.eq_ofNat_of_zero_le hx0
  have hm := hx1 (by decide)
  have E2 := Lib.hid (show OwnR 27 4 w2 w1.heap.size (.slice (some ⟨w1.heap.size, 0, none⟩) 0 0) [] from OwnR.grown E1.out hg2 (fun k hk e => by
    have e2 : w1.heap.size = k := by simpa [Value.ownBlock] using hk
    injection e with e
    omega))
  have G2 := Lib.hid (grown_trans G1.out hg2)
  have C2 := Lib.hid hc2
  obtain ⟨g, hge⟩ : ∃ g, w.heap.size = g := ⟨_, rfl⟩
  have hle : g ≤ w1.heap.size := by omega
  simp only [hge] at C2 G2 hlt1
  have Hge := Lib.hid hge
  clear hx1 hc1 C1 G1 E1 hg2 hc2
  simp only [hge]
  clear hge
  go_wp2
  go_loopg [4, 5] m (fun gx v4 v5 wx => ∃ (gh : Nat) (L : List Oq), gh = gx ∧ L.length + gh = m ∧ v5 = .int .i64 (gh : Int) ∧ (∀ p ∈ L, OqOk p) ∧ OwnR 27 4 wx w1.heap.size v4 (L.map oqC) ∧ CurB wx g ∧ w1.grownBy wx (some g))
  case atStart => exact ⟨m, [], rfl, by simp, rfl, (fun p hp => by cases hp), E2.out, C2.out, G2.out⟩
  case round =>
    obtain ⟨gh, L, rfl, hL, rfl, hgood, hown, hcu, hgr⟩ := hrel
    have HO := Lib.hid hown
    have HG := Lib.hid hgr
    have HGD := Lib.hid hgood
    have hsz := hgr.size
    clear hown hgr hgood E2 C2 G2
    by_cases h0 : 0 < gh
    · obtain ⟨j, rfl⟩ : ∃ j, gh = j + 1 := ⟨gh - 1, by omega⟩
      go_wp2_with fail
      refine (below_any _ g 20 (by decide) hcu).mono ?_
      rintro e w3 ⟨t, ht0, ht1, _, rfl, hc3, hg3⟩
      obtain ⟨t, rfl⟩ := Int.eq_ofNat_of_zero_le ht0
      have ht := ht1 (by decide)
      clear ht1
      go_wp2_with fail
      refine (order_draw _ g t (by omega) hc3).mono ?_
      rintro e w4 ⟨p, hp, rfl, hc4, hg4⟩
      have hg34 := grown_trans hg3 hg4
      have O3 := Lib.hid (show OwnR 27 4 w4 w1.heap.size u4 (L.map oqC) from OwnR.grown HO.out hg34 (fun k hk e => by
        have e2 := (OwnR.upto HO.out k hk).1
        injection e with e
        omega))
      have hsz3 : w1.heap.size ≤ w4.heap.size := Nat.le_trans hsz hg34.size
      have G3 := Lib.hid (grown_trans HG.out hg34)
      have HP := Lib.hid hp
      clear hg3 hg4 hg34 hp HO HG hc3 ht
      go_wp2_with (at_builtin; go_loud (refine app_row 27 24 4 32 (orV 0 0 0 0) ip w4 rfl _ _ rfl Try.underlying24 HIP.out.1 HIP.out.2.1 HIP.out.2.2.1 HIP.out.2.2.2 rfl (by decide) (by decide) w1.heap.size u4 (L.map oqC) (oqC p) rfl (by intro u hu; simp at hu; rcases hu with rfl | rfl | rfl | rfl <;> rfl) rfl O3.out 27 1 rfl (by simp; omega) hsz3 ?_))
      intro v' w' hown' _ hbel' hsz'
      have O4 := Lib.hid (show OwnR 27 4 w' w1.heap.size v' ((L ++ [p]).map oqC) from by
        rw [List.map_append]
        exact hown')
      have C4 := Lib.hid (hc4.more hbel' hlt1)
      have G4 := Lib.hid (grown_then_below G3.out hbel' (Nat.le_refl _))
      clear hown' hbel' O3 hc4 G3
      go_wp2
      go_roundg j
      case measure => omega
      case rel => exact ⟨j, L ++ [p], rfl, by simp; omega, by go_num, (fun y hy => by
        rcases List.mem_append.1 hy with h | h
        · exact HGD.out y h
        · rw [List.mem_singleton.1 h]; exact HP.out), O4.out, C4.out, G4.out⟩
    · obtain rfl : gh = 0 := by omega
      go_wp2
      go_ret
      have e := Hge.out
      subst e
      exact ⟨_, L, by omega, HGD.out, rfl, OwnR.lower HO.out (by omega), below_of_new HB.out HG.out (by omega)⟩
end Go.Proofs.Ytebfefkknaalpaa
