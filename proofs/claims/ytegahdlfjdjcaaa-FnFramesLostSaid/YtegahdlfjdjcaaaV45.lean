/- What this text proves: the parts Draw, DrawP of the proof, each under its own words. -/
import Derived.Test.YtegahdlfjdjcaaaV44
import Derived.Test.YtegahdlfjdjcaaaV04
import Derived.Test.YtegahdlfjdjcaaaV02
import Derived.Test.YtegahdlfjdjcaaaV07
import Derived.Test.YtegahdlfjdjcaaaV29
import Derived.Deep.LoopGhost
/- What this text proves: the drawn texts have the length that is asked for. -/
namespace Go.Proofs.Ytegahdlfjdjcaaa
open Go.ChangeShapes Go.WideShapes Go.ChangeAt Go.RowKit
set_option linter.unusedVariables false

theorem OwnB.form {w : World} {base : Nat} {v : Value} {l : List UInt8} (h : OwnB w base v l) : ∃ A c, v = .slice A l.length c := by
  rcases h.2 with ⟨rfl, hn⟩ | ⟨g, cap, cur, rfl, _⟩
  · exact ⟨none, 0, by rw [hn]⟩
  · exact ⟨_, cap, rfl⟩
theorem OwnB.kept {w w' : World} {base g : Nat} {v : Value} {l : List UInt8} (h : OwnB w base v l) (hg : w.grownBy w' (some g)) (hlt : g < base) : OwnB w' base v l := by
  refine World.ownsRow.kept h hg ?_
  by_cases he : v.ownBlock = none
  · exact .inl he
  · refine .inr fun e => ?_
    have := (World.ownsRow.lt h g e).1
    omega
def lenV : Value → Nat
  | .slice _ n _ => n
  | _ => 0

def TextRes (m : Nat) (g : Nat) (w : World) (e : Ending) (w' : World) : Prop := ∃ s : ByteArray, s.size = m ∧ e = .returned (.string s) ∧ CurB w' g ∧ w.grownBy w' (some g)

set_option maxHeartbeats 1000000 in
theorem bytes_any (w : World) (g m : Nat) (hm : m ≤ 1048576) (hcur : CurB w g) :
    Calls Try.prog 80 #[.pointer (some ⟨g, 0, none⟩), .int .i64 m] w (TextRes m g w) := by
  have hlt := hcur.lt
  have Hcur := Lib.hid hcur
  clear hcur
  go_enter Try.func80, Try.ntmps80
  go_wp2
  go_loopw [5] (fun v wr => ∃ l : List UInt8, l.length ≤ m ∧ OwnB wr w.heap.size v l ∧ CurB wr g ∧ w.grownBy wr (some g)) (fun v _ => m - lenV v)
  case atStart => exact ⟨[], by simp, OwnB.empty w _ (Nat.le_refl _), Hcur.out.more ((Below.refl w.heap.size w).alloc (Nat.le_refl _) _) hlt, World.grownBy_alloc w _ _⟩
  case round =>
    obtain ⟨l, hl, hown, hcu, hgr⟩ := hrel
    obtain ⟨A, c, rfl⟩ := hown.form
    have hsz := hgr.size
    by_cases hlm : l.length < m
    · have hd : decide (l.length < m) = true := by simp; omega
      go_wp2_with fail
      refine (below_any _ g 256 (by decide) hcu).mono ?_
      rintro e w2 ⟨x, hx0, hx1, _, rfl, hc2, hg2⟩
      have hx2 := hx1 (by decide)
      have hown2 := hown.kept hg2 hlt
      clear hown
      generalize hv : Value.slice A l.length c = v at hown2 ⊢
      clear hv
      have hsz2 : w.heap.size ≤ w2.heap.size := Nat.le_trans hsz hg2.size
      go_wp2_with (at_builtin; refine app_bytes w2 rfl _ _ rfl w.heap.size v l [UInt8.ofNat x.toNat] rfl hown2 _ _ 1 1 rfl rfl ?c1 ?c2 hsz2 ?_)
      case c1 => simp [cellB, UInt8.toNat_ofNat']; omega
      case c2 => simp; omega
      intro v' w' hown' hbel' hsz'
      obtain ⟨A', c', rfl⟩ := hown'.form
      go_wp2
      refine ⟨⟨_, by simp; omega, hown', hc2.more hbel' hlt, grown_then_below (grown_trans hgr hg2) hbel' (Nat.le_refl _)⟩, by simp [lenV]; omega⟩
    · have hd : decide (l.length < m) = false := by simp; omega
      have hcv := conv_bytes wr _ _ _ hown
      have hlm2 := Lib.hid (show l.length = m by omega)
      clear hlm
      go_wp2
      go_ret
      exact ⟨⟨l.toArray⟩, by show l.toArray.size = m; simpa using hlm2.out, rfl, hcu, hgr⟩

def DrawnRes (m : Nat) (w : World) (e : Ending) (w' : World) : Prop := ∃ s : ByteArray, s.size ≤ m ∧ e = .returned (.string s) ∧ Below w.heap.size w w'
end Go.Proofs.Ytegahdlfjdjcaaa
/- What this text proves: the drawn packets are packets, none of which is idle. -/
namespace Go.Proofs.Ytegahdlfjdjcaaa
open Go.ChangeShapes Go.WideShapes Go.ChangeAt Go.RowKit
set_option linter.unusedVariables false

/-- A packet that is not idle. -/
structure PkGood (p : Pk) : Prop where
  a0 : 0 ≤ p.1
  a1 : p.1 < 15
  q0 : 0 ≤ p.2.1
  q1 : p.2.1 ≤ 65535
  d : p.2.2.size ≤ 40
theorem pick_of (w : World) (g b n c : Nat) (f : Nat → Int) (hn0 : 0 < n) (hn : n ≤ 1000) (hb : b < w.heap.size) (hbg : b ≠ g)
    (hcell : ∀ j, j < n → w.cell? ⟨b, j, none⟩ = some (.int .i64 (f j))) (hcur : CurB w g) :
    Calls Try.prog 81 #[.pointer (some ⟨g, 0, none⟩), .slice (some ⟨b, 0, none⟩) n c] w fun e w' => ∃ j, j < n ∧ e = .returned (.int .i64 (f j)) ∧ CurB w' g ∧ w.grownBy w' (some g) := by
  have Hc := Lib.hid hcell
  clear hcell
  go_enter Try.func81, Try.ntmps81
  go_wp2_with fail
  refine (below_any _ g n (by omega) hcur).mono ?_
  rintro e w1 ⟨x, hx0, hx1, hx2, rfl, hc1, hg1⟩
  have hx3 := hx1 (by omega)
  clear hx1 hx2
  obtain ⟨j, rfl⟩ := Int.eq_ofNat_of_zero_le hx0
  have hj : j < n := by omega
  have cj : w1.cell? ⟨b, j, none⟩ = some (.int .i64 (f j)) := hg1.cell (Hc.out j hj) (fun e => by injection e with e; exact hbg e)
  go_wp2
  go_ret
  exact ⟨j, hj, rfl, hc1, hg1⟩
theorem grown_cellsN {g : Nat} {w : World} : ∀ (us : List Value) (o : Nat) (W : World), w.heap.size ≤ g → ∀ r, w.grownBy W r → w.grownBy (W.setCells g o us) r := by
  intro us
  induction us with
  | nil => intro o W _ r h; exact h
  | cons u us ih =>
    intro o W hg r h
    refine ih _ _ hg r ⟨h.os, h.tape, h.output, by simpa [World.setCell] using h.size, fun k hk hne => ?_⟩
    have hkg : ¬ g = k := by omega
    rw [← h.block k hk hne]
    simp [World.setCell, Array.getElem?_modify, hkg]
theorem below_cellsN {g n : Nat} {w : World} (us : List Value) (o : Nat) (W : World) (hg : n ≤ g) (h : Below n w W) : Below n w (W.setCells g o us) := below_setCells hg us o W h
def sizesP : List Int := [0, 1, 5, 20, 40]
theorem sizesP_ok (j : Nat) : ∃ m : Nat, sizesP.getD j 0 = (m : Int) ∧ m ≤ 40 := by
  by_cases h : j < 5
  · have : ∀ k : Fin 5, ∃ m : Nat, sizesP.getD k.val 0 = (m : Int) ∧ m ≤ 40 := fun k => by
      match k with
      | ⟨0, _⟩ => exact ⟨0, rfl, by decide⟩
      | ⟨1, _⟩ => exact ⟨1, rfl, by decide⟩
      | ⟨2, _⟩ => exact ⟨5, rfl, by decide⟩
      | ⟨3, _⟩ => exact ⟨20, rfl, by decide⟩
      | ⟨4, _⟩ => exact ⟨40, rfl, by decide⟩
    exact this ⟨j, h⟩
  · exact ⟨0, by rw [List.getD_eq_getElem?_getD, List.getElem?_eq_none (by show 5 ≤ j; omega)]; rfl, by decide⟩

set_option maxHeartbeats 1000000 in
theorem packet_draw (w : World) (g : Nat) (hcur : CurB w g) :
    Calls Try.prog 56 #[.pointer (some ⟨g, 0, none⟩)] w fun e w' => ∃ p : Pk, PkGood p ∧ e = .returned (pkV p.1 p.2.1 p.2.2) ∧ CurB w' g ∧ w.grownBy w' (some g) := by
  have hlt := hcur.lt
  have C1 := hcur.more ((Below.refl w.heap.size w).alloc (Nat.le_refl _) (.cells (pkL 0 0 ⟨#[]⟩).toArray 28)) hlt
  have B1 := Box.made w (pkL 0 0 ⟨#[]⟩) 28 _ rfl
  have G1 := Lib.hid (World.grownBy_alloc w (.cells (pkL 0 0 ⟨#[]⟩).toArray 28) (some g))
  go_enter Try.func56, Try.ntmps56
  go_wp2_with fail
  refine (below_any _ g 15 (by decide) C1).mono ?_
  rintro e w2 ⟨a, ha0, ha1, _, rfl, C2, G2⟩
  have HA := Lib.hid (ha1 (by decide))
  have B2 := B1.grown G2 (fun e => by injection e with e; omega)
  have G2' := Lib.hid (grown_trans G1.out G2)
  clear ha1 C1 G2 B1 G1
  go_wp2_with fail
  refine (below_any _ g 65536 (by decide) C2).mono ?_
  rintro e w3 ⟨q, hq0, hq1, _, rfl, C3, G3⟩
  have HQ := Lib.hid (hq1 (by decide))
  have B3 := B2.grown G3 (fun e => by injection e with e; omega)
  have G3' := Lib.hid (grown_trans G2'.out G3)
  clear hq1 C2 G3 B2 G2'
  have hlt3 := C3.lt
  have hz3 : w.heap.size + 1 ≤ w3.heap.size := B3.lt
  have C4 := Lib.hid (show CurB (w3.alloc (.cells (sizesP.map (Value.int .i64)).toArray 3)) g from C3.more ((Below.refl w3.heap.size w3).alloc (Nat.le_refl _) _) hlt3)
  have B4 := B3.alloc (.cells (sizesP.map (Value.int .i64)).toArray 3)
  have G4 := Lib.hid (show w.grownBy (w3.alloc (.cells (sizesP.map (Value.int .i64)).toArray 3)) (some g) from grown_trans G3'.out (World.grownBy_alloc w3 _ _))
  have hcells : ∀ j, j < 5 → (w3.alloc (.cells (sizesP.map (Value.int .i64)).toArray 3)).cell? ⟨w3.heap.size, j, none⟩ = some (.int .i64 (sizesP.getD j 0)) := fun j hj => by
    rw [World.cell?_alloc_at _ _ _ _ rfl]
    have hl : j < sizesP.length := hj
    simp [List.getD_eq_getElem?_getD, List.getElem?_eq_getElem hl]
  have HPICK := Lib.hid (pick_of (w3.alloc (.cells (sizesP.map (Value.int .i64)).toArray 3)) g w3.heap.size 5 5 (fun j => sizesP.getD j 0) (by decide) (by decide) (by simp) (by omega) hcells C4.out)
  clear hcells
  go_wp2_with fail
  refine HPICK.out.mono ?_
  rintro e w5 ⟨j, hj, rfl, C5, G5⟩
  have B5 := B4.grown G5 (fun e => by injection e with e; omega)
  have G5' := Lib.hid (grown_trans G4.out G5)
  obtain ⟨m, hm, hm40⟩ := sizesP_ok j
  rw [hm]
  clear G5 B4 G4 C4 hm HPICK
  go_wp2_with fail
  refine (bytes_any _ g m (by omega) C5).mono ?_
  rintro e w6 ⟨s, hs, rfl, C6, G6⟩
  have B6 := B5.grown G6 (fun e => by injection e with e; omega)
  have G6' := Lib.hid (grown_trans G5'.out G6)
  have G7 := Lib.hid (show w.grownBy (w6.setCells w.heap.size 0 (pkL a q s)) (some g) from grown_cellsN (pkL a q s) 0 w6 (Nat.le_refl _) _ G6'.out)
  have C7 := Lib.hid (show CurB (w6.setCells w.heap.size 0 (pkL a q s)) g from C6.more (below_cellsN (n := w.heap.size) (pkL a q s) 0 w6 (Nat.le_refl _) (Below.refl _ _)) hlt)
  have BF := Lib.hid (B6.all (us := pkL a q s) rfl)
  have mi := B6.ice
  obtain ⟨m0, m1, m2⟩ := B6.three
  clear B5 G6 G5' C5 C6 G6'
  go_wp2
  show bodyPost Try.prog Try.f56 _ Exit.ret _ (w6.setCells w.heap.size 0 (pkL a q s))
  generalize w6.setCells w.heap.size 0 (pkL a q s) = WE at *
  obtain ⟨n0, n1, n2⟩ := BF.out.three
  refine bodyPost_ret_by (v := pkV a q s) ?_ rfl ⟨(a, q, s), ⟨ha0, HA.out, hq0, (show q ≤ 65535 by have := HQ.out; omega), (show s.size ≤ 40 by omega)⟩, rfl, C7.out, G7.out⟩
  simp [results, Try.f56, go_sem, n0, n1, n2]

theorem info_pktD : (Try.prog.info? 28).map (fun i => (i.zero, i.size, i.bytes)) = some (some (pkV 0 0 ⟨#[]⟩), 3, 32) := by kernel_rfl
/-- Drawn packets: from one to seven, in a slice of the call's own. -/
def PktsRes (w : World) (e : Ending) (w' : World) : Prop := ∃ (v : Value) (L : List Pk), 1 ≤ L.length ∧ L.length ≤ 7 ∧ (∀ p ∈ L, PkGood p) ∧ e = .returned v ∧ OwnP w' w.heap.size v L ∧ Below w.heap.size w w'

set_option maxHeartbeats 1000000 in
theorem draw_packets (A : Option Addr) (n c : Nat) (hn : n ≤ 1048576) (w : World) (hc : CodeOk w w.heap.size A n) :
    Calls Try.prog 16 #[.slice A n c] w (PktsRes w) := by
  have Hn := Lib.hid (new_any A n c hn w hc)
  obtain ⟨ip, hip, hp0, hp1, hp2⟩ := info_parts info_pktD
  have HIP := Lib.hid (And.intro hip (And.intro hp0 (And.intro hp1 hp2)))
  clear hc hip hp0 hp1 hp2
  go_enter Try.func16, Try.ntmps16
  go_wp2_with fail
  refine Hn.out.mono ?_
  rintro e w1 ⟨rfl, hc1, hb1⟩
  have HB := Lib.hid hb1
  have hlt1 := hc1.lt
  have E1 := Lib.hid (show OwnP (w1.alloc (.cells #[] 28)) w1.heap.size (.slice (some ⟨w1.heap.size, 0, none⟩) 0 0) [] from OwnR.empty w1 w1.heap.size (Nat.le_refl _))
  have C1 := hc1.more ((Below.refl w1.heap.size w1).alloc (Nat.le_refl _) (.cells #[] 28)) hlt1
  have G1 := Lib.hid (World.grownBy_alloc w1 (.cells #[] 28) (some w.heap.size))
  clear hb1
  go_wp2_with fail
  refine (below_any _ _ 7 (by decide) C1).mono ?_
  rintro e w2 ⟨x, hx0, hx1, _, rfl, hc2, hg2⟩
  obtain ⟨m, rfl⟩ := Int.eq_ofNat_of_zero_le hx0
  have hm := hx1 (by decide)
  have E2 := Lib.hid (show OwnP w2 w1.heap.size (.slice (some ⟨w1.heap.size, 0, none⟩) 0 0) [] from OwnR.grown E1.out hg2 (fun k hk e => by
    have e2 : w1.heap.size = k := by simpa [Value.ownBlock] using hk
    injection e with e
    omega))
  have G2 := Lib.hid (grown_trans G1.out hg2)
  have C2 := Lib.hid hc2
  clear hx1 hc1 C1 G1 E1 hg2 hc2
  generalize hge : w.heap.size = g at *
  have Hge := Lib.hid hge
  clear hge
  go_wp2
  go_loopg [4, 5] (m + 1) (fun gx v4 v5 wx => ∃ (gh : Nat) (L : List Pk), gh = gx ∧ L.length + gh = m + 1 ∧ v5 = .int .i64 (gh : Int) ∧ (∀ p ∈ L, PkGood p) ∧ OwnP wx w1.heap.size v4 L ∧ CurB wx g ∧ w1.grownBy wx (some g))
  case atStart => exact ⟨m + 1, [], rfl, by simp, by go_num, (fun p hp => by cases hp), E2.out, C2.out, G2.out⟩
  case round =>
    obtain ⟨gh, L, rfl, hL, rfl, hgood, hown, hcu, hgr⟩ := hrel
    have HO := Lib.hid hown
    have HG := Lib.hid hgr
    have HGD := Lib.hid hgood
    have hsz := hgr.size
    clear hown hgr hgood E2 C2 G2
    by_cases h0 : 0 < gh
    · obtain ⟨j, rfl⟩ : ∃ j, gh = j + 1 := ⟨gh - 1, by omega⟩
      go_wp2_with fail
      refine (packet_draw _ g hcu).mono ?_
      rintro e w3 ⟨p, hp, rfl, hc3, hg3⟩
      have O3 := Lib.hid (show OwnP w3 w1.heap.size u4 L from OwnR.grown HO.out hg3 (fun k hk e => by
        have e2 := (OwnR.upto HO.out k hk).1
        injection e with e
        omega))
      have hsz3 : w1.heap.size ≤ w3.heap.size := Nat.le_trans hsz hg3.size
      have G3 := Lib.hid (grown_trans HG.out hg3)
      have HP := Lib.hid hp
      clear hg3 hp HO HG
      go_wp2_with (at_builtin; go_loud (refine app_row 28 24 3 32 (pkV 0 0 ⟨#[]⟩) ip w3 rfl _ _ rfl Try.underlying24 HIP.out.1 HIP.out.2.1 HIP.out.2.2.1 HIP.out.2.2.2 rfl (by decide) (by decide) w1.heap.size u4 (L.map pkC) (pkC p) rfl (by intro u hu; simp at hu; rcases hu with rfl | rfl | rfl <;> rfl) rfl O3.out 28 1 rfl (by simp; omega) hsz3 ?_))
      intro v' w' hown' _ hbel' hsz'
      have O4 := Lib.hid (show OwnP w' w1.heap.size v' (L ++ [p]) from by
        show OwnR _ _ _ _ _ ((L ++ [p]).map pkC)
        rw [List.map_append]
        exact hown')
      have C4 := Lib.hid (hc3.more hbel' hlt1)
      have G4 := Lib.hid (grown_then_below G3.out hbel' (Nat.le_refl _))
      clear hown' hbel' O3 hc3 G3
      go_wp2
      go_roundg j
      case measure => omega
      case rel => exact ⟨j, L ++ [p], rfl, by simp; omega, by go_num, (fun y hy => by
        rcases List.mem_append.1 hy with h | h
        · exact HGD.out y h
        · rw [List.mem_singleton.1 h]; exact HP.out), O4.out, C4.out, G4.out⟩
    · obtain rfl : gh = 0 := by omega
      go_wp2
      go_ret
      have e := Hge.out
      subst e
      exact ⟨_, L, by omega, by omega, HGD.out, rfl, OwnR.lower HO.out (by omega), below_of_new HB.out HG.out (by omega)⟩
end Go.Proofs.Ytegahdlfjdjcaaa
