/- What this text proves: the drawn orbits are orbits, and the drawn requests are requests. -/
import Derived.Test.YtdfcamlnebcbpaaDrd
import Derived.Test.YtdfcamlnebcbpaaRqU
import Derived.Test.YtdfcamlnebcbpaaPlM
import Derived.Test.YtdfcamlnebcbpaaOrbM
import Derived.Test.YtdfcamlnebcbpaaRowG
import Derived.Test.YtdfcamlnebcbpaaEl8
import Derived.Test.YtdfcamlnebcbpaaStB
import Derived.Deep.LoopGhost
import Derived.Deep.RegionLaw
import Derived.Deep.Cut
import Derived.Deep.CutRange
import Derived.Deep.RegionHeld3
namespace Go.Proofs.Ytdfcamlnebcbpaa
open Go.ChangeShapes Go.WideShapes Go.ChangeAt Go.RowKit
set_option linter.unusedVariables false

def perW : List Int := [1, 5, 9, 20, 50]
theorem perW_ok (j : Nat) (h : j < 5) : ∃ m : Nat, perW.getD j 0 = (m : Int) ∧ 1 ≤ m ∧ m ≤ 50 := by
  have : ∀ k : Fin 5, ∃ m : Nat, perW.getD k.val 0 = (m : Int) ∧ 1 ≤ m ∧ m ≤ 50 := fun k => by
    match k with
    | ⟨0, _⟩ => exact ⟨1, rfl, by decide, by decide⟩
    | ⟨1, _⟩ => exact ⟨5, rfl, by decide, by decide⟩
    | ⟨2, _⟩ => exact ⟨9, rfl, by decide, by decide⟩
    | ⟨3, _⟩ => exact ⟨20, rfl, by decide, by decide⟩
    | ⟨4, _⟩ => exact ⟨50, rfl, by decide, by decide⟩
  exact this ⟨j, h⟩
theorem wrap_in {x : Int} (h : -9000000000000000000 ≤ x ∧ x ≤ 9000000000000000000) : wrap64 x = x ∧ IntKind.i64.wrap x = x := ⟨by unfold wrap64; omega, IntWalk.i64_in _ (by omega)⟩
set_option maxRecDepth 20000 in
set_option maxHeartbeats 4000000 in
theorem orb_draw (w : World) (g : Nat) (hcur : CurB w g) :
    Calls Try.prog 32 #[.pointer (some ⟨g, 0, none⟩)] w fun e w' => ∃ p s l : Int, OrbOk p s l ∧ p ≤ 50 ∧ e = .returned (obV p s l) ∧ CurB w' g ∧ w.grownBy w' (some g) := by
  have hlt := hcur.lt
  have C0 := hcur.more (((Below.refl w.heap.size w).alloc (Nat.le_refl _) (.cells (obL 0 0 0).toArray 25)).alloc (by simp) (.cells (perW.map (Value.int .i64)).toArray 3)) hlt
  have B0 := (Box.made w (obL 0 0 0) 25 _ rfl).alloc (.cells (perW.map (Value.int .i64)).toArray 3)
  have G0 := Lib.hid (grown_trans (World.grownBy_alloc w (.cells (obL 0 0 0).toArray 25) (some g)) (World.grownBy_alloc _ (.cells (perW.map (Value.int .i64)).toArray 3) (some g)))
  have HPICK := Lib.hid (pickI_at ((w.alloc (.cells (obL 0 0 0).toArray 25)).alloc (.cells (perW.map (Value.int .i64)).toArray 3)) g (w.heap.size + 1) 5 5 (fun j => perW.getD j 0) (by decide) (by decide) (by simp) (by omega) (fun j hj => by have h := cells_at (w.alloc (.cells (obL 0 0 0).toArray 25)) perW j hj; simpa using h) C0)
  go_enter Try.func32, Try.ntmps32
  go_wp2_with fail
  refine HPICK.out.mono ?_
  rintro e w2 ⟨j, hj, rfl, C2, G2⟩
  obtain ⟨m, hm, hm1, hm2⟩ := perW_ok j hj
  rw [hm]
  have B2 := B0.grown G2 (fun e => by injection e with e; omega)
  have G2' := Lib.hid (grown_trans G0.out G2)
  clear G2 B0 G0 C0 HPICK hj hm
  go_wp2_with fail
  refine (below_any _ g m (by omega) C2).mono ?_
  rintro e w3 ⟨s, hs0, hs1, _, rfl, C3, G3⟩
  have HS := Lib.hid (hs1 (by omega))
  have B3 := B2.grown G3 (fun e => by injection e with e; omega)
  have G3' := Lib.hid (grown_trans G2'.out G3)
  clear hs1 C2 G3 B2 G2'
  go_wp2_with fail
  refine (below_any _ g m (by omega) C3).mono ?_
  rintro e w4 ⟨l, hl0, hl1, _, rfl, C4, G4⟩
  have HL := Lib.hid (hl1 (by omega))
  have B4 := B3.grown G4 (fun e => by injection e with e; omega)
  have G4' := Lib.hid (grown_trans G3'.out G4)
  clear hl1 C3 G4 B3 G3'
  have hlv : (1 : Int) + l ≤ m := by have := HL.out; omega
  obtain ⟨wl, wl'⟩ := wrap_in (x := 1 + l) (by omega)
  have HD := Lib.hid (show OrbOk m s (1 + l) ∧ (m : Int) ≤ 50 from ⟨⟨⟨by omega, by omega⟩, ⟨hs0, by have := HS.out; omega⟩, by omega, hlv⟩, by omega⟩)
  have x0 := B4.cell 0 (by simp)
  have x1 := B4.cell 1 (by simp)
  have x2 := B4.cell 2 (by simp)
  have xi := B4.ice
  have BF := Lib.hid (B4.all (us := obL m s (1 + l)) rfl)
  have CF := Lib.hid (C4.more (below_setCells (B := w.heap.size) (ga := w.heap.size) (Nat.le_refl _) (obL m s (1 + l)) 0 w4 (Below.refl _ _)) hlt)
  have GF := Lib.hid (grown_cellsD (g := w.heap.size) (obL m s (1 + l)) 0 w4 (Nat.le_refl _) _ G4'.out)
  have y1 : (w4.setCell ⟨w.heap.size, 0, none⟩ (.int .i64 (m : Int))).cell? ⟨w.heap.size, 1, none⟩ = some (.int .i64 0) := (B4.set 0 (by simp) (.int .i64 (m : Int))).cell 1 (by simp)
  have y2 : ((w4.setCell ⟨w.heap.size, 0, none⟩ (.int .i64 (m : Int))).setCell ⟨w.heap.size, 1, none⟩ (.int .i64 s)).cell? ⟨w.heap.size, 2, none⟩ = some (.int .i64 0) := ((B4.set 0 (by simp) (.int .i64 (m : Int))).set 1 (by simp) (.int .i64 s)).cell 2 (by simp)
  clear C4 B4 G4' hs0 hl0 hlv hm1 hm2
  go_wp2
  show bodyPost _ _ _ _ _ (w4.setCells w.heap.size 0 (obL m s (1 + l)))
  generalize w4.setCells w.heap.size 0 (obL m s (1 + l)) = WE at *
  have q0 := BF.out.cell 0 (by simp)
  have q1 := BF.out.cell 1 (by simp)
  have q2 := BF.out.cell 2 (by simp)
  refine bodyPost_ret_by (v := obV m s (1 + l)) ?_ rfl ⟨m, s, 1 + l, HD.out.1, HD.out.2, rfl, CF.out, GF.out⟩
  simp [results, Try.f32, go_sem] at q0 q1 q2 ⊢
  simp [q0, q1, q2]

theorem info_rqD : (Try.prog.info? 39).map (fun i => (i.zero, i.size, i.bytes)) = some (some (rqV 0 0 0 0), 4, 32) := by kernel_rfl
/-- Requests as they are drawn: valid, and with Ids that tell how many are still to come. -/
structure RqDraw (L : List Rq) (k : Nat) : Prop where
  ok : RqsOk L
  len : L.length + k ≤ 5
  tail : ∀ x ∈ L, (k : Int) < x.1 % 9
theorem RqDraw.nil (k : Nat) (h : k ≤ 5) : RqDraw [] k := ⟨⟨by simp, fun k h => absurd h (Nat.not_lt_zero k)⟩, by simpa using h, fun x hx => by simp at hx⟩
theorem RqDraw.snoc {L : List Rq} {k : Nat} (h : RqDraw L (k + 1)) {a r d n : Int} (ha : 0 ≤ a ∧ a < 3) (hr : 0 ≤ r ∧ r < 40) (hd : 0 ≤ d ∧ d < 50) (hn : 0 ≤ n ∧ n < 9) : RqDraw (L ++ [(a * 9 + ((k + 1 : Nat) : Int), r, r + d, 1 + n)]) k := by
  have hk : k + 1 ≤ 5 := by have := h.len; omega
  have hat : ∀ j, j < L.length → rqAt (L ++ [(a * 9 + ((k + 1 : Nat) : Int), r, r + d, 1 + n)]) j = rqAt L j := fun j hj => by simp [rqAt, List.getElem?_append_left hj]
  have hlast : rqAt (L ++ [(a * 9 + ((k + 1 : Nat) : Int), r, r + d, 1 + n)]) L.length = (a * 9 + ((k + 1 : Nat) : Int), r, r + d, 1 + n) := by simp [rqAt]
  refine ⟨⟨by rw [List.length_append]; have := h.len; simp; omega, ?_⟩, by rw [List.length_append]; have := h.len; simp; omega, fun x hx => ?_⟩
  · rw [List.length_append]
    have hup : RqUp (L ++ [(a * 9 + ((k + 1 : Nat) : Int), r, r + d, 1 + n)]) L.length := fun j hj => by
      obtain ⟨g1, g2⟩ := h.ok.2 j hj
      refine ⟨by rw [hat j hj]; exact g1, fun i hi => ?_⟩
      show (rqAt _ i).1 ≠ (rqAt _ j).1
      rw [hat j hj, hat i (by omega)]
      exact g2 i hi
    refine hup.succ (by rw [hlast]; exact ⟨⟨by show 0 ≤ a * 9 + ((k + 1 : Nat) : Int); omega, by show a * 9 + ((k + 1 : Nat) : Int) ≤ 255; omega⟩, ⟨hr.1, by show r ≤ 1000000; omega⟩, ⟨by show r ≤ r + d; omega, by show r + d ≤ min 1000000 (r + 2000); omega⟩, by show 1 ≤ 1 + n; omega, by show 1 + n ≤ 100; omega⟩) (fun i hi => ?_)
    show (rqAt _ i).1 ≠ (rqAt _ L.length).1
    rw [hat i hi, hlast]
    have hm : rqAt L i ∈ L := by simp [rqAt, hi]
    have := h.tail _ hm
    show (rqAt L i).1 ≠ a * 9 + ((k + 1 : Nat) : Int)
    intro e
    rw [e] at this
    omega
  · rcases List.mem_append.1 hx with hx | hx
    · have := h.tail x hx; omega
    · rw [List.mem_singleton.1 hx]
      show (k : Int) < (a * 9 + ((k + 1 : Nat) : Int)) % 9
      omega
/-- Drawn requests, in a slice of the call's own. -/
def ReqsRes (g : Nat) (w : World) (e : Ending) (w' : World) : Prop := ∃ (v : Value) (L : List Rq), RqsOk L ∧ L.length ≤ 5 ∧ e = .returned v ∧ OwnR 39 4 w' w.heap.size v (L.map rqC) ∧ CurB w' g ∧ w.grownBy w' (some g)
set_option maxHeartbeats 4000000 in
theorem reqs_draw (w : World) (g : Nat) (hcur : CurB w g) :
    Calls Try.prog 33 #[.pointer (some ⟨g, 0, none⟩)] w (ReqsRes g w) := by
  obtain ⟨ip, hip, hp0, hp1, hp2⟩ := info_parts info_rqD
  have HIP := Lib.hid (And.intro hip (And.intro hp0 (And.intro hp1 hp2)))
  clear hip hp0 hp1 hp2
  have hlt1 := hcur.lt
  have E1 := Lib.hid (show OwnR 39 4 (w.alloc (.cells #[] 39)) w.heap.size (.slice (some ⟨w.heap.size, 0, none⟩) 0 0) [] from OwnR.empty w w.heap.size (Nat.le_refl _))
  have C1 := hcur.more ((Below.refl w.heap.size w).alloc (Nat.le_refl _) (.cells #[] 39)) hlt1
  have G1 := Lib.hid (World.grownBy_alloc w (.cells #[] 39) (some g))
  go_enter Try.func33, Try.ntmps33
  go_wp2_with fail
  refine (below_any _ _ 6 (by decide) C1).mono ?_
  rintro e w2 ⟨x, hx0, hx1, _, rfl, hc2, hg2⟩
  obtain ⟨m, rfl⟩ := Int.eq_ofNat_of_zero_le hx0
  have hm := hx1 (by decide)
  have E2 := Lib.hid (show OwnR 39 4 w2 w.heap.size (.slice (some ⟨w.heap.size, 0, none⟩) 0 0) [] from OwnR.grown E1.out hg2 (fun k hk e => by
    have e2 : w.heap.size = k := by simpa [Value.ownBlock] using hk
    injection e with e
    omega))
  have G2 := Lib.hid (grown_trans G1.out hg2)
  have C2 := Lib.hid hc2
  clear hx1 C1 G1 E1 hg2 hc2 hcur
  go_wp2
  go_loopg [3, 4] m (fun gx v4 v5 wx => ∃ (gh : Nat) (L : List Rq), gh = gx ∧ v5 = .int .i64 (gh : Int) ∧ RqDraw L gh ∧ OwnR 39 4 wx w.heap.size v4 (L.map rqC) ∧ CurB wx g ∧ w.grownBy wx (some g))
  case atStart => exact ⟨m, [], rfl, rfl, RqDraw.nil m (by omega), E2.out, C2.out, G2.out⟩
  case round =>
    obtain ⟨gh, L, rfl, rfl, hL, hown, hcu, hgr⟩ := hrel
    have HO := Lib.hid hown
    have HG := Lib.hid hgr
    have HL := Lib.hid hL
    have hsz := hgr.size
    clear hown hgr hL E2 C2 G2
    by_cases h0 : 0 < gh
    · obtain ⟨j, rfl⟩ : ∃ j, gh = j + 1 := ⟨gh - 1, by omega⟩
      go_wp2_with fail
      refine (below_any _ g 40 (by decide) hcu).mono ?_
      rintro e w3 ⟨r, hr0, hr1, _, rfl, hc3, hg3⟩
      have HR := Lib.hid (And.intro hr0 (hr1 (by decide)))
      clear hr1 hr0
      go_wp2_with fail
      refine (below_any _ g 3 (by decide) hc3).mono ?_
      rintro e w4 ⟨a, ha0, ha1, _, rfl, hc4, hg4⟩
      have HA := Lib.hid (And.intro ha0 (ha1 (by decide)))
      clear ha1 ha0 hc3
      go_wp2_with fail
      refine (below_any _ g 50 (by decide) hc4).mono ?_
      rintro e w5 ⟨d, hd0, hd1, _, rfl, hc5, hg5⟩
      have HD := Lib.hid (And.intro hd0 (hd1 (by decide)))
      clear hd1 hd0 hc4
      go_wp2_with fail
      refine (below_any _ g 9 (by decide) hc5).mono ?_
      rintro e w6 ⟨n, hn0, hn1, _, rfl, hc6, hg6⟩
      have HN := Lib.hid (And.intro hn0 (hn1 (by decide)))
      clear hn1 hn0 hc5
      have hg36 := grown_trans (grown_trans (grown_trans hg3 hg4) hg5) hg6
      have O3 := Lib.hid (show OwnR 39 4 w6 w.heap.size u3 (L.map rqC) from OwnR.grown HO.out hg36 (fun k hk e => by
        have e2 := (OwnR.upto HO.out k hk).1
        injection e with e
        omega))
      have hsz3 : w.heap.size ≤ w6.heap.size := Nat.le_trans hsz hg36.size
      have G3 := Lib.hid (grown_trans HG.out hg36)
      have hlen := HL.out.len
      have HNW := Lib.hid (HL.out.snoc HA.out HR.out HD.out HN.out)
      obtain ⟨x1, hx1, hx1', hx2, hx2', hx3, hx3', hx4, hx4'⟩ : ∃ x1 : Int, wrap64 (a * 9) = x1 ∧ IntKind.i64.wrap (a * 9) = x1 ∧ wrap64 (x1 + ((j : Int) + 1)) = a * 9 + ((j + 1 : Nat) : Int) ∧ IntKind.i64.wrap (x1 + ((j : Int) + 1)) = a * 9 + ((j + 1 : Nat) : Int) ∧ wrap64 (r + d) = r + d ∧ IntKind.i64.wrap (r + d) = r + d ∧ wrap64 (1 + n) = 1 + n ∧ IntKind.i64.wrap (1 + n) = 1 + n := by
        have h1 := HA.out; have h2 := HR.out; have h3 := HD.out; have h4 := HN.out
        refine ⟨a * 9, (wrap_in (by omega)).1, (wrap_in (by omega)).2, ?_, ?_, (wrap_in (by omega)).1, (wrap_in (by omega)).2, (wrap_in (by omega)).1, (wrap_in (by omega)).2⟩
        · rw [(wrap_in (by omega)).1]; omega
        · rw [(wrap_in (by omega)).2]; omega
      obtain ⟨id, hid, hid2⟩ : ∃ id : Int, a * 9 + ((j + 1 : Nat) : Int) = id ∧ True := ⟨_, rfl, trivial⟩
      obtain ⟨dl, hdl⟩ : ∃ dl : Int, r + d = dl := ⟨_, rfl⟩
      obtain ⟨nd, hnd⟩ : ∃ nd : Int, 1 + n = nd := ⟨_, rfl⟩
      rw [hid, hdl, hnd] at HNW
      rw [hid] at hx2 hx2'
      replace hx3 := hx3.trans hdl
      replace hx3' := hx3'.trans hdl
      replace hx4 := hx4.trans hnd
      replace hx4' := hx4'.trans hnd
      clear hg3 hg4 hg5 hg6 hg36 HO HG hid hdl hnd hid2 HL
      go_wp2_with (at_builtin; go_loud (refine app_row 39 26 4 32 (rqV 0 0 0 0) ip w6 rfl _ _ rfl Try.underlying26 HIP.out.1 HIP.out.2.1 HIP.out.2.2.1 HIP.out.2.2.2 rfl (by decide) (by decide) w.heap.size u3 (L.map rqC) (rqC (id, r, dl, nd)) rfl (by intro u hu; simp at hu; rcases hu with rfl | rfl | rfl | rfl <;> rfl) rfl O3.out 39 1 rfl (by simp; omega) hsz3 ?_))
      intro v' w' hown' _ hbel' hsz'
      have O4 := Lib.hid (show OwnR 39 4 w' w.heap.size v' ((L ++ [(id, r, dl, nd)]).map rqC) from by
        rw [List.map_append]
        exact hown')
      have C4 := Lib.hid (hc6.more hbel' hlt1)
      have G4 := Lib.hid (grown_then_below G3.out hbel' (Nat.le_refl _))
      clear hown' hbel' O3 hc6 G3
      go_wp2
      go_roundg j
      case measure => omega
      case rel => exact ⟨j, _, rfl, by go_num, HNW.out, O4.out, C4.out, G4.out⟩
    · obtain rfl : gh = 0 := by omega
      go_wp2
      go_ret
      exact ⟨_, L, HL.out.ok, by have := HL.out.len; omega, rfl, HO.out, hcu, HG.out⟩

/-- Drawn work: a valid orbit, and valid requests in a slice of the call's own. -/
def WorkRes (w : World) (e : Ending) (w' : World) : Prop := ∃ (p s l : Int) (v : Value) (L : List Rq), OrbOk p s l ∧ p ≤ 50 ∧ RqsOk L ∧ L.length ≤ 5 ∧ e = .returned (.tuple #[obV p s l, v]) ∧ (rqU v L).P w' ∧ (∀ k, (rqU v L).F k → w.heap.size ≤ k) ∧ Below w.heap.size w w'
set_option maxRecDepth 20000 in
set_option maxHeartbeats 4000000 in
theorem work_draw (A : Option Addr) (n c : Nat) (hn : n ≤ 1048576) (w : World) (hc : CodeOk w w.heap.size A n) :
    Calls Try.prog 10 #[.slice A n c] w (WorkRes w) := by
  have W0 := (Below.refl _ w).alloc (Nat.le_refl _) (.cells (obL 0 0 0).toArray 25)
  have B0 := Lib.hid (Box.made w (obL 0 0 0) 25 _ rfl)
  have HN := Lib.hid (new_any A n c hn (w.alloc (.cells (obL 0 0 0).toArray 25)) (CodeOk.wider7 (hc.more W0) W0.size))
  have HW0 := Lib.hid W0
  clear W0 hc
  go_enter Try.func10, Try.ntmps10
  go_wp2_with fail
  refine HN.out.mono ?_
  rintro e w2 ⟨rfl, C2, hb2⟩
  have hs1 : (w.alloc (.cells (obL 0 0 0).toArray 25)).heap.size = w.heap.size + 1 := by simp
  rw [hs1] at C2
  have HD := Lib.hid (orb_draw w2 _ C2)
  have B2 := Lib.hid (B0.out.more hb2)
  have W2 := Lib.hid (HW0.out.trans (hb2.mono HW0.out.size))
  have Z2 : (w.alloc (.cells (obL 0 0 0).toArray 25)).heap.size ≤ w2.heap.size := hb2.size
  clear C2 hb2 HN B0 HW0
  go_wp2_with fail
  refine HD.out.mono ?_
  rintro e w3 ⟨p, s, l, ho, hp, rfl, C3, G3⟩
  have HOB := Lib.hid (And.intro ho hp)
  have B3 := Lib.hid (B2.out.grown G3 (fun e => by injection e with e; omega))
  have W3 := Lib.hid (W2.out.grown G3 W2.out.size (fun k hk => by injection hk with hk; omega))
  have Z3 := G3.size
  have hlt3 := C3.lt
  have Z3' : w.heap.size + 1 < w3.heap.size := hlt3
  have C4 : CurB (w3.alloc (.cells (obL p s l).toArray 25)).drew (w.heap.size + 1) := C3.more (((Below.refl w3.heap.size w3).alloc (Nat.le_refl _) (.cells (obL p s l).toArray 25)).drew) hlt3
  have X4 := (Box.made w3 (obL p s l) 25 _ rfl).more (Below.refl _ _).drew
  have B4 := (B3.out.alloc (.cells (obL p s l).toArray 25)).more (Below.refl _ _).drew
  have W4 := Lib.hid ((W3.out.alloc W3.out.size (.cells (obL p s l).toArray 25)).drew)
  have HRQ := Lib.hid (reqs_draw _ _ C4)
  have hsq : (w3.alloc (.cells (obL p s l).toArray 25)).drew.heap.size = w3.heap.size + 1 := by simp [World.drew]
  have c0 := (Box.made w3 (obL p s l) 25 _ rfl).cell 0 (by simp)
  have c1 := (Box.made w3 (obL p s l) 25 _ rfl).cell 1 (by simp)
  have c2 := (Box.made w3 (obL p s l) 25 _ rfl).cell 2 (by simp)
  clear ho hp C3 G3 B2 W2 HD B3
  go_upto_region 3 with fail
  go_region_law ((go_simp; go_at_call 33; (with_reducible refine HRQ.out.mono ?_); rintro e w5 ⟨v, L, h1, h2, rfl, h4, h5, h6⟩; (have X5 := X4.grown h6 (fun e => by injection e with e; omega)); (have B5 := B4.grown h6 (fun e => by injection e with e; omega)); (have k0 := X5.cell 0 (by simp)); (have k1 := X5.cell 1 (by simp)); (have k2 := X5.cell 2 (by simp)); (have r0 := B5.cell 0 (by simp)); (have r1 := B5.cell 1 (by simp)); (have r2 := B5.cell 2 (by simp)); (have ri := B5.ice); (have y1 : (w5.setCell ⟨w.heap.size, 0, none⟩ (.int .i64 p)).cell? ⟨w.heap.size, 1, none⟩ = some (.int .i64 0) := (B5.set 0 (by simp) (.int .i64 p)).cell 1 (by simp)); (have y2 : ((w5.setCell ⟨w.heap.size, 0, none⟩ (.int .i64 p)).setCell ⟨w.heap.size, 1, none⟩ (.int .i64 s)).cell? ⟨w.heap.size, 2, none⟩ = some (.int .i64 0) := ((B5.set 0 (by simp) (.int .i64 p)).set 1 (by simp) (.int .i64 s)).cell 2 (by simp))))
  all_goals
    have BF := Lib.hid (B5.all (us := obL p s l) rfl)
    have WF := Lib.hid (below_setCells (B := w.heap.size) (ga := w.heap.size) (Nat.le_refl _) (obL p s l) 0 w5 (W4.out.grown h6 W4.out.size (fun k hk => by injection hk with hk; omega)))
    have hv : ∀ k, v.ownBlock = some k → w3.heap.size + 1 ≤ k := fun k hk => by have := (OwnR.upto h4 k hk).1; omega
    have OF := Lib.hid (OwnR.touch (OwnR.lower h4 (Nat.zero_le _)) (touch_cells w.heap.size (obL p s l) 0 w5) (fun k hk e => by have := hv k hk; omega))
    have HV := Lib.hid hv
    have HRK := Lib.hid (And.intro h1 h2)
    clear h4 h5 h6 X5 B5 hv h1 h2
    go_wp2
    show bodyPost _ _ _ _ _ (w5.setCells w.heap.size 0 (obL p s l))
    generalize w5.setCells w.heap.size 0 (obL p s l) = WE at *
    have q0 := BF.out.cell 0 (by simp)
    have q1 := BF.out.cell 1 (by simp)
    have q2 := BF.out.cell 2 (by simp)
    refine bodyPost_ret_by (v := .tuple #[obV p s l, v]) ?_ rfl ⟨p, s, l, v, L, HOB.out.1, HOB.out.2, HRK.out.1, HRK.out.2, rfl, OF.out.toO, fun k hk => by have := HV.out k hk; omega, WF.out⟩
    simp [results, Try.f10, go_sem] at q0 q1 q2 ⊢
    simp [q0, q1, q2]

end Go.Proofs.Ytdfcamlnebcbpaa
