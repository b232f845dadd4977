/- What this text proves: the parts Ofr of the proof, each under its own words. -/
import Derived.Test.YtebfefkknaalpaaDoorV06
import Derived.Test.YtebfefkknaalpaaDoorV07
/- What this text proves: the contracts of the model's OfferCommand and of the program's. -/
namespace Go.Proofs.YtebfefkknaalpaaDoor
open Go.ChangeShapes Go.WideShapes Go.ChangeAt Go.RowKit
set_option linter.unusedVariables false

noncomputable def ofB (n b : Int) (l : List Sn) (d : Int) (x : ByteArray) : Bool := snB n b l d && snB ((n + 1) % 256) b (l ++ [(n, x)]) d
noncomputable def ofN (n b : Int) (l : List Sn) (d : Int) (x : ByteArray) : Int := if ofB n b l d x = true then (n + 1) % 256 else n
noncomputable def ofL (n b : Int) (l : List Sn) (d : Int) (x : ByteArray) : List Sn := if ofB n b l d x = true then l ++ [(n, x)] else l
theorem of_yes {n b d : Int} {l : List Sn} {x : ByteArray} (h1 : SnOk n b l d) (h2 : SnOk ((n + 1) % 256) b (l ++ [(n, x)]) d) : ofB n b l d x = true ∧ ofN n b l d x = (n + 1) % 256 ∧ ofL n b l d x = l ++ [(n, x)] := by
  have h : ofB n b l d x = true := by unfold ofB; rw [snB_yes h1, snB_yes h2]; rfl
  exact ⟨h, by unfold ofN; rw [if_pos h], by unfold ofL; rw [if_pos h]⟩
theorem of_no {n b d : Int} {l : List Sn} {x : ByteArray} (h : ¬ (SnOk n b l d ∧ SnOk ((n + 1) % 256) b (l ++ [(n, x)]) d)) : ofB n b l d x = false ∧ ofN n b l d x = n ∧ ofL n b l d x = l := by
  have h : ofB n b l d x = false := by
    unfold ofB
    by_cases h1 : SnOk n b l d
    · rw [snB_yes h1, snB_no (fun h2 => h ⟨h1, h2⟩)]; rfl
    · rw [snB_no h1]; rfl
  exact ⟨h, by unfold ofN; rw [h]; rfl, by unfold ofL; rw [h]; rfl⟩
theorem ofL_len (n b : Int) (l : List Sn) (d : Int) (x : ByteArray) : (ofL n b l d x).length ≤ l.length + 1 := by
  unfold ofL
  split <;> simp
theorem next_any (n : Int) (hn : -9223372036854775808 ≤ n ∧ n ≤ 9223372036854775807) : ∃ m : Int, ∀ w : World, Calls Tryd.prog 18 #[.int .i64 n] w fun e w' => e = .returned (.int .i64 m) ∧ w = w' := by
  refine ⟨(wrap64 (n + 1)).tmod 256, fun w => ?_⟩
  obtain ⟨n0, n1⟩ := hn
  go_enter Tryd.func18, Tryd.ntmps18
  go_wp2
  go_ret
  exact ⟨rfl, rfl⟩
theorem rows_lit (W : World) (t : List Value) (T : TypeId) (g : Nat) (hg : g = W.heap.size) : RowsAt (W.alloc (.cells t.toArray T)) (some ⟨g, 0, none⟩) [t] := by
  refine .inr ⟨g, 0, rfl, fun j u hu => ?_⟩
  rw [Nat.zero_add, World.cell?_alloc_at _ _ _ _ hg]
  simpa using hu

set_option maxHeartbeats 8000000 in
theorem offer_impl_yes (n b d : Int) (A : Option Addr) (l : List Sn) (c : Nat) (x : ByteArray) (hl : l.length ≤ 1048577) (hs : ∀ j (hj : j < l.length), l[j].2.size ≤ 1100000) (hx : x.size ≤ 1100000) (w : World) (h : SnsAt w w.heap.size A l) (h1 : SnOk n b l d) (h2 : SnOk ((n + 1) % 256) b (l ++ [(n, x)]) d) :
    Calls Tryd.prog 7 #[seV n b (.slice A l.length c) d, .string x] w fun e w' => ∃ A1 c1, e = .returned (.tuple #[seV (ofN n b l d x) b (.slice A1 (ofL n b l d x).length c1) d, .bool (ofB n b l d x)]) ∧ OwnN w' w.heap.size (.slice A1 (ofL n b l d x).length c1) (ofL n b l d x) ∧ Below w.heap.size w w' := by
  have B2 := (Box.made w (seL n b (.slice A l.length c) d) 26 w.heap.size rfl).alloc (.cells (seL 0 0 (.slice none 0 0) 0).toArray 26)
  have B4 := Box.made (w.alloc (.cells (seL n b (.slice A l.length c) d).toArray 26)) (seL 0 0 (.slice none 0 0) 0) 26 (w.heap.size + 1) (by simp)
  have BB := ((Below.refl _ w).alloc (Nat.le_refl _) (.cells (seL n b (.slice A l.length c) d).toArray 26)).alloc (by simp) (.cells (seL 0 0 (.slice none 0 0) 0).toArray 26)
  have hz0 : ((w.alloc (.cells (seL n b (.slice A l.length c) d).toArray 26)).alloc (.cells (seL 0 0 (.slice none 0 0) 0).toArray 26)).heap.size = w.heap.size + 2 := by simp
  have HI := Lib.hid (fun W (hb : Below w.heap.size w W) => (h.more hb).raise hb.size)
  have HC := Lib.hid (fun W (hb : Below w.heap.size w W) => copy_impl n b d A l c (by omega) W ((h.more hb).raise hb.size))
  have HS := Lib.hid (fun W (hb : Below w.heap.size w W) => so_impl n b d A l c (by omega) hs W ((h.more hb).raise hb.size))
  have HS2 := Lib.hid (fun A2 c2 W B (ho : OwnN W B (.slice A2 (l ++ [(n, x)]).length c2) (l ++ [(n, x)])) (m : Int) => so_impl m b d A2 (l ++ [(n, x)]) c2 (by simp; omega) (fun j hj => by
    rw [List.getElem_append]
    split
    · exact hs _ _
    · simp; omega) W ho.ats)
  obtain ⟨i, hi, hq0, hq1, hq2⟩ := info_parts info_snt
  have Hi := Lib.hid hi
  have Hq0 := Lib.hid hq0
  have Hq1 := Lib.hid hq1
  have Hq2 := Lib.hid hq2
  clear h hi hq0 hq1 hq2 hs
  have HV := Lib.hid (of_yes (n := n) (b := b) (l := l) (d := d) (x := x) h1 h2)
  have hk2 := snB_yes h2
  rw [show snB n b l d = true from snB_yes h1] at HS
  have hn := h1.1.1
  have hnx := next_cnt n hn
  obtain ⟨L, hL⟩ : ∃ L, l ++ [(n, x)] = L := ⟨_, rfl⟩
  have HL := Lib.hid hL
  rw [hL] at HS2
  obtain ⟨M, hM⟩ : ∃ M, (n + 1) % 256 = M := ⟨_, rfl⟩
  have HM := Lib.hid hM
  rw [hM, hL] at HV hk2
  rw [hM] at hnx
  clear hL
  have HNX := Lib.hid hnx
  clear h1 h2 hnx hn
  go_enter Tryd.func7, Tryd.ntmps7
  go_wp2_with fail
  refine (HC.out _ BB).mono ?_
  rintro e w1 ⟨A1, c1, rfl, ho1, hb1⟩
  rw [hz0] at ho1
  have C2 := Lib.hid ((B2.more hb1).alloc (.cells (seL n b (.slice A1 l.length c1) d).toArray 26))
  have C4 := Lib.hid ((B4.more hb1).alloc (.cells (seL n b (.slice A1 l.length c1) d).toArray 26))
  have C6 := Lib.hid (Box.made w1 (seL n b (.slice A1 l.length c1) d) 26 w1.heap.size rfl)
  have hz1 : w.heap.size + 2 ≤ w1.heap.size := by have := hb1.size; omega
  have CB := Lib.hid (((BB.trans (hb1.mono BB.size)).alloc (Nat.le_trans (by omega) hz1) (.cells (seL n b (.slice A1 l.length c1) d).toArray 26)))
  have CO := Lib.hid (OwnR.more ho1 ((Below.refl _ _).alloc (Nat.le_refl _) (.cells (seL n b (.slice A1 l.length c1) d).toArray 26)))
  have CU := Lib.hid (OwnR.upto ho1)
  clear B2 B4 BB ho1 hb1 hz0
  obtain ⟨k0, k1, k2, k3⟩ := C2.out.fourS
  obtain ⟨t0, t1, t2, t3⟩ := C6.out.fourS
  go_wp2_with (at_builtin; go_loud (refine app_rows 48 24 2 24 (snV 0 ⟨#[]⟩) i _ rfl _ _ rfl Tryd.underlying24 Hi.out Hq0.out Hq1.out Hq2.out rfl (by decide) (by decide) (w.heap.size + 2) (.slice A1 l.length c1) (l.map snC) rfl (OwnR.more CO.out ((Below.refl _ _).alloc (Nat.le_refl _) _)) (some ⟨w1.heap.size + 1, 0, none⟩) [[.int .i64 n, .string x]] 1 rfl (by simp) (by simp [Value.oneCell']) (rows_lit _ [.int .i64 n, .string x] _ _ (by simp)) (by simp; omega) (by simp; omega) ?_))
  intro v3 w3 ho3 hg3 hw3
  have hs3 := hg3.size
  replace ho3 : OwnN w3 (w.heap.size + 2) v3 L := by
    rw [← HL.out]
    show OwnR _ _ _ _ _ ((l ++ [(n, x)]).map snC)
    rw [List.map_append]
    exact ho3
  obtain ⟨A3, c3, rfl⟩ := ho3.nform
  have hne3 : (Value.slice A3 L.length c3).ownBlock ≠ some w1.heap.size := by
    rcases hw3 with e | e
    · rw [e]; intro e2; have := CU.out _ e2; omega
    · rw [e]; intro e2; simp at e2; omega
  have hb3 := (Below.refl (w.heap.size + 2) _).grown hg3 (by simp; omega) (fun k hk => (CU.out k hk).1)
  have M2 := ((C2.out.alloc _).moreAt hb3 (by omega) hs3)
  have M4 := ((C4.out.alloc _).moreAt hb3 (by omega) hs3)
  have M6 := ((C6.out.alloc _).grown hg3 (by intro e2; have := CU.out _ e2; omega))
  have MB := (CB.out.alloc CB.out.size (.cells #[.int .i64 n, .string x] 48)).trans (hb3.mono (by omega))
  have hz3 : w1.heap.size + 1 ≤ w3.heap.size := by simp at hs3; omega
  obtain ⟨a0, a1, a2, a3⟩ := M2.fourS
  obtain ⟨b0, b1, b2, b3⟩ := M6.fourS
  have bi := M6.ice
  have N2 := M2.other (ga := w1.heap.size) (by omega) 2 (.slice A3 L.length c3)
  obtain ⟨f0, f1, f2, f3⟩ := N2.fourS
  have N4 := M4.other (ga := w1.heap.size) (by omega) 2 (.slice A3 L.length c3)
  have N6 := M6.set 2 (by simp) (.slice A3 L.length c3)
  have hn6 : Box (w3.setCell ⟨w1.heap.size, 2, none⟩ (.slice A3 L.length c3)) w1.heap.size (seL n b (.slice A3 L.length c3) d) := N6
  obtain ⟨g0, g1, g2, g3⟩ := hn6.fourS
  have gi := hn6.ice
  have NB := MB.setCell (p := ⟨w1.heap.size, 2, none⟩) (by simp; omega) (.slice A3 L.length c3)
  have NO := OwnR.away ho3 hne3 (j := 2) (.slice A3 L.length c3)
  have P2 := Lib.hid (N2.other (ga := w1.heap.size) (by omega) 0 (.int .i64 M))
  have P4 := Lib.hid (N4.other (ga := w1.heap.size) (by omega) 0 (.int .i64 M))
  have P6 := Lib.hid (show Box ((w3.setCell ⟨w1.heap.size, 2, none⟩ (.slice A3 L.length c3)).setCell ⟨w1.heap.size, 0, none⟩ (.int .i64 M)) w1.heap.size (seL M b (.slice A3 L.length c3) d) from hn6.set 0 (by simp) (.int .i64 M))
  have PB := Lib.hid (NB.setCell (p := ⟨w1.heap.size, 0, none⟩) (by simp; omega) (.int .i64 M))
  have PO := Lib.hid (OwnR.away NO hne3 (j := 0) (.int .i64 M))
  have hz4 : w1.heap.size + 1 ≤ ((w3.setCell ⟨w1.heap.size, 2, none⟩ (.slice A3 L.length c3)).setCell ⟨w1.heap.size, 0, none⟩ (.int .i64 M)).heap.size := by simp; omega
  go_wp2_with fail
  refine (HNX.out _).mono ?_
  rintro e w9 ⟨rfl, rfl⟩
  obtain ⟨p0, p1, p2, p3⟩ := P2.out.fourS
  obtain ⟨q0, q1, q2, q3⟩ := P6.out.fourS
  clear M2 M4 M6 MB N2 N4 N6 NB NO hb3 hg3 hw3 hs3 ho3 hn6
  clear C2 C4 C6 CB CO k0 k1 k2 k3 t0 t1 t2 t3
  clear hM
  go_wp2_with fail
  refine (HS.out _ PB.out).mono ?_
  rintro e w5 ⟨rfl, hb5⟩
  have R2 := Lib.hid (P2.out.more hb5)
  have R4 := Lib.hid (P4.out.more hb5)
  have R6 := Lib.hid (P6.out.more hb5)
  have RB := Lib.hid (PB.out.trans (hb5.mono PB.out.size))
  have RO := Lib.hid (OwnR.more PO.out hb5)
  have hz5 : w1.heap.size + 1 ≤ w5.heap.size := Nat.le_trans hz4 hb5.size
  clear P2 P4 P6 PB PO hb5 hz4 p0 p1 p2 p3 q0 q1 q2 q3 a0 a1 a2 a3 b0 b1 b2 b3 f0 f1 f2 f3 g0 g1 g2 g3 bi gi
  obtain ⟨k0, k1, k2, k3⟩ := R2.out.fourS
  obtain ⟨t0, t1, t2, t3⟩ := R6.out.fourS
  go_wp2_with fail
  refine (HS2.out _ _ _ _ RO.out M).mono ?_
  rw [hk2]
  rintro e w6 ⟨rfl, hb6⟩
  have S2 := Lib.hid (R2.out.more hb6)
  have S4 := Lib.hid (R4.out.more hb6)
  have S6 := Lib.hid (R6.out.more hb6)
  have SB := Lib.hid (RB.out.trans (hb6.mono RB.out.size))
  have SO := Lib.hid (OwnR.more RO.out hb6)
  have hz6 : w1.heap.size + 1 ≤ w6.heap.size := Nat.le_trans hz5 hb6.size
  clear R2 R4 R6 RB RO hb6 hz5
  clear hk2 k0 k1 k2 k3 t0 t1 t2 t3
  obtain ⟨s0, s1, s2, s3⟩ := S6.out.fourS
  obtain ⟨r0, r1, r2, r3⟩ := S4.out.fourS
  have ri := S4.out.ice
  have EB := Lib.hid (below_setCells (B := w.heap.size) (ga := w.heap.size + 1) (by omega) (seL M b (.slice A3 L.length c3) d) 0 _ SB.out)
  have EO := Lib.hid (OwnR.cellsPast (g := w.heap.size + 1) (by omega) (seL M b (.slice A3 L.length c3) d) 0 _ SO.out)
  have EF := Lib.hid (S4.out.all (us := seL M b (.slice A3 L.length c3) d) rfl)
  go_wp2
  show bodyPost Tryd.prog Tryd.f7 _ Exit.ret _ (w6.setCells (w.heap.size + 1) 0 (seL M b (.slice A3 L.length c3) d))
  generalize w6.setCells (w.heap.size + 1) 0 (seL M b (.slice A3 L.length c3) d) = WE at *
  obtain ⟨z0, z1, z2, z3⟩ := EF.out.fourS
  refine bodyPost_ret_by (v := .tuple #[seV M b (.slice A3 L.length c3) d, .bool true]) ?_ rfl ⟨A3, c3, by rw [HV.out.1, HV.out.2.1, HV.out.2.2], by rw [HV.out.2.2]; exact OwnR.lower EO.out (by omega), EB.out⟩
  simp [results, Tryd.f7, go_sem, z0, z1, z2, z3]

set_option maxHeartbeats 8000000 in
theorem offer_impl_full (n b d : Int) (A : Option Addr) (l : List Sn) (c : Nat) (x : ByteArray) (hl : l.length ≤ 1048577) (hs : ∀ j (hj : j < l.length), l[j].2.size ≤ 1100000) (hx : x.size ≤ 1100000) (w : World) (h : SnsAt w w.heap.size A l) (h1 : SnOk n b l d) (h2 : ¬ SnOk ((n + 1) % 256) b (l ++ [(n, x)]) d) :
    Calls Tryd.prog 7 #[seV n b (.slice A l.length c) d, .string x] w fun e w' => ∃ A1 c1, e = .returned (.tuple #[seV (ofN n b l d x) b (.slice A1 (ofL n b l d x).length c1) d, .bool (ofB n b l d x)]) ∧ OwnN w' w.heap.size (.slice A1 (ofL n b l d x).length c1) (ofL n b l d x) ∧ Below w.heap.size w w' := by
  have B2 := (Box.made w (seL n b (.slice A l.length c) d) 26 w.heap.size rfl).alloc (.cells (seL 0 0 (.slice none 0 0) 0).toArray 26)
  have B4 := Box.made (w.alloc (.cells (seL n b (.slice A l.length c) d).toArray 26)) (seL 0 0 (.slice none 0 0) 0) 26 (w.heap.size + 1) (by simp)
  have BB := ((Below.refl _ w).alloc (Nat.le_refl _) (.cells (seL n b (.slice A l.length c) d).toArray 26)).alloc (by simp) (.cells (seL 0 0 (.slice none 0 0) 0).toArray 26)
  have hz0 : ((w.alloc (.cells (seL n b (.slice A l.length c) d).toArray 26)).alloc (.cells (seL 0 0 (.slice none 0 0) 0).toArray 26)).heap.size = w.heap.size + 2 := by simp
  have HI := Lib.hid (fun W (hb : Below w.heap.size w W) => (h.more hb).raise hb.size)
  have HC := Lib.hid (fun W (hb : Below w.heap.size w W) => copy_impl n b d A l c (by omega) W ((h.more hb).raise hb.size))
  have HS := Lib.hid (fun W (hb : Below w.heap.size w W) => so_impl n b d A l c (by omega) hs W ((h.more hb).raise hb.size))
  have HS2 := Lib.hid (fun A2 c2 W B (ho : OwnN W B (.slice A2 (l ++ [(n, x)]).length c2) (l ++ [(n, x)])) (m : Int) => so_impl m b d A2 (l ++ [(n, x)]) c2 (by simp; omega) (fun j hj => by
    rw [List.getElem_append]
    split
    · exact hs _ _
    · simp; omega) W ho.ats)
  obtain ⟨i, hi, hq0, hq1, hq2⟩ := info_parts info_snt
  have Hi := Lib.hid hi
  have Hq0 := Lib.hid hq0
  have Hq1 := Lib.hid hq1
  have Hq2 := Lib.hid hq2
  clear h hi hq0 hq1 hq2 hs
  have HV := Lib.hid (of_no (n := n) (b := b) (l := l) (d := d) (x := x) (fun h => h2 h.2))
  have hk2 := snB_no h2
  rw [show snB n b l d = true from snB_yes h1] at HS
  have hn := h1.1.1
  have hnx := next_cnt n hn
  obtain ⟨L, hL⟩ : ∃ L, l ++ [(n, x)] = L := ⟨_, rfl⟩
  have HL := Lib.hid hL
  rw [hL] at HS2
  obtain ⟨M, hM⟩ : ∃ M, (n + 1) % 256 = M := ⟨_, rfl⟩
  have HM := Lib.hid hM
  rw [hM, hL] at hk2
  rw [hM] at hnx
  clear hL
  have HNX := Lib.hid hnx
  clear h1 h2 hnx hn
  go_enter Tryd.func7, Tryd.ntmps7
  go_wp2_with fail
  refine (HC.out _ BB).mono ?_
  rintro e w1 ⟨A1, c1, rfl, ho1, hb1⟩
  rw [hz0] at ho1
  have C2 := Lib.hid ((B2.more hb1).alloc (.cells (seL n b (.slice A1 l.length c1) d).toArray 26))
  have C4 := Lib.hid ((B4.more hb1).alloc (.cells (seL n b (.slice A1 l.length c1) d).toArray 26))
  have C6 := Lib.hid (Box.made w1 (seL n b (.slice A1 l.length c1) d) 26 w1.heap.size rfl)
  have hz1 : w.heap.size + 2 ≤ w1.heap.size := by have := hb1.size; omega
  have CB := Lib.hid (((BB.trans (hb1.mono BB.size)).alloc (Nat.le_trans (by omega) hz1) (.cells (seL n b (.slice A1 l.length c1) d).toArray 26)))
  have CO := Lib.hid (OwnR.more ho1 ((Below.refl _ _).alloc (Nat.le_refl _) (.cells (seL n b (.slice A1 l.length c1) d).toArray 26)))
  have CU := Lib.hid (OwnR.upto ho1)
  clear B2 B4 BB ho1 hb1 hz0
  obtain ⟨k0, k1, k2, k3⟩ := C2.out.fourS
  obtain ⟨t0, t1, t2, t3⟩ := C6.out.fourS
  go_wp2_with (at_builtin; go_loud (refine app_rows 48 24 2 24 (snV 0 ⟨#[]⟩) i _ rfl _ _ rfl Tryd.underlying24 Hi.out Hq0.out Hq1.out Hq2.out rfl (by decide) (by decide) (w.heap.size + 2) (.slice A1 l.length c1) (l.map snC) rfl (OwnR.more CO.out ((Below.refl _ _).alloc (Nat.le_refl _) _)) (some ⟨w1.heap.size + 1, 0, none⟩) [[.int .i64 n, .string x]] 1 rfl (by simp) (by simp [Value.oneCell']) (rows_lit _ [.int .i64 n, .string x] _ _ (by simp)) (by simp; omega) (by simp; omega) ?_))
  intro v3 w3 ho3 hg3 hw3
  have hs3 := hg3.size
  replace ho3 : OwnN w3 (w.heap.size + 2) v3 L := by
    rw [← HL.out]
    show OwnR _ _ _ _ _ ((l ++ [(n, x)]).map snC)
    rw [List.map_append]
    exact ho3
  obtain ⟨A3, c3, rfl⟩ := ho3.nform
  have hne3 : (Value.slice A3 L.length c3).ownBlock ≠ some w1.heap.size := by
    rcases hw3 with e | e
    · rw [e]; intro e2; have := CU.out _ e2; omega
    · rw [e]; intro e2; simp at e2; omega
  have hb3 := (Below.refl (w.heap.size + 2) _).grown hg3 (by simp; omega) (fun k hk => (CU.out k hk).1)
  have M2 := ((C2.out.alloc _).moreAt hb3 (by omega) hs3)
  have M4 := ((C4.out.alloc _).moreAt hb3 (by omega) hs3)
  have M6 := ((C6.out.alloc _).grown hg3 (by intro e2; have := CU.out _ e2; omega))
  have MB := (CB.out.alloc CB.out.size (.cells #[.int .i64 n, .string x] 48)).trans (hb3.mono (by omega))
  have hz3 : w1.heap.size + 1 ≤ w3.heap.size := by simp at hs3; omega
  obtain ⟨a0, a1, a2, a3⟩ := M2.fourS
  obtain ⟨b0, b1, b2, b3⟩ := M6.fourS
  have bi := M6.ice
  have N2 := M2.other (ga := w1.heap.size) (by omega) 2 (.slice A3 L.length c3)
  obtain ⟨f0, f1, f2, f3⟩ := N2.fourS
  have N4 := M4.other (ga := w1.heap.size) (by omega) 2 (.slice A3 L.length c3)
  have N6 := M6.set 2 (by simp) (.slice A3 L.length c3)
  have hn6 : Box (w3.setCell ⟨w1.heap.size, 2, none⟩ (.slice A3 L.length c3)) w1.heap.size (seL n b (.slice A3 L.length c3) d) := N6
  obtain ⟨g0, g1, g2, g3⟩ := hn6.fourS
  have gi := hn6.ice
  have NB := MB.setCell (p := ⟨w1.heap.size, 2, none⟩) (by simp; omega) (.slice A3 L.length c3)
  have NO := OwnR.away ho3 hne3 (j := 2) (.slice A3 L.length c3)
  have P2 := Lib.hid (N2.other (ga := w1.heap.size) (by omega) 0 (.int .i64 M))
  have P4 := Lib.hid (N4.other (ga := w1.heap.size) (by omega) 0 (.int .i64 M))
  have P6 := Lib.hid (show Box ((w3.setCell ⟨w1.heap.size, 2, none⟩ (.slice A3 L.length c3)).setCell ⟨w1.heap.size, 0, none⟩ (.int .i64 M)) w1.heap.size (seL M b (.slice A3 L.length c3) d) from hn6.set 0 (by simp) (.int .i64 M))
  have PB := Lib.hid (NB.setCell (p := ⟨w1.heap.size, 0, none⟩) (by simp; omega) (.int .i64 M))
  have PO := Lib.hid (OwnR.away NO hne3 (j := 0) (.int .i64 M))
  have hz4 : w1.heap.size + 1 ≤ ((w3.setCell ⟨w1.heap.size, 2, none⟩ (.slice A3 L.length c3)).setCell ⟨w1.heap.size, 0, none⟩ (.int .i64 M)).heap.size := by simp; omega
  go_wp2_with fail
  refine (HNX.out _).mono ?_
  rintro e w9 ⟨rfl, rfl⟩
  obtain ⟨p0, p1, p2, p3⟩ := P2.out.fourS
  obtain ⟨q0, q1, q2, q3⟩ := P6.out.fourS
  clear M2 M4 M6 MB N2 N4 N6 NB NO hb3 hg3 hw3 hs3 ho3 hn6
  clear C2 C4 C6 CB CO k0 k1 k2 k3 t0 t1 t2 t3
  clear hM
  go_wp2_with fail
  refine (HS.out _ PB.out).mono ?_
  rintro e w5 ⟨rfl, hb5⟩
  have R2 := Lib.hid (P2.out.more hb5)
  have R4 := Lib.hid (P4.out.more hb5)
  have R6 := Lib.hid (P6.out.more hb5)
  have RB := Lib.hid (PB.out.trans (hb5.mono PB.out.size))
  have RO := Lib.hid (OwnR.more PO.out hb5)
  have hz5 : w1.heap.size + 1 ≤ w5.heap.size := Nat.le_trans hz4 hb5.size
  clear P2 P4 P6 PB PO hb5 hz4 p0 p1 p2 p3 q0 q1 q2 q3 a0 a1 a2 a3 b0 b1 b2 b3 f0 f1 f2 f3 g0 g1 g2 g3 bi gi
  obtain ⟨k0, k1, k2, k3⟩ := R2.out.fourS
  obtain ⟨t0, t1, t2, t3⟩ := R6.out.fourS
  go_wp2_with fail
  refine (HS2.out _ _ _ _ RO.out M).mono ?_
  rw [hk2]
  rintro e w6 ⟨rfl, hb6⟩
  have S2 := Lib.hid (R2.out.more hb6)
  have S4 := Lib.hid (R4.out.more hb6)
  have S6 := Lib.hid (R6.out.more hb6)
  have SB := Lib.hid (RB.out.trans (hb6.mono RB.out.size))
  have SO := Lib.hid (OwnR.more RO.out hb6)
  have hz6 : w1.heap.size + 1 ≤ w6.heap.size := Nat.le_trans hz5 hb6.size
  clear R2 R4 R6 RB RO hb6 hz5
  clear hk2 k0 k1 k2 k3 t0 t1 t2 t3
  obtain ⟨k0, k1, k2, k3⟩ := S2.out.fourS
  go_wp2_with fail
  refine (HC.out _ SB.out).mono ?_
  rintro e w8 ⟨A8, c8, rfl, ho8, hb8⟩
  have E4 := S4.out.more hb8
  have hz8 : w.heap.size + 2 ≤ w8.heap.size := by have := hb8.size; omega
  have EB := Lib.hid (below_setCells (B := w.heap.size) (ga := w.heap.size + 1) (by omega) (seL n b (.slice A8 l.length c8) d) 0 _ (SB.out.trans (hb8.mono SB.out.size)))
  have EO := Lib.hid (OwnR.cellsPast (g := w.heap.size + 1) (show w.heap.size + 1 < w6.heap.size by omega) (seL n b (.slice A8 l.length c8) d) 0 _ ho8)
  have EF := Lib.hid (E4.all (us := seL n b (.slice A8 l.length c8) d) rfl)
  obtain ⟨r0, r1, r2, r3⟩ := E4.fourS
  have ri := E4.ice
  clear E4 hb8 ho8
  go_wp2
  show bodyPost Tryd.prog Tryd.f7 _ Exit.ret _ (w8.setCells (w.heap.size + 1) 0 (seL n b (.slice A8 l.length c8) d))
  generalize w8.setCells (w.heap.size + 1) 0 (seL n b (.slice A8 l.length c8) d) = WE at *
  obtain ⟨z0, z1, z2, z3⟩ := EF.out.fourS
  refine bodyPost_ret_by (v := .tuple #[seV n b (.slice A8 l.length c8) d, .bool false]) ?_ rfl ⟨A8, c8, by rw [HV.out.1, HV.out.2.1, HV.out.2.2], by rw [HV.out.2.2]; exact OwnR.lower EO.out (by omega), EB.out⟩
  simp [results, Tryd.f7, go_sem, z0, z1, z2, z3]

set_option maxHeartbeats 8000000 in
theorem offer_impl_bad (n b d : Int) (A : Option Addr) (l : List Sn) (c : Nat) (x : ByteArray) (hl : l.length ≤ 1048577) (hs : ∀ j (hj : j < l.length), l[j].2.size ≤ 1100000) (hx : x.size ≤ 1100000) (w : World) (h : SnsAt w w.heap.size A l) (hnw : -9223372036854775808 ≤ n ∧ n ≤ 9223372036854775807) (h1 : ¬ SnOk n b l d) :
    Calls Tryd.prog 7 #[seV n b (.slice A l.length c) d, .string x] w fun e w' => ∃ A1 c1, e = .returned (.tuple #[seV (ofN n b l d x) b (.slice A1 (ofL n b l d x).length c1) d, .bool (ofB n b l d x)]) ∧ OwnN w' w.heap.size (.slice A1 (ofL n b l d x).length c1) (ofL n b l d x) ∧ Below w.heap.size w w' := by
  have B2 := (Box.made w (seL n b (.slice A l.length c) d) 26 w.heap.size rfl).alloc (.cells (seL 0 0 (.slice none 0 0) 0).toArray 26)
  have B4 := Box.made (w.alloc (.cells (seL n b (.slice A l.length c) d).toArray 26)) (seL 0 0 (.slice none 0 0) 0) 26 (w.heap.size + 1) (by simp)
  have BB := ((Below.refl _ w).alloc (Nat.le_refl _) (.cells (seL n b (.slice A l.length c) d).toArray 26)).alloc (by simp) (.cells (seL 0 0 (.slice none 0 0) 0).toArray 26)
  have hz0 : ((w.alloc (.cells (seL n b (.slice A l.length c) d).toArray 26)).alloc (.cells (seL 0 0 (.slice none 0 0) 0).toArray 26)).heap.size = w.heap.size + 2 := by simp
  have HI := Lib.hid (fun W (hb : Below w.heap.size w W) => (h.more hb).raise hb.size)
  have HC := Lib.hid (fun W (hb : Below w.heap.size w W) => copy_impl n b d A l c (by omega) W ((h.more hb).raise hb.size))
  have HS := Lib.hid (fun W (hb : Below w.heap.size w W) => so_impl n b d A l c (by omega) hs W ((h.more hb).raise hb.size))
  have HS2 := Lib.hid (fun A2 c2 W B (ho : OwnN W B (.slice A2 (l ++ [(n, x)]).length c2) (l ++ [(n, x)])) (m : Int) => so_impl m b d A2 (l ++ [(n, x)]) c2 (by simp; omega) (fun j hj => by
    rw [List.getElem_append]
    split
    · exact hs _ _
    · simp; omega) W ho.ats)
  obtain ⟨i, hi, hq0, hq1, hq2⟩ := info_parts info_snt
  have Hi := Lib.hid hi
  have Hq0 := Lib.hid hq0
  have Hq1 := Lib.hid hq1
  have Hq2 := Lib.hid hq2
  clear h hi hq0 hq1 hq2 hs
  have HV := Lib.hid (of_no (n := n) (b := b) (l := l) (d := d) (x := x) (fun h => h1 h.1))
  rw [show snB n b l d = false from snB_no h1] at HS
  obtain ⟨L, hL⟩ : ∃ L, l ++ [(n, x)] = L := ⟨_, rfl⟩
  have HL := Lib.hid hL
  clear hL
  obtain ⟨M, hnx⟩ := next_any n hnw
  have HNX := Lib.hid hnx
  clear h1 hnx HS2
  go_enter Tryd.func7, Tryd.ntmps7
  go_wp2_with fail
  refine (HC.out _ BB).mono ?_
  rintro e w1 ⟨A1, c1, rfl, ho1, hb1⟩
  rw [hz0] at ho1
  have C2 := Lib.hid ((B2.more hb1).alloc (.cells (seL n b (.slice A1 l.length c1) d).toArray 26))
  have C4 := Lib.hid ((B4.more hb1).alloc (.cells (seL n b (.slice A1 l.length c1) d).toArray 26))
  have C6 := Lib.hid (Box.made w1 (seL n b (.slice A1 l.length c1) d) 26 w1.heap.size rfl)
  have hz1 : w.heap.size + 2 ≤ w1.heap.size := by have := hb1.size; omega
  have CB := Lib.hid (((BB.trans (hb1.mono BB.size)).alloc (Nat.le_trans (by omega) hz1) (.cells (seL n b (.slice A1 l.length c1) d).toArray 26)))
  have CO := Lib.hid (OwnR.more ho1 ((Below.refl _ _).alloc (Nat.le_refl _) (.cells (seL n b (.slice A1 l.length c1) d).toArray 26)))
  have CU := Lib.hid (OwnR.upto ho1)
  clear B2 B4 BB ho1 hb1 hz0
  obtain ⟨k0, k1, k2, k3⟩ := C2.out.fourS
  obtain ⟨t0, t1, t2, t3⟩ := C6.out.fourS
  go_wp2_with (at_builtin; go_loud (refine app_rows 48 24 2 24 (snV 0 ⟨#[]⟩) i _ rfl _ _ rfl Tryd.underlying24 Hi.out Hq0.out Hq1.out Hq2.out rfl (by decide) (by decide) (w.heap.size + 2) (.slice A1 l.length c1) (l.map snC) rfl (OwnR.more CO.out ((Below.refl _ _).alloc (Nat.le_refl _) _)) (some ⟨w1.heap.size + 1, 0, none⟩) [[.int .i64 n, .string x]] 1 rfl (by simp) (by simp [Value.oneCell']) (rows_lit _ [.int .i64 n, .string x] _ _ (by simp)) (by simp; omega) (by simp; omega) ?_))
  intro v3 w3 ho3 hg3 hw3
  have hs3 := hg3.size
  replace ho3 : OwnN w3 (w.heap.size + 2) v3 L := by
    rw [← HL.out]
    show OwnR _ _ _ _ _ ((l ++ [(n, x)]).map snC)
    rw [List.map_append]
    exact ho3
  obtain ⟨A3, c3, rfl⟩ := ho3.nform
  have hne3 : (Value.slice A3 L.length c3).ownBlock ≠ some w1.heap.size := by
    rcases hw3 with e | e
    · rw [e]; intro e2; have := CU.out _ e2; omega
    · rw [e]; intro e2; simp at e2; omega
  have hb3 := (Below.refl (w.heap.size + 2) _).grown hg3 (by simp; omega) (fun k hk => (CU.out k hk).1)
  have M2 := ((C2.out.alloc _).moreAt hb3 (by omega) hs3)
  have M4 := ((C4.out.alloc _).moreAt hb3 (by omega) hs3)
  have M6 := ((C6.out.alloc _).grown hg3 (by intro e2; have := CU.out _ e2; omega))
  have MB := (CB.out.alloc CB.out.size (.cells #[.int .i64 n, .string x] 48)).trans (hb3.mono (by omega))
  have hz3 : w1.heap.size + 1 ≤ w3.heap.size := by simp at hs3; omega
  obtain ⟨a0, a1, a2, a3⟩ := M2.fourS
  obtain ⟨b0, b1, b2, b3⟩ := M6.fourS
  have bi := M6.ice
  have N2 := M2.other (ga := w1.heap.size) (by omega) 2 (.slice A3 L.length c3)
  obtain ⟨f0, f1, f2, f3⟩ := N2.fourS
  have N4 := M4.other (ga := w1.heap.size) (by omega) 2 (.slice A3 L.length c3)
  have N6 := M6.set 2 (by simp) (.slice A3 L.length c3)
  have hn6 : Box (w3.setCell ⟨w1.heap.size, 2, none⟩ (.slice A3 L.length c3)) w1.heap.size (seL n b (.slice A3 L.length c3) d) := N6
  obtain ⟨g0, g1, g2, g3⟩ := hn6.fourS
  have gi := hn6.ice
  have NB := MB.setCell (p := ⟨w1.heap.size, 2, none⟩) (by simp; omega) (.slice A3 L.length c3)
  have NO := OwnR.away ho3 hne3 (j := 2) (.slice A3 L.length c3)
  have P2 := Lib.hid (N2.other (ga := w1.heap.size) (by omega) 0 (.int .i64 M))
  have P4 := Lib.hid (N4.other (ga := w1.heap.size) (by omega) 0 (.int .i64 M))
  have P6 := Lib.hid (show Box ((w3.setCell ⟨w1.heap.size, 2, none⟩ (.slice A3 L.length c3)).setCell ⟨w1.heap.size, 0, none⟩ (.int .i64 M)) w1.heap.size (seL M b (.slice A3 L.length c3) d) from hn6.set 0 (by simp) (.int .i64 M))
  have PB := Lib.hid (NB.setCell (p := ⟨w1.heap.size, 0, none⟩) (by simp; omega) (.int .i64 M))
  have PO := Lib.hid (OwnR.away NO hne3 (j := 0) (.int .i64 M))
  have hz4 : w1.heap.size + 1 ≤ ((w3.setCell ⟨w1.heap.size, 2, none⟩ (.slice A3 L.length c3)).setCell ⟨w1.heap.size, 0, none⟩ (.int .i64 M)).heap.size := by simp; omega
  go_wp2_with fail
  refine (HNX.out _).mono ?_
  rintro e w9 ⟨rfl, rfl⟩
  obtain ⟨p0, p1, p2, p3⟩ := P2.out.fourS
  obtain ⟨q0, q1, q2, q3⟩ := P6.out.fourS
  clear M2 M4 M6 MB N2 N4 N6 NB NO hb3 hg3 hw3 hs3 ho3 hn6
  clear C2 C4 C6 CB CO k0 k1 k2 k3 t0 t1 t2 t3
  go_wp2_with fail
  refine (HS.out _ PB.out).mono ?_
  rintro e w5 ⟨rfl, hb5⟩
  have R2 := Lib.hid (P2.out.more hb5)
  have R4 := Lib.hid (P4.out.more hb5)
  have R6 := Lib.hid (P6.out.more hb5)
  have RB := Lib.hid (PB.out.trans (hb5.mono PB.out.size))
  have RO := Lib.hid (OwnR.more PO.out hb5)
  have hz5 : w1.heap.size + 1 ≤ w5.heap.size := Nat.le_trans hz4 hb5.size
  clear P2 P4 P6 PB PO hb5 hz4 p0 p1 p2 p3 q0 q1 q2 q3 a0 a1 a2 a3 b0 b1 b2 b3 f0 f1 f2 f3 g0 g1 g2 g3 bi gi
  obtain ⟨k0, k1, k2, k3⟩ := R2.out.fourS
  go_wp2_with fail
  refine (HC.out _ RB.out).mono ?_
  rintro e w8 ⟨A8, c8, rfl, ho8, hb8⟩
  have E4 := R4.out.more hb8
  have hz8 : w.heap.size + 2 ≤ w8.heap.size := by have := hb8.size; omega
  have EB := Lib.hid (below_setCells (B := w.heap.size) (ga := w.heap.size + 1) (by omega) (seL n b (.slice A8 l.length c8) d) 0 _ (RB.out.trans (hb8.mono RB.out.size)))
  have EO := Lib.hid (OwnR.cellsPast (g := w.heap.size + 1) (show w.heap.size + 1 < w5.heap.size by omega) (seL n b (.slice A8 l.length c8) d) 0 _ ho8)
  have EF := Lib.hid (E4.all (us := seL n b (.slice A8 l.length c8) d) rfl)
  obtain ⟨r0, r1, r2, r3⟩ := E4.fourS
  have ri := E4.ice
  clear E4 hb8 ho8
  go_wp2
  show bodyPost Tryd.prog Tryd.f7 _ Exit.ret _ (w8.setCells (w.heap.size + 1) 0 (seL n b (.slice A8 l.length c8) d))
  generalize w8.setCells (w.heap.size + 1) 0 (seL n b (.slice A8 l.length c8) d) = WE at *
  obtain ⟨z0, z1, z2, z3⟩ := EF.out.fourS
  refine bodyPost_ret_by (v := .tuple #[seV n b (.slice A8 l.length c8) d, .bool false]) ?_ rfl ⟨A8, c8, by rw [HV.out.1, HV.out.2.1, HV.out.2.2], by rw [HV.out.2.2]; exact OwnR.lower EO.out (by omega), EB.out⟩
  simp [results, Tryd.f7, go_sem, z0, z1, z2, z3]

theorem offer_impl (n b d : Int) (hnw : -9223372036854775808 ≤ n ∧ n ≤ 9223372036854775807) (A : Option Addr) (l : List Sn) (c : Nat) (x : ByteArray) (hl : l.length ≤ 1048577) (hs : ∀ j (hj : j < l.length), l[j].2.size ≤ 1100000) (hx : x.size ≤ 1100000) (w : World) (h : SnsAt w w.heap.size A l) :
    Calls Tryd.prog 7 #[seV n b (.slice A l.length c) d, .string x] w fun e w' => ∃ A1 c1, e = .returned (.tuple #[seV (ofN n b l d x) b (.slice A1 (ofL n b l d x).length c1) d, .bool (ofB n b l d x)]) ∧ OwnN w' w.heap.size (.slice A1 (ofL n b l d x).length c1) (ofL n b l d x) ∧ Below w.heap.size w w' := by
  by_cases h1 : SnOk n b l d
  · by_cases h2 : SnOk ((n + 1) % 256) b (l ++ [(n, x)]) d
    · exact offer_impl_yes n b d A l c x hl hs hx w h h1 h2
    · exact offer_impl_full n b d A l c x hl hs hx w h h1 h2
  · exact offer_impl_bad n b d A l c x hl hs hx w h hnw h1
end Go.Proofs.YtebfefkknaalpaaDoor
