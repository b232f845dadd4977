/- What this text proves: the contract of the model's TakeFrame. -/
import Derived.Test.YtcjeaahlhfoccabITf
import Derived.Test.YtcjeaahlhfoccabPakC
namespace Go.Proofs.Ytcjeaahlhfoccab
open Go.ChangeShapes Go.WideShapes Go.ChangeAt Go.RowKit
set_option linter.unusedVariables false

/-- The boxes of a walk over the model's TakeFrame: what it was handed, its two answers, its own packer at go and frame at gf. -/
structure TS (w W : World) (go gf : Nat) (p r q o f : List Value) : Prop where
  qp : QP w W p r q
  bo : Box W go o
  bf : Box W gf f
  fo : w.heap.size + 3 ≤ go
  ff : w.heap.size + 3 ≤ gf
  d : go ≠ gf
theorem TS.more {w W W' : World} {go gf : Nat} {p r q o f : List Value} (h : TS w W go gf p r q o f) (hb : Below W.heap.size W W') : TS w W' go gf p r q o f := ⟨h.qp.more hb, h.bo.more hb, h.bf.more hb, h.fo, h.ff, h.d⟩
theorem QP.putFar {w W : World} {g : Nat} {p r q : List Value} (h : QP w W p r q) (hg : w.heap.size + 3 ≤ g) (j : Nat) (u : Value) : QP w (W.setCell ⟨g, j, none⟩ u) p r q :=
  ⟨h.below.setCell (p := ⟨g, j, none⟩) (by show w.heap.size ≤ g; omega) u, h.bp.other (by omega) j u, h.bx.other (by omega) j u, h.br.other (by omega) j u⟩
theorem TS.putO {w W : World} {go gf : Nat} {p r q o f : List Value} (h : TS w W go gf p r q o f) (j : Nat) (hj : j < o.length) (u : Value) : TS w (W.setCell ⟨go, j, none⟩ u) go gf p r q (o.set j u) f :=
  ⟨h.qp.putFar h.fo j u, h.bo.set j hj u, h.bf.other h.d j u, h.fo, h.ff, h.d⟩
theorem TS.putF {w W : World} {go gf : Nat} {p r q o f : List Value} (h : TS w W go gf p r q o f) (j : Nat) (hj : j < f.length) (u : Value) : TS w (W.setCell ⟨gf, j, none⟩ u) go gf p r q o (f.set j u) :=
  ⟨h.qp.putFar h.ff j u, h.bo.other (Ne.symm h.d) j u, h.bf.set j hj u, h.fo, h.ff, h.d⟩
theorem TS.grown {w W W' : World} {go gf B : Nat} {p r q o f : List Value} {row : Option Nat} (h : TS w W go gf p r q o f) (hg : W.grownBy W' row) (hr : ∀ k, row = some k → B ≤ k) (h1 : go < B) (h2 : gf < B) : TS w W' go gf p r q o f := by
  have f1 := h.fo
  have f2 := h.ff
  have hne : ∀ k, k < B → row ≠ some k := fun k hk e => by have := hr k e; omega
  exact ⟨⟨h.qp.below.grown hg h.qp.below.size (fun k hk => by have := hr k hk; omega), h.qp.bp.grown hg (hne _ (by omega)), h.qp.bx.grown hg (hne _ (by omega)), h.qp.br.grown hg (hne _ (by omega))⟩, h.bo.grown hg (hne _ h1), h.bf.grown hg (hne _ h2), f1, f2, h.d⟩
theorem TS.bz {w W : World} {go gf : Nat} {p r q o f : List Value} (h : TS w W go gf p r q o f) : go < W.heap.size ∧ gf < W.heap.size := ⟨h.bo.lt, h.bf.lt⟩

set_option maxRecDepth 8000 in
set_option maxHeartbeats 8000000 in
theorem take_spec (c n : Int) (r : ByteArray) (A : Option Addr) (l : List Int) (k0 : Nat) (hl : l.length ≤ 1048576) (hr : r.size ≤ 1048576) (w : World) (h : IntsAt w w.heap.size A l) :
    Calls Try.prog 22 #[paV c n r (.slice A l.length k0)] w (TakeEnd c n r l w) := by
  have Q3 : QP w (((w.alloc (.cells #[.int .i64 c, .int .i64 n, .string r, .slice A l.length k0] 29)).alloc (.cells #[.int .i64 0, .int .i64 0, .string ⟨#[]⟩, .slice none 0 0] 29)).alloc (.cells #[.int .i64 0, .int .i64 0, .int .i64 0, .string ⟨#[]⟩] 41)) (paL c n r (.slice A l.length k0)) (paL 0 0 ⟨#[]⟩ (.slice none 0 0)) (frL 0 0 0 ⟨#[]⟩) :=
    ⟨(((Below.refl _ w).alloc (Nat.le_refl _) _).alloc (by simp) _).alloc (by simp; omega) _,
     ((Box.made w (paL c n r (.slice A l.length k0)) 29 _ rfl).alloc _).alloc _,
     (Box.made (w.alloc (.cells (paL c n r (.slice A l.length k0)).toArray 29)) (paL 0 0 ⟨#[]⟩ (.slice none 0 0)) 29 (w.heap.size + 1) (by simp)).alloc _,
     Box.made ((w.alloc (.cells (paL c n r (.slice A l.length k0)).toArray 29)).alloc (.cells (paL 0 0 ⟨#[]⟩ (.slice none 0 0)).toArray 29)) (frL 0 0 0 ⟨#[]⟩) 41 (w.heap.size + 2) (by simp)⟩
  have HI := Lib.hid (fun W (hb : Below w.heap.size w W) => (h.more hb).raise hb.size)
  have HI0 := Lib.hid (fun W (hb : Below w.heap.size w W) => h.more hb)
  clear h
  go_enter Try.func22, Try.ntmps22
  go_upto_region 1 with fail
  generalize ((w.alloc (.cells #[.int .i64 c, .int .i64 n, .string r, .slice A l.length k0] 29)).alloc (.cells #[.int .i64 0, .int .i64 0, .string ⟨#[]⟩, .slice none 0 0] 29)).alloc (.cells #[.int .i64 0, .int .i64 0, .int .i64 0, .string ⟨#[]⟩] 41) = W3 at *
  obtain ⟨p0, p1, p2, p3⟩ := Q3.bp.fourP
  go_wp2_with fail
  refine (copy_pak c n r A l k0 (by omega) W3 (HI.out _ Q3.below)).mono ?_
  rintro e w4 ⟨v1, rfl, ho1, hb4⟩
  obtain ⟨A1, c1, rfl⟩ := ho1.form
  have Q5 : QP w (w4.alloc (.cells #[.int .i64 c, .int .i64 n, .string r, .slice A1 l.length c1] 29)) (paL c n r (.slice A l.length k0)) (paL 0 0 ⟨#[]⟩ (.slice none 0 0)) (frL 0 0 0 ⟨#[]⟩) := (Q3.more hb4).more ((Below.refl _ _).alloc (Nat.le_refl _) _)
  have X5 : Box (w4.alloc (.cells #[.int .i64 c, .int .i64 n, .string r, .slice A1 l.length c1] 29)) w4.heap.size (paL c n r (.slice A1 l.length c1)) := Box.made w4 (paL c n r (.slice A1 l.length c1)) _ _ rfl
  have O5 := Lib.hid (show OwnI (w4.alloc (.cells #[.int .i64 c, .int .i64 n, .string r, .slice A1 l.length c1] 29)) (w.heap.size + 3) (.slice A1 l.length c1) l from (ho1.lower Q3.far).more ((Below.refl _ _).alloc (Nat.le_refl _) _))
  have hg5 : w.heap.size + 3 ≤ w4.heap.size := (Q3.more hb4).far
  clear ho1 hb4 Q3 p0 p1 p2 p3
  go_upto_region 2 with fail
  generalize w4.alloc (.cells #[.int .i64 c, .int .i64 n, .string r, .slice A1 l.length c1] 29) = W5 at *
  generalize w4.heap.size = g5 at *
  obtain ⟨p0, p1, p2, p3⟩ := Q5.bp.fourP
  have HO := Lib.hid (po_spec c n r A l k0 (by omega) hr W5 (HI.out _ Q5.below))
  by_cases hP : TkOk c n r l
  · rw [paB_yes hP.1] at HO
    have h24 : decide (r.size < 24) = false := decide_eq_false (by have := hP.2; omega)
    have h24' : decide ((r.size : Int) < 24) = false := decide_eq_false (by have := hP.2; omega)
    go_wp2_with fail
    refine HO.out.mono ?_
    rintro e w6 ⟨rfl, hb6⟩
    have Q6 := Lib.hid (Q5.more hb6)
    have X6 := Lib.hid (X5.more hb6)
    have hr24 : 24 ≤ r.size := hP.2
    have HV := Lib.hid hP
    have HNC := Lib.hid hP.1.2.2.1
    have HPOS := Lib.hid (show ∀ j, j < l.length → 0 ≤ l.getD j 0 ∧ l.getD j 0 ≤ 1048576 from fun j hj => by have := (hP.1.1 j hj).1; omega)
    clear hb6 p0 p1 p2 p3 Q5 X5 hP
    have h1 : ∀ W : World, (Instr.slice 9 (.string r) none (some (.int .i64 24)) none).run Try.prog W = .ok (.string (r.extract 0 24)) W := fun W => by
      have h := run_slice_string_to_if W 9 r .i64 24 Try.underlying9
      rw [if_pos (by omega)] at h
      exact h
    have h2 : ∀ W : World, (Instr.slice 9 (.string r) (some (.int .i64 24)) none none).run Try.prog W = .ok (.string (r.extract 24 r.size)) W := fun W => by
      have h := run_slice_string_from_if W 9 r .i64 24 Try.underlying9
      rw [if_pos (by omega)] at h
      exact h
    obtain ⟨a0, a1, a2, a3⟩ := (Q6.out.more (Below.refl _ _).drew).bp.fourP
    obtain ⟨e0, e1, e2, e3⟩ := Q6.out.bp.fourP
    obtain ⟨f0, f1, f2, f3⟩ := (Q6.out.more ((Below.refl _ _).alloc (Nat.le_refl _) (.cells #[.int .i64 0, .int .i64 0, .int .i64 0, .string ⟨#[]⟩] 41))).bp.fourP
    have T6 : TS w ((w6.alloc (.cells #[.int .i64 c, .int .i64 n, .int .i64 255, .string (r.extract 0 24)] 41)).drew) g5 w6.heap.size (paL c n r (.slice A l.length k0)) (paL 0 0 ⟨#[]⟩ (.slice none 0 0)) (frL 0 0 0 ⟨#[]⟩) (paL c n r (.slice A1 l.length c1)) (frL c n 255 (r.extract 0 24)) :=
      ⟨(Q6.out.more ((Below.refl _ _).alloc (Nat.le_refl _) _)).more (Below.refl _ _).drew, (X6.out.alloc _).drew, (Box.made w6 (frL c n 255 (r.extract 0 24)) _ _ rfl).drew, hg5, Q6.out.far, Nat.ne_of_lt X6.out.lt⟩
    have HT6 := Lib.hid T6
    clear T6
    go_wp2
    go_region
    all_goals go_upto_region 5 with fail
    clear a0 a1 a2 a3 e0 e1 e2 e3 f0 f1 f2 f3
    generalize ((w6.alloc (.cells #[.int .i64 c, .int .i64 n, .int .i64 255, .string (r.extract 0 24)] 41)).drew) = W7 at *
    generalize w6.heap.size = g6 at *
    have tri : (∃ h : 0 < l.length, l[0] < 24) ∨ (∃ h : 0 < l.length, ¬ l[0] < 24) ∨ l.length = 0 := by
      rcases Nat.eq_zero_or_pos l.length with h | h
      · exact .inr (.inr h)
      · by_cases h1 : l[0] < 24
        · exact .inl ⟨h, h1⟩
        · exact .inr (.inl ⟨h, h1⟩)
    obtain ⟨a0, a1, a2, a3⟩ := HT6.out.qp.bp.fourP
    have fi := HT6.out.bf.ice
    obtain ⟨f0, f1, f2, f3⟩ := HT6.out.bf.four
    rcases tri with ⟨h0, h3⟩ | ⟨h0, h3⟩ | h0
    case' inl =>
      have hd0 : decide (0 < l.length) = true := by simp; omega
      have hd0' : decide ((0 : Int) < (l.length : Int)) = true := by simp; omega
      have hg0 : l.getD 0 0 = l[0] := by simp [List.getD_eq_getElem?_getD, h0]
      obtain ⟨b1, off, hA, hb1, hc⟩ := (HI0.out _ HT6.out.qp.below).resolve_left (by omega)
      subst hA
      have hc0 := hc 0 h0
      rw [Nat.add_zero] at hc0
      have HF := Lib.hid (show firstI l = l[0] from by unfold firstI; rw [hg0, if_pos ⟨h0, h3⟩])
      clear hc hg0
      generalize l[0] = x at *
      have hdx : decide (x < 24) = true := by simp; omega
      have P3 := Lib.hid (show TS w (W7.setCell ⟨g6, 2, none⟩ (.int .i64 x)) g5 g6 (paL c n r (.slice (some ⟨b1, off, none⟩) l.length k0)) (paL 0 0 ⟨#[]⟩ (.slice none 0 0)) (frL 0 0 0 ⟨#[]⟩) (paL c n r (.slice A1 l.length c1)) (frL c n (firstI l) (r.extract 0 24)) from by rw [HF.out]; exact HT6.out.putF 2 (by simp) (.int .i64 x))
      go_upto_region 7 with fail
      clear HT6 a0 a1 a2 a3 f0 f1 f2 f3 fi hc0 hdx h3 HF hb1
      generalize W7.setCell ⟨g6, 2, none⟩ (.int .i64 x) = W8 at *
      have HAI : ∃ A' : Option Addr, Value.slice (some ⟨b1, off, none⟩) l.length k0 = .slice A' l.length k0 ∧ Hid (∀ W, Below w.heap.size w W → IntsAt W w.heap.size A' l) := ⟨_, rfl, HI0⟩
      clear HI0 HI HO
      generalize Value.slice (some ⟨b1, off, none⟩) l.length k0 = VS at *
    case' inr.inl =>
      have hd0 : decide (0 < l.length) = true := by simp; omega
      have hd0' : decide ((0 : Int) < (l.length : Int)) = true := by simp; omega
      have hg0 : l.getD 0 0 = l[0] := by simp [List.getD_eq_getElem?_getD, h0]
      obtain ⟨b1, off, hA, hb1, hc⟩ := (HI0.out _ HT6.out.qp.below).resolve_left (by omega)
      subst hA
      have hc0 := hc 0 h0
      rw [Nat.add_zero] at hc0
      have HF := Lib.hid (show firstI l = 255 from by unfold firstI; rw [hg0, if_neg (fun h => h3 h.2)])
      clear hc hg0
      generalize l[0] = x at *
      have hdx : decide (x < 24) = false := by simp; omega
      have P3 := Lib.hid (show TS w W7 g5 g6 (paL c n r (.slice (some ⟨b1, off, none⟩) l.length k0)) (paL 0 0 ⟨#[]⟩ (.slice none 0 0)) (frL 0 0 0 ⟨#[]⟩) (paL c n r (.slice A1 l.length c1)) (frL c n (firstI l) (r.extract 0 24)) from by rw [HF.out]; exact HT6.out)
      go_upto_region 7 with fail
      clear HT6 a0 a1 a2 a3 f0 f1 f2 f3 fi hc0 hdx h3 HF hb1
      generalize W7 = W8 at *
      have HAI : ∃ A' : Option Addr, Value.slice (some ⟨b1, off, none⟩) l.length k0 = .slice A' l.length k0 ∧ Hid (∀ W, Below w.heap.size w W → IntsAt W w.heap.size A' l) := ⟨_, rfl, HI0⟩
      clear HI0 HI HO
      generalize Value.slice (some ⟨b1, off, none⟩) l.length k0 = VS at *
    case' inr.inr =>
      have hd0 : decide (0 < l.length) = false := decide_eq_false (by omega)
      have hd0' : decide ((0 : Int) < (l.length : Int)) = false := decide_eq_false (by omega)
      have HF := Lib.hid (show firstI l = 255 from by unfold firstI; rw [if_neg (fun h => by omega)])
      have P3 := Lib.hid (show TS w W7 g5 g6 (paL c n r (.slice A l.length k0)) (paL 0 0 ⟨#[]⟩ (.slice none 0 0)) (frL 0 0 0 ⟨#[]⟩) (paL c n r (.slice A1 l.length c1)) (frL c n (firstI l) (r.extract 0 24)) from by rw [HF.out]; exact HT6.out)
      go_upto_region 7 with fail
      clear HT6 a0 a1 a2 a3 f0 f1 f2 f3 fi HF
      generalize W7 = W8 at *
      have HAI : ∃ A' : Option Addr, Value.slice A l.length k0 = .slice A' l.length k0 ∧ Hid (∀ W, Below w.heap.size w W → IntsAt W w.heap.size A' l) := ⟨_, rfl, HI0⟩
      clear HI0 HI HO
      generalize Value.slice A l.length k0 = VS at *
    all_goals
      clear hd0 hd0' h0
      obtain ⟨A, hA, HI0⟩ := HAI
      subst hA
      obtain ⟨F, hF⟩ : ∃ F, F = firstI l := ⟨_, rfl⟩
      rw [← hF] at P3
      have HFF := Lib.hid hF
      clear hF
      obtain ⟨a0, a1, a2, a3⟩ := P3.out.qp.bp.fourP
      obtain ⟨o0, o1, o2, o3⟩ := P3.out.bo.fourP
      have oi := P3.out.bo.ice
      have T9 := Lib.hid (show TS w _ g5 g6 (paL c n r (.slice A l.length k0)) (paL 0 0 ⟨#[]⟩ (.slice none 0 0)) (frL 0 0 0 ⟨#[]⟩) (paL c n (r.extract 24 r.size) (.slice A1 l.length c1)) (frL c n F (r.extract 0 24)) from P3.out.putO 2 (by simp) (.string (r.extract 24 r.size)))
      go_upto_region 8 with fail
      clear a0 a1 a2 a3 o0 o1 o2 o3 oi
      generalize W8.setCell ⟨g5, 2, none⟩ (.string (r.extract 24 r.size)) = W9 at *
      obtain ⟨z1, z2⟩ := T9.out.bz
      have z3 : w.heap.size + 3 ≤ W9.heap.size := by have := T9.out.fo; omega
      have hzS : (W9.setCell ⟨g5, 3, none⟩ (.slice (some ⟨W9.heap.size, 0, none⟩) 0 0)).heap.size = W9.heap.size := by simp
      have TA := T9.out.more ((Below.refl _ _).alloc (Nat.le_refl _) (.cells #[] 3))
      obtain ⟨o0, o1, o2, o3⟩ := TA.bo.fourP
      have oi := TA.bo.ice
      obtain ⟨q0, q1, q2, q3⟩ := T9.out.bo.fourP
      have qi := T9.out.bo.ice
      have TB := Lib.hid (show TS w ((W9.setCell ⟨g5, 3, none⟩ (.slice (some ⟨W9.heap.size, 0, none⟩) 0 0)).alloc (.cells #[] 3)) g5 g6 (paL c n r (.slice A l.length k0)) (paL 0 0 ⟨#[]⟩ (.slice none 0 0)) (frL 0 0 0 ⟨#[]⟩) (paL c n (r.extract 24 r.size) (.slice (some ⟨W9.heap.size, 0, none⟩) 0 0)) (frL c n F (r.extract 0 24)) from (T9.out.putO 3 (by simp) (.slice (some ⟨W9.heap.size, 0, none⟩) 0 0)).more ((Below.refl _ _).alloc (Nat.le_refl _) _))
      have OB := Lib.hid (show OwnI ((W9.setCell ⟨g5, 3, none⟩ (.slice (some ⟨W9.heap.size, 0, none⟩) 0 0)).alloc (.cells #[] 3)) W9.heap.size (.slice (some ⟨W9.heap.size, 0, none⟩) 0 0) [] from by have h := OwnI.empty (W9.setCell ⟨g5, 3, none⟩ (.slice (some ⟨W9.heap.size, 0, none⟩) 0 0)) W9.heap.size (by rw [hzS]; exact Nat.le_refl _); rwa [hzS] at h)
      clear TA
      go_upto_region 9 with fail
      clear o0 o1 o2 o3 oi q0 q1 q2 q3 qi
      have zB : W9.heap.size ≤ ((W9.setCell ⟨g5, 3, none⟩ (.slice (some ⟨W9.heap.size, 0, none⟩) 0 0)).alloc (.cells #[] 3)).heap.size := by simp
      clear hzS
      generalize (W9.setCell ⟨g5, 3, none⟩ (.slice (some ⟨W9.heap.size, 0, none⟩) 0 0)).alloc (.cells #[] 3) = WB at *
      generalize W9.heap.size = BB at *
      go_wp2
      go_loopg [7] l.length (fun gh v7 wx => ∃ (k : Nat) (A4 : Option Addr) (c4 : Nat), k ≤ l.length ∧ gh = l.length - k ∧ v7 = .int .i64 (k : Int) ∧ OwnI wx BB (.slice A4 (laterK l k).length c4) (laterK l k) ∧ BB ≤ wx.heap.size ∧ TS w wx g5 g6 (paL c n r (.slice A l.length k0)) (paL 0 0 ⟨#[]⟩ (.slice none 0 0)) (frL 0 0 0 ⟨#[]⟩) (paL c n (r.extract 24 r.size) (.slice A4 (laterK l k).length c4)) (frL c n F (r.extract 0 24)))
      case atStart => exact ⟨0, _, 0, by omega, rfl, rfl, OB.out, zB, TB.out⟩
      case round =>
        obtain ⟨k, A4, c4, hk, rfl, rfl, hown4, hz4, hts⟩ := hrel
        have HO4 := Lib.hid hown4
        have HTS := Lib.hid hts
        clear hown4 hts
        by_cases hlk : k < l.length
        · have hd : decide (k < l.length) = true := by simp; omega
          have hd' : decide ((k : Int) < (l.length : Int)) = true := by simp; omega
          have hgk : l.getD k 0 = l[k] := by simp [List.getD_eq_getElem?_getD, hlk]
          have hpk := HPOS.out k hlk
          obtain ⟨b1, off, hA, hb1, hc⟩ := (HI0.out _ HTS.out.qp.below).resolve_left (by omega)
          subst hA
          have hck := hc k hlk
          have HCK := Lib.hid hck
          have hlen := laterK_len l k
          have HY := Lib.hid (fun h => laterK_yes (l := l) (k := k) h)
          have HN := Lib.hid (fun h => laterK_no (l := l) (k := k) h)
          rw [hgk] at HY HN hpk
          obtain ⟨a0, a1, a2, a3⟩ := HTS.out.qp.bp.fourP
          clear hc hgk
          generalize l[k] = x at *
          have hwx : IntKind.i64.wrap (x - 24) = x - 24 := IntWalk.i64_in _ (by omega)
          have hl2 : (laterK l k).length ≤ 1099511626 := by omega
          by_cases hx : 24 ≤ x
          · have hdx : decide (24 ≤ x) = true := by simp; omega
            have hbw : b1 < wr.heap.size := by have := HTS.out.qp.below.size; omega
            have d3 := (HTS.out.more (Below.refl _ _).drew).bo.fourP.2.2.2
            have e3 := (HTS.out.more ((Below.refl _ _).alloc (Nat.le_refl _) (.cells #[.int .i64 (x - 24)] 3))).bo.fourP.2.2.2
            have d4 := (HTS.out.more (Below.refl _ _).drew).qp.bp.fourP.2.2.2
            have d5 : wr.drew.cell? ⟨b1, off + k, none⟩ = some (.int .i64 x) := hck
            go_upto_region 13 with fail
            go_region_law ((first
              | (refine step_app_int wr _ (by first | exact ((Below.refl _ _).alloc (Nat.le_refl _) _).drew | exact (Below.refl _ _).drew.alloc (by simp) _) rfl (.tmp 65) (.tmp 72) rfl BB (.slice A4 (laterK l k).length c4) (laterK l k) (x - 24) rfl wr.heap.size _ rfl HO4.out (by first | exact World.cell?_alloc_at _ _ _ _ rfl | simp) hl2 hz4 ?_; intro v2 w2 hown2 hg2 hor2; obtain ⟨l2, hl3⟩ : ∃ l2, l2 = laterK l k ++ [x - 24] := ⟨_, rfl⟩; rw [← hl3] at hown2; have HL3 := Lib.hid hl3; clear hl3; obtain ⟨A2, c2, hv2⟩ := hown2.form; subst hv2; have P2 := TS.grown (W' := w2) (B := BB) (HTS.out.more (by first | exact ((Below.refl _ _).alloc (Nat.le_refl _) _).drew | exact (Below.refl _ _).drew.alloc (by simp) _)) hg2 (fun j hj => (World.ownsRow.lt HO4.out j hj).1) z1 z2; have m3 := P2.bo.fourP.2.2.2; have mi := P2.bo.ice 3)))
            all_goals
              have TZ := Lib.hid (show TS w (w2.setCell ⟨g5, 3, none⟩ (.slice A2 l2.length c2)) g5 g6 (paL c n r (.slice (some ⟨b1, off, none⟩) l.length k0)) (paL 0 0 ⟨#[]⟩ (.slice none 0 0)) (frL 0 0 0 ⟨#[]⟩) (paL c n (r.extract 24 r.size) (.slice A2 l2.length c2)) (frL c n F (r.extract 0 24)) from P2.putO 3 (by simp) (.slice A2 l2.length c2))
              have OZ := Lib.hid (hown2.past (g := g5) (j := 3) z1 (.slice A2 l2.length c2))
              have HL5 := Lib.hid (show l2 = laterK l (k + 1) from by rw [HL3.out, HY.out hx])
              have hzz : BB ≤ (w2.setCell ⟨g5, 3, none⟩ (.slice A2 l2.length c2)).heap.size := by have := hg2.size; simp at this ⊢; omega
              clear P2 hown2 hg2 hor2 m3 mi d3 e3 d4 d5
              go_wp2
              go_roundg (l.length - (k + 1))
              case measure => omega
              case rel => exact ⟨k + 1, A2, c2, by omega, rfl, by go_num, by rw [← HL5.out]; exact OZ.out, hzz, by rw [← HL5.out]; exact TZ.out⟩
          · have hdx : decide (24 ≤ x) = false := by simp; omega
            have hL := Lib.hid (HN.out hx)
            go_wp2
            go_roundg (l.length - (k + 1))
            case measure => omega
            case rel => exact ⟨k + 1, A4, c4, by omega, rfl, by go_num, by rw [hL.out]; exact HO4.out, hz4, by rw [hL.out]; exact HTS.out⟩
        · obtain rfl : k = l.length := by omega
          have hd : decide (l.length < l.length) = false := by simp
          have hd' : decide ((l.length : Int) < (l.length : Int)) = false := by simp
          obtain ⟨a0, a1, a2, a3⟩ := HTS.out.qp.bp.fourP
          have oi := HTS.out.bo.ice
          obtain ⟨o0, o1, o2, o3⟩ := HTS.out.bo.fourP
          have hmod : Int.tmod (n + 1) 256 = (n + 1) % 256 := Int.tmod_eq_emod_of_nonneg (by have := HNC.out; omega)
          have hnb := HNC.out
          have hwn : IntKind.i64.wrap (n + 1) = n + 1 := IntWalk.i64_in _ (by omega)
          obtain ⟨L4, hL4⟩ : ∃ L4, L4 = laterK l l.length := ⟨_, rfl⟩
          rw [← hL4] at HO4 HTS o3
          have TZ := Lib.hid (show TS w (wr.setCell ⟨g5, 1, none⟩ (.int .i64 ((n + 1) % 256))) g5 g6 (paL c n r (.slice A l.length k0)) (paL 0 0 ⟨#[]⟩ (.slice none 0 0)) (frL 0 0 0 ⟨#[]⟩) (paL c ((n + 1) % 256) (r.extract 24 r.size) (.slice A4 L4.length c4)) (frL c n F (r.extract 0 24)) from HTS.out.putO 1 (by simp) (.int .i64 ((n + 1) % 256)))
          have OZ := Lib.hid (HO4.out.past (g := g5) (j := 1) z1 (.int .i64 ((n + 1) % 256)))
          have HL4 := Lib.hid hL4
          clear hL4
          go_upto_region 15 with fail
          clear a0 a1 a2 a3 o0 o1 o2 o3 oi hd hd'
          generalize wr.setCell ⟨g5, 1, none⟩ (.int .i64 ((n + 1) % 256)) = WY at *
          have TD := Lib.hid (TZ.out.more (Below.refl _ _).drew)
          have OD := Lib.hid (OZ.out.more (Below.refl _ _).drew)
          have hf1 := TD.out.fo
          have hf2 := TD.out.ff
          obtain ⟨o0, o1, o2, o3⟩ := TD.out.bo.fourP
          obtain ⟨f0, f1, f2, f3⟩ := TD.out.bf.four
          obtain ⟨m0, m1, m2, m3⟩ := TD.out.qp.bx.fourP
          obtain ⟨n0, n1, n2, n3⟩ := TD.out.qp.br.four
          have mi := TZ.out.qp.bx.ice
          have ni := TZ.out.qp.br.ice
          obtain ⟨r0, r1, r2, r3⟩ := TZ.out.qp.bx.fourP
          obtain ⟨s0, s1, s2, s3⟩ := TZ.out.qp.br.four
          obtain ⟨t0, t1, t2, t3⟩ := TZ.out.bo.fourP
          obtain ⟨u0, u1, u2, u3⟩ := TZ.out.bf.four
          have ne1 : w.heap.size + 1 ≠ g5 := by omega
          have ne2 : w.heap.size + 2 ≠ g5 := by omega
          have ne3 : w.heap.size + 1 ≠ g6 := by omega
          have ne4 : w.heap.size + 2 ≠ g6 := by omega
          have ne5 : w.heap.size + 1 + 1 ≠ g5 := by omega
          have ne6 : w.heap.size + 1 + 1 ≠ g6 := by omega
          have HTE := Lib.hid (fun (W : World) (v : Value) (ho : OwnI W w.heap.size v L4) (hb : Below w.heap.size w W) => TakeEnd.yes (w := w) (w' := W) (v := v) HV.out (by rw [← HL4.out]; exact ho) hb)
          have hz5 : w.heap.size + 3 ≤ BB := z3
          go_wp2
          go_region_held3 (fun w' => w'.cell? ⟨g5, 0, none⟩ = some (.int .i64 c) ∧ w'.cell? ⟨g5, 1, none⟩ = some (.int .i64 ((n + 1) % 256)) ∧ w'.cell? ⟨g5, 2, none⟩ = some (.string (r.extract 24 r.size)) ∧ w'.cell? ⟨g5, 3, none⟩ = some (.slice A4 L4.length c4) ∧ w'.cell? ⟨g6, 0, none⟩ = some (.int .i64 c) ∧ w'.cell? ⟨g6, 1, none⟩ = some (.int .i64 n) ∧ w'.cell? ⟨g6, 2, none⟩ = some (.int .i64 F) ∧ w'.cell? ⟨g6, 3, none⟩ = some (.string (r.extract 0 24)))
            (first | with_reducible exact ⟨o0, o1, o2, o3, f0, f1, f2, f3⟩ | go_keep)
            (fail)
          all_goals
            have PD := Lib.hid (TZ.out.qp.fin (us := paL c ((n + 1) % 256) (r.extract 24 r.size) (.slice A4 L4.length c4)) (qs := frL c n F (r.extract 0 24)) rfl rfl (OZ.out.lower hz5))
            clear o0 o1 o2 o3 f0 f1 f2 f3 m0 m1 m2 m3 n0 n1 n2 n3 mi ni r0 r1 r2 r3 s0 s1 s2 s3 t0 t1 t2 t3 u0 u1 u2 u3 ne1 ne2 ne3 ne4 ne5 ne6
            go_wp2
            show bodyPost Try.prog Try.f22 _ Exit.ret _ (((WY.setCells (w.heap.size + 1) 0 (paL c ((n + 1) % 256) (r.extract 24 r.size) (.slice A4 L4.length c4))).setCells (w.heap.size + 2) 0 (frL c n F (r.extract 0 24))).drew)
            generalize (WY.setCells (w.heap.size + 1) 0 (paL c ((n + 1) % 256) (r.extract 24 r.size) (.slice A4 L4.length c4))).setCells (w.heap.size + 2) 0 (frL c n F (r.extract 0 24)) = WE at *
            obtain ⟨b1, b2, ho, hb⟩ := PD.out
            obtain ⟨d0, d1, d2, d3⟩ := b1.fourP
            obtain ⟨e0, e1, e2, e3⟩ := b2.four
            refine bodyPost_ret_by (v := .tuple #[paV c ((n + 1) % 256) (r.extract 24 r.size) (.slice A4 L4.length c4), frV c n F (r.extract 0 24), .bool true]) ?_ rfl (by rw [HFF.out]; exact HTE.out _ _ (ho.more (Below.refl _ _).drew) hb.drew)
            simp [results, Try.f22, go_sem, d0, d1, d2, d3, e0, e1, e2, e3]
  · have HN := Lib.hid hP
    by_cases hPa : PaOk c n r l
    case' pos =>
      rw [paB_yes hPa] at HO
      have h24 : decide (r.size < 24) = true := decide_eq_true (by
        rcases Nat.lt_or_ge r.size 24 with h | h
        · exact h
        · exact absurd ⟨hPa, h⟩ hP)
      have h24' : decide ((r.size : Int) < 24) = true := decide_eq_true (by have := of_decide_eq_true h24; omega)
    case' neg => rw [paB_no hPa] at HO
    all_goals
      clear hP hPa
      go_wp2_with fail
      refine HO.out.mono ?_
      rintro e w6 ⟨rfl, hb6⟩
      have Q9 := Q5.more hb6
      have O9 := O5.out.more hb6
      obtain ⟨o0, o1, o2, o3⟩ := (X5.more hb6).fourP
      clear p0 p1 p2 p3
      obtain ⟨p0, p1, p2, p3⟩ := Q9.bp.fourP
      obtain ⟨m0, m1, m2, m3⟩ := Q9.bx.fourP
      obtain ⟨n0, n1, n2, n3⟩ := Q9.br.four
      have mi := Q9.bx.ice
      have ni := Q9.br.ice
      have PD := Lib.hid (Q9.fin (us := paL c n r (.slice A1 l.length c1)) (qs := frL 0 0 0 ⟨#[]⟩) rfl rfl O9)
      clear Q9 hb6 O9 Q5 X5
      go_wp2
      show bodyPost Try.prog Try.f22 _ Exit.ret _ ((w6.setCells (w.heap.size + 1) 0 (paL c n r (.slice A1 l.length c1))).setCells (w.heap.size + 2) 0 (frL 0 0 0 ⟨#[]⟩))
      generalize (w6.setCells (w.heap.size + 1) 0 (paL c n r (.slice A1 l.length c1))).setCells (w.heap.size + 2) 0 (frL 0 0 0 ⟨#[]⟩) = WE at *
      obtain ⟨b1, b2, ho, hb⟩ := PD.out
      obtain ⟨d0, d1, d2, d3⟩ := b1.fourP
      obtain ⟨e0, e1, e2, e3⟩ := b2.four
      refine bodyPost_ret_by (v := .tuple #[paV c n r (.slice A1 l.length c1), frV 0 0 0 ⟨#[]⟩, .bool false]) ?_ rfl (TakeEnd.no HN.out ho hb)
      simp [results, Try.f22, go_sem, d0, d1, d2, d3, e0, e1, e2, e3]
end Go.Proofs.Ytcjeaahlhfoccab
