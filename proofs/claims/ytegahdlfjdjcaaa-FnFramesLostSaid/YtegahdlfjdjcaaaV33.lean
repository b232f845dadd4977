/- What this text proves: the parts ITk of the proof, each under its own words. -/
import Derived.Test.YtegahdlfjdjcaaaV23
import Derived.Test.YtegahdlfjdjcaaaV20
import Derived.Test.YtegahdlfjdjcaaaV13
import Derived.Deep.LoopGhost
/- What this text proves: what the program's packer at work makes of itself when a frame is taken. -/
namespace Go.Proofs.Ytegahdlfjdjcaaa
open Go.ChangeShapes Go.WideShapes Go.ChangeAt Go.RowKit
set_option linter.unusedVariables false

/-- The boxes of a walk that takes a frame: the packer at work at g, the answer at gr, the frame at gf. -/
structure PT (w W : World) (b g gr gf : Nat) (ks rs fs : List Value) (v : Value) (l : List Int) : Prop where
  below : Below b w W
  bk : Box W g ks
  br : Box W gr rs
  bf : Box W gf fs
  own : OwnI W b v l
  ne : v.ownBlock ≠ some g
  ner : v.ownBlock ≠ some gr
  nef : v.ownBlock ≠ some gf
  far : b ≤ g
  fr : b ≤ gr
  ff : b ≤ gf
  d1 : gr ≠ g
  d2 : gf ≠ g
  d3 : gr ≠ gf
theorem PT.bz {w W : World} {b g gr gf : Nat} {ks rs fs : List Value} {v : Value} {l : List Int} (h : PT w W b g gr gf ks rs fs v l) : b ≤ W.heap.size := Nat.le_trans h.far (Nat.le_of_lt h.bk.lt)
theorem PT.more {w W W' : World} {b g gr gf : Nat} {ks rs fs : List Value} {v : Value} {l : List Int} (h : PT w W b g gr gf ks rs fs v l) (hb : Below W.heap.size W W') : PT w W' b g gr gf ks rs fs v l :=
  ⟨h.below.trans (hb.mono h.bz), h.bk.more hb, h.br.more hb, h.bf.more hb, h.own.more hb, h.ne, h.ner, h.nef, h.far, h.fr, h.ff, h.d1, h.d2, h.d3⟩
theorem PT.putK {w W : World} {b g gr gf : Nat} {ks rs fs : List Value} {v : Value} {l : List Int} (h : PT w W b g gr gf ks rs fs v l) (j : Nat) (hj : j < ks.length) (u : Value) : PT w (W.setCell ⟨g, j, none⟩ u) b g gr gf (ks.set j u) rs fs v l :=
  ⟨h.below.setCell (p := ⟨g, j, none⟩) h.far u, h.bk.set j hj u, h.br.other (Ne.symm h.d1) j u, h.bf.other (Ne.symm h.d2) j u, h.own.away h.ne u, h.ne, h.ner, h.nef, h.far, h.fr, h.ff, h.d1, h.d2, h.d3⟩
theorem PT.putF {w W : World} {b g gr gf : Nat} {ks rs fs : List Value} {v : Value} {l : List Int} (h : PT w W b g gr gf ks rs fs v l) (j : Nat) (hj : j < fs.length) (u : Value) : PT w (W.setCell ⟨gf, j, none⟩ u) b g gr gf ks rs (fs.set j u) v l :=
  ⟨h.below.setCell (p := ⟨gf, j, none⟩) h.ff u, h.bk.other h.d2 j u, h.br.other (Ne.symm h.d3) j u, h.bf.set j hj u, h.own.away h.nef u, h.ne, h.ner, h.nef, h.far, h.fr, h.ff, h.d1, h.d2, h.d3⟩

theorem PT.moreAt {w W W' : World} {b g gr gf n : Nat} {ks rs fs : List Value} {v : Value} {l : List Int} (h : PT w W b g gr gf ks rs fs v l) (hb : Below n W W') (h1 : g < n) (h2 : gr < n) (h3 : gf < n) (h4 : ∀ k, v.ownBlock = some k → k < n) : PT w W' b g gr gf ks rs fs v l := by
  refine ⟨h.below.trans (hb.mono (by have := h.far; omega)), h.bk.moreAt hb h1 hb.size, h.br.moreAt hb h2 hb.size, h.bf.moreAt hb h3 hb.size, ?_, h.ne, h.ner, h.nef, h.far, h.fr, h.ff, h.d1, h.d2, h.d3⟩
  refine ⟨h.own.1, ?_⟩
  rcases h.own.2 with h5 | ⟨k, cap, cur, hv, hk, hc, hr⟩
  · exact .inl h5
  · exact .inr ⟨k, cap, cur, hv, hk, (hb.block k (h4 k (by rw [hv]; rfl))).trans hc, hr⟩
theorem OwnI.cellsPast' {b g : Nat} {v : Value} {l : List Int} (hg : g < b) : ∀ (us : List Value) (o : Nat) (W : World), OwnI W b v l → OwnI (W.setCells g o us) b v l := by
  intro us
  induction us with
  | nil => intro o W h; exact h
  | cons u r ih => intro o W h; exact ih _ _ (h.past hg u)
theorem upto' {W : World} {b : Nat} {v : Value} {l : List Int} (h : OwnI W b v l) : ∀ k, v.ownBlock = some k → k < W.heap.size := fun k hk => (World.ownsRow.lt h k hk).2

set_option maxRecDepth 8000 in
set_option maxHeartbeats 4000000 in
theorem take_frame (c n : Int) (r : ByteArray) (l : List Int) (v : Value) (g b : Nat) (w : World) (hb : Box w g (kL c n r v)) (ho : OwnI w b v l) (hne : v.ownBlock ≠ some g) (hbg : b ≤ g)
    (hn : 0 ≤ n ∧ n ≤ 255) (hr : 24 ≤ r.size) (hr2 : r.size ≤ 1048576) (hl : l.length ≤ 1048576) (hpos : ∀ j, j < l.length → 0 ≤ l.getD j 0 ∧ l.getD j 0 ≤ 1048576) :
    Calls Try.prog 64 #[ptr g] w fun e w' => e = .returned (frV c n (firstI l) (r.extract 0 24)) ∧ ∃ v', Box w' g (kL c ((n + 1) % 256) (r.extract 24 r.size) v') ∧ OwnI w' b v' (laterK l l.length) ∧ v'.ownBlock ≠ some g ∧ Below b w w' ∧ w.heap.size ≤ w'.heap.size := by
  obtain ⟨A, c0, rfl⟩ := ho.form
  have hlt := hb.lt
  have hown := upto' ho
  have Z1 := hb.alloc (.cells #[.int .i64 0, .int .i64 0, .int .i64 0, .string ⟨#[]⟩] 39)
  obtain ⟨a0, a1, a2, a3⟩ := Z1.drew.fourK
  obtain ⟨e0, e1, e2, e3⟩ := Z1.fourK
  obtain ⟨f0, f1, f2, f3⟩ := (Z1.alloc (.cells #[.int .i64 0, .int .i64 0, .int .i64 0, .string ⟨#[]⟩] 39)).fourK
  have P2 : PT w (((w.alloc (.cells #[.int .i64 0, .int .i64 0, .int .i64 0, .string ⟨#[]⟩] 39)).alloc (.cells #[.int .i64 c, .int .i64 n, .int .i64 255, .string ⟨#[]⟩] 39)).drew) b g w.heap.size (w.heap.size + 1) (kL c n r (.slice A l.length c0)) (frL 0 0 0 ⟨#[]⟩) (frL c n 255 ⟨#[]⟩) (.slice A l.length c0) l :=
    ⟨(((Below.refl b w).alloc (by omega) _).alloc (by simp; omega) _).drew, ((hb.alloc _).alloc _).drew, ((Box.made w (frL 0 0 0 ⟨#[]⟩) _ _ rfl).alloc _).drew, (Box.made (w.alloc (.cells (frL 0 0 0 ⟨#[]⟩).toArray 39)) (frL c n 255 ⟨#[]⟩) _ _ (by simp)).drew,
     ((ho.more ((Below.refl _ w).alloc (Nat.le_refl _) _)).more ((Below.refl _ _).alloc (Nat.le_refl _) _)).more (Below.refl _ _).drew, hne, fun e => by have := hown _ e; omega, fun e => by have := hown _ e; omega, hbg, by omega, by omega, by omega, by omega, by omega⟩
  have hz2 : (((w.alloc (.cells #[.int .i64 0, .int .i64 0, .int .i64 0, .string ⟨#[]⟩] 39)).alloc (.cells #[.int .i64 c, .int .i64 n, .int .i64 255, .string ⟨#[]⟩] 39)).drew).heap.size = w.heap.size + 2 := by simp
  have HP2 := Lib.hid P2
  clear hb ho P2
  go_enter Try.func64, Try.ntmps64
  go_wp2
  go_region
  all_goals go_upto_region 2 with fail
  clear a0 a1 a2 a3 e0 e1 e2 e3 f0 f1 f2 f3 Z1
  generalize (((w.alloc (.cells #[.int .i64 0, .int .i64 0, .int .i64 0, .string ⟨#[]⟩] 39)).alloc (.cells #[.int .i64 c, .int .i64 n, .int .i64 255, .string ⟨#[]⟩] 39)).drew) = W2 at *
  have tri : (∃ h : 0 < l.length, l[0] < 24) ∨ (∃ h : 0 < l.length, ¬ l[0] < 24) ∨ l.length = 0 := by
    rcases Nat.eq_zero_or_pos l.length with h | h
    · exact .inr (.inr h)
    · by_cases h1 : l[0] < 24
      · exact .inl ⟨h, h1⟩
      · exact .inr (.inl ⟨h, h1⟩)
  have HPOS := Lib.hid hpos
  clear hpos
  obtain ⟨a0, a1, a2, a3⟩ := HP2.out.bk.fourK
  have fi := HP2.out.bf.ice
  obtain ⟨f0, f1, f2, f3⟩ := HP2.out.bf.four
  rcases tri with ⟨h0, h1⟩ | ⟨h0, h1⟩ | h0
  case' inl =>
    have hd0 : decide (0 < l.length) = true := by simp; omega
    have hd0' : decide ((0 : Int) < (l.length : Int)) = true := by simp; omega
    have hg0 : l.getD 0 0 = l[0] := by simp [List.getD_eq_getElem?_getD, h0]
    obtain ⟨b1, off, hA, hb1, hc⟩ := HP2.out.own.ints.resolve_left (by omega)
    subst hA
    have hc0 := hc 0 h0
    rw [Nat.add_zero] at hc0
    have HF := Lib.hid (show firstI l = l[0] from by unfold firstI; rw [hg0, if_pos ⟨h0, h1⟩])
    clear hc hg0
    generalize l[0] = x at *
    have hdx : decide (x < 24) = true := by simp; omega
    have P3 := Lib.hid (show PT w (W2.setCell ⟨w.heap.size + 1, 2, none⟩ (.int .i64 x)) b g w.heap.size (w.heap.size + 1) (kL c n r (.slice (some ⟨b1, off, none⟩) l.length c0)) (frL 0 0 0 ⟨#[]⟩) (frL c n (firstI l) ⟨#[]⟩) (.slice (some ⟨b1, off, none⟩) l.length c0) l from by rw [HF.out]; exact HP2.out.putF 2 (by simp) (.int .i64 x))
    have hz3 : (W2.setCell ⟨w.heap.size + 1, 2, none⟩ (.int .i64 x)).heap.size = w.heap.size + 2 := by rw [← hz2]; simp
    go_upto_region 4 with fail
    clear HP2 a0 a1 a2 a3 f0 f1 f2 f3 fi hc0 hdx h1 HF hne hown
    generalize W2.setCell ⟨w.heap.size + 1, 2, none⟩ (.int .i64 x) = W3 at *
    generalize Value.slice (some ⟨b1, off, none⟩) l.length c0 = VS at *
  case' inr.inl =>
    have hd0 : decide (0 < l.length) = true := by simp; omega
    have hd0' : decide ((0 : Int) < (l.length : Int)) = true := by simp; omega
    have hg0 : l.getD 0 0 = l[0] := by simp [List.getD_eq_getElem?_getD, h0]
    obtain ⟨b1, off, hA, hb1, hc⟩ := HP2.out.own.ints.resolve_left (by omega)
    subst hA
    have hc0 := hc 0 h0
    rw [Nat.add_zero] at hc0
    have HF := Lib.hid (show firstI l = 255 from by unfold firstI; rw [hg0, if_neg (fun h => h1 h.2)])
    clear hc hg0
    generalize l[0] = x at *
    have hdx : decide (x < 24) = false := by simp; omega
    have P3 := Lib.hid (show PT w W2 b g w.heap.size (w.heap.size + 1) (kL c n r (.slice (some ⟨b1, off, none⟩) l.length c0)) (frL 0 0 0 ⟨#[]⟩) (frL c n (firstI l) ⟨#[]⟩) (.slice (some ⟨b1, off, none⟩) l.length c0) l from by rw [HF.out]; exact HP2.out)
    have hz3 := hz2
    go_upto_region 4 with fail
    clear HP2 a0 a1 a2 a3 f0 f1 f2 f3 fi hc0 hdx h1 HF hne hown hz2 hb1
    generalize W2 = W3 at *
    generalize Value.slice (some ⟨b1, off, none⟩) l.length c0 = VS at *
  case' inr.inr =>
    have hd0 : decide (0 < l.length) = false := decide_eq_false (by omega)
    have hd0' : decide ((0 : Int) < (l.length : Int)) = false := decide_eq_false (by omega)
    have HF := Lib.hid (show firstI l = 255 from by unfold firstI; rw [if_neg (fun h => by omega)])
    have P3 := Lib.hid (show PT w W2 b g w.heap.size (w.heap.size + 1) (kL c n r (.slice A l.length c0)) (frL 0 0 0 ⟨#[]⟩) (frL c n (firstI l) ⟨#[]⟩) (.slice A l.length c0) l from by rw [HF.out]; exact HP2.out)
    have hz3 := hz2
    go_upto_region 4 with fail
    clear HP2 a0 a1 a2 a3 f0 f1 f2 f3 fi HF hne hown hz2
    generalize W2 = W3 at *
    generalize Value.slice A l.length c0 = VS at *
  all_goals
    replace P3 := P3.out
    clear hd0 hd0' h0
    obtain ⟨F, hF⟩ : ∃ F, F = firstI l := ⟨_, rfl⟩
    rw [← hF] at P3
    have HFF := Lib.hid hF
    clear hF
    obtain ⟨A, c0, hVS⟩ := P3.own.form
    subst hVS
    obtain ⟨a0, a1, a2, a3⟩ := P3.bk.fourK
    have HTQ := Lib.hid (take_q r 24 g W3 a0 (P3.bk.ice 0) hr)
    go_wp2_with fail
    refine HTQ.out.mono ?_
    rintro e w4 ⟨rfl, rfl⟩
    have P4 := P3.putK 0 (by simp) (.string (r.extract 24 r.size))
    obtain ⟨f0, f1, f2, f3⟩ := P4.bf.four
    have fi := P4.bf.ice
    have P5 := Lib.hid (show PT w _ b g w.heap.size (w.heap.size + 1) (kL c n (r.extract 24 r.size) (.slice A l.length c0)) (frL 0 0 0 ⟨#[]⟩) (frL c n F (r.extract 0 24)) (.slice A l.length c0) l from P4.putF 3 (by simp) (.string (r.extract 0 24)))
    clear a0 a1 a2 a3 P4 P3
    go_upto_region 5 with fail
    clear f0 f1 f2 f3 fi HTQ
    have hz5 : ((W3.setCell ⟨g, 0, none⟩ (.string (r.extract 24 r.size))).setCell ⟨w.heap.size + 1, 3, none⟩ (.string (r.extract 0 24))).heap.size = w.heap.size + 2 := by simp; exact hz3
    generalize (W3.setCell ⟨g, 0, none⟩ (.string (r.extract 24 r.size))).setCell ⟨w.heap.size + 1, 3, none⟩ (.string (r.extract 0 24)) = W5 at *
    obtain ⟨a0, a1, a2, a3⟩ := P5.out.bk.fourK
    have ki := P5.out.bk.ice
    go_wp2_with fail
    refine (next_count n hn _).mono ?_
    rintro e w5 ⟨rfl, rfl⟩
    have P6 := Lib.hid (show PT w _ b g w.heap.size (w.heap.size + 1) (kL c ((n + 1) % 256) (r.extract 24 r.size) (.slice A l.length c0)) (frL 0 0 0 ⟨#[]⟩) (frL c n F (r.extract 0 24)) (.slice A l.length c0) l from P5.out.putK 2 (by simp) (.int .i64 ((n + 1) % 256)))
    go_upto_region 6 with fail
    have hz6 : (W5.setCell ⟨g, 2, none⟩ (.int .i64 ((n + 1) % 256))).heap.size = w.heap.size + 2 := by simp; exact hz5
    generalize W5.setCell ⟨g, 2, none⟩ (.int .i64 ((n + 1) % 256)) = W6 at *
    clear a0 a1 a2 a3 ki
    have K6 := P6.out.more ((Below.refl _ _).alloc (Nat.le_refl _) (.cells #[] 3))
    obtain ⟨a0, a1, a2, a3⟩ := K6.bk.fourK
    have HE := Lib.hid (show OwnI (W6.alloc (.cells #[] 3)) (w.heap.size + 2) (.slice (some ⟨w.heap.size + 2, 0, none⟩) 0 0) [] from by have h := OwnI.empty W6 (w.heap.size + 2) (by omega); rwa [hz6] at h)
    have HB6 := Lib.hid ((Below.refl (w.heap.size + 2) W6).alloc (by omega) (.cells #[] 3))
    have HI := Lib.hid (P6.out.own.ints)
    clear K6
    go_wp2
    go_loopg [4, 57] l.length (fun gh v4 v57 wx => ∃ k : Nat, k ≤ l.length ∧ gh = l.length - k ∧ v57 = .int .i64 (k : Int) ∧ OwnI wx (w.heap.size + 2) v4 (laterK l k) ∧ Below (w.heap.size + 2) W6 wx)
    case atStart => exact ⟨0, by omega, rfl, rfl, HE.out, HB6.out⟩
    case round =>
      obtain ⟨k, hk, rfl, rfl, hown4, hbel⟩ := hrel
      have HO4 := Lib.hid hown4
      have HBE := Lib.hid hbel
      by_cases hlk : k < l.length
      · have hd : decide (k < l.length) = true := by simp; omega
        have hd' : decide ((k : Int) < (l.length : Int)) = true := by simp; omega
        have hgk : l.getD k 0 = l[k] := by simp [List.getD_eq_getElem?_getD, hlk]
        have hpk := HPOS.out k hlk
        rcases HI.out with h1 | ⟨b1, off, hA, hb1, hc⟩
        · omega
        · subst hA
          have hck := (hbel.cell (p := ⟨b1, off + k, none⟩) (by rw [← hz6]; exact hb1)).trans (hc k hlk)
          have hlen := laterK_len l k
          have HY := Lib.hid (fun h => laterK_yes (l := l) (k := k) h)
          have HN := Lib.hid (fun h => laterK_no (l := l) (k := k) h)
          rw [hgk] at HY HN hpk
          generalize l[k] = x at *
          have hwx : IntKind.i64.wrap (x - 24) = x - 24 := IntWalk.i64_in _ (by omega)
          have hl2 : (laterK l k).length ≤ 1099511627 := by omega
          have hb2 : w.heap.size + 2 ≤ wr.heap.size := by have := hbel.size; omega
          clear hc hgk hbel hown4
          by_cases hx : 24 ≤ x
          · have hdx : decide (24 ≤ x) = true := by simp; omega
            go_wp2_with (at_builtin; refine app_int wr rfl _ _ rfl (w.heap.size + 2) u4 (laterK l k) (x - 24) rfl HO4.out _ 1 rfl hl2 hb2 ?_)
            intro v2 w2 hown2 hbel2 hz2'
            have HO2 := Lib.hid (show OwnI w2 (w.heap.size + 2) v2 (laterK l (k + 1)) from by rw [HY.out hx]; exact hown2)
            have HB2 := Lib.hid (HBE.out.trans hbel2)
            clear hown2 hbel2
            go_wp2
            go_roundg (l.length - (k + 1))
            case measure => omega
            case rel => exact ⟨k + 1, by omega, rfl, by go_num, HO2.out, HB2.out⟩
          · have hdx : decide (24 ≤ x) = false := by simp; omega
            have HO2 := Lib.hid (show OwnI wr (w.heap.size + 2) u4 (laterK l (k + 1)) from by rw [HN.out hx]; exact HO4.out)
            go_wp2
            go_roundg (l.length - (k + 1))
            case measure => omega
            case rel => exact ⟨k + 1, by omega, rfl, by go_num, HO2.out, HBE.out⟩
      · obtain rfl : k = l.length := by omega
        have hd : decide (l.length < l.length) = false := by simp
        have hd' : decide ((l.length : Int) < (l.length : Int)) = false := by simp
        obtain ⟨A4, c4, hu4⟩ := hown4.form
        subst hu4
        have P7 := P6.out.moreAt hbel (by omega) (by omega) (by omega) (fun k hk => by have := upto' P6.out.own k hk; omega)
        obtain ⟨b0, b1, b2, b3⟩ := P7.bk.fourK
        have ki := P7.bk.ice
        have P8 := Lib.hid (P7.putK 3 (by simp) (.slice A4 (laterK l l.length).length c4))
        have O8 := Lib.hid (HO4.out.past (g := g) (j := 3) (by omega) (.slice A4 (laterK l l.length).length c4))
        have hne4 := Lib.hid (show (Value.slice A4 (laterK l l.length).length c4).ownBlock ≠ some g from fun e => by have := (World.ownsRow.lt HO4.out _ e).1; omega)
        clear hbel hown4 P7 a0 a1 a2 a3
        go_upto_region 14 with fail
        generalize wr.setCell ⟨g, 3, none⟩ _ = W9 at *
        clear b0 b1 b2 b3 ki
        obtain ⟨f0, f1, f2, f3⟩ := P8.out.bf.four
        obtain ⟨r0, r1, r2, r3⟩ := P8.out.br.four
        have ri := P8.out.br.ice
        have BF := Lib.hid (P8.out.br.all (us := frL c n F (r.extract 0 24)) rfl)
        have BK := Lib.hid (Box.allOther (W := W9) P8.out.d1 (frL c n F (r.extract 0 24)) 0 _ P8.out.bk)
        have BB := Lib.hid (below_setCells P8.out.fr (frL c n F (r.extract 0 24)) 0 _ P8.out.below)
        have BO := Lib.hid (OwnI.cellsPast' (g := w.heap.size) (b := w.heap.size + 2) (by omega) (frL c n F (r.extract 0 24)) 0 _ O8.out)
        go_wp2
        show bodyPost Try.prog Try.f64 _ Exit.ret _ (W9.setCells w.heap.size 0 (frL c n F (r.extract 0 24)))
        generalize W9.setCells w.heap.size 0 (frL c n F (r.extract 0 24)) = WE at *
        obtain ⟨d0, d1, d2, d3⟩ := BF.out.four
        refine bodyPost_ret_by (v := frV c n F (r.extract 0 24)) ?_ rfl ⟨by rw [HFF.out], _, BK.out, BO.out.lower (by omega), hne4.out, BB.out, by have := BB.out.size; exact this⟩
        simp [results, Try.f64, go_sem, d0, d1, d2, d3]
end Go.Proofs.Ytegahdlfjdjcaaa
