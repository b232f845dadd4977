/- What this text proves: the parts IPu3 of the proof, each under its own words. -/
import Derived.Test.YtegahdlfjdjcaaaV36
import Derived.Test.YtegahdlfjdjcaaaV29
import Derived.Test.YtegahdlfjdjcaaaV37
import Derived.Deep.LoopGhost
/- What this text proves: the packets that the program's unpacker at work takes from its queue, and what it keeps. -/
namespace Go.Proofs.Ytegahdlfjdjcaaa
open Go.ChangeShapes Go.WideShapes Go.ChangeAt Go.RowKit
set_option linter.unusedVariables false

theorem info_pkt : (Try.prog.info? 28).map (fun i => (i.zero, i.size, i.bytes)) = some (some (pkV 0 0 ⟨#[]⟩), 3, 32) := by kernel_rfl
theorem grown_far {w W W' : World} {row row2 : Option Nat} (h1 : w.grownBy W row) (h2 : W.grownBy W' row2) (hr : ∀ k, row2 = some k → w.heap.size ≤ k) : w.grownBy W' row :=
  ⟨h2.os.trans h1.os, h2.tape.trans h1.tape, h2.output.trans h1.output, Nat.le_trans h1.size h2.size, fun k hk hne => (h2.block k (Nat.lt_of_lt_of_le hk h1.size) (fun e => by have := hr k e.symm; omega)).trans (h1.block k hk hne)⟩
theorem YB.far {w W W' : World} {g gf : Nat} {ks fs : List Value} {row : Option Nat} (h : YB w W g gf ks fs) (hg : W.grownBy W' row) (h1 : row ≠ some g) (h2 : row ≠ some gf) (hr : ∀ k, row = some k → w.heap.size ≤ k) : YB w W' g gf ks fs :=
  ⟨h.bk.grown hg h1, h.bf.grown hg h2, grown_far h.gr hg hr, h.ne⟩
theorem grown_cells {g : Nat} : ∀ (us : List Value) (o : Nat) (W : World), W.grownBy (W.setCells g o us) (some g) := by
  intro us
  induction us with
  | nil => intro o W; exact grown_of (Below.refl _ _) _
  | cons u r ih => intro o W; exact grown_trans (grown_one u) (ih _ _)
theorem YB.putF {w W : World} {g gf : Nat} {ks fs : List Value} (h : YB w W g gf ks fs) (us : List Value) (hl : us.length = fs.length) (hf : w.heap.size ≤ gf) : YB w (W.setCells gf 0 us) g gf ks us :=
  ⟨Box.allOther (W := W) (Ne.symm h.ne) us 0 _ h.bk, h.bf.all hl, grown_far h.gr (grown_cells us 0 W) (fun k e => by obtain rfl : gf = k := by injection e
                                                                                                                     exact hf), h.ne⟩
abbrev pkW (p : Pk) : Value := pkV p.1 p.2.1 p.2.2
theorem dec_zero (r : ByteArray) (hr : r.size ≤ 1048576) (w : World) :
    Calls Try.prog 18 #[.string r, .int .i64 0] w fun e w' => ∃ z : Int, e = .returned (.tuple #[pkW (pkP r), .int .i64 z, .bool (okP r)]) ∧ (okP r = true → z = ((lenP r : Nat) : Int)) ∧ Below w.heap.size w w' :=
  (dec_impl r hr 0 (by omega) w).mono fun e w' h => ⟨(decP r 0).2.2.2.1, h.1, fun ho => (okP_len ho).2.2, h.2⟩

set_option maxRecDepth 8000 in
set_option maxHeartbeats 4000000 in
theorem take_packets (c n : Int) (b : Bool) (r : ByteArray) (l : Int) (hl : 0 ≤ l ∧ l ≤ 1000000) (hr : r.size ≤ 1048576) (g : Nat) (w : World) (hb : Box w g (yL c n (b, r, l))) :
    Calls Try.prog 91 #[ptr g] w fun e w' => ∃ v, e = .returned v ∧ OwnP w' w.heap.size v (takeP r).1 ∧ Box w' g (yL c n (g3 (b, r, l))) ∧ w.grownBy w' (some g) := by
  have hlt := hb.lt
  have E1 := Lib.hid (show OwnP (w.alloc (.cells #[] 28)) w.heap.size (.slice (some ⟨w.heap.size, 0, none⟩) 0 0) [] from OwnR.empty w w.heap.size (Nat.le_refl _))
  have K1 := Lib.hid (hb.alloc (.cells #[] 28))
  have G1 := Lib.hid (grown_of ((Below.refl _ w).alloc (Nat.le_refl _) (.cells #[] 28)) (some g))
  have hz1 : (w.alloc (.cells #[] 28)).heap.size = w.heap.size + 1 := by simp
  obtain ⟨k0, k1, k2, k3, k4⟩ := K1.out.five
  obtain ⟨ip, hip, hp0, hp1, hp2⟩ := info_parts info_pkt
  have HIP := Lib.hid (And.intro hip (And.intro hp0 (And.intro hp1 hp2)))
  clear hb hip hp0 hp1 hp2
  go_enter Try.func91, Try.ntmps91
  go_wp2_with fail
  refine (dec_zero r hr _).mono ?_
  rintro e w2 ⟨z, rfl, hz, hb2⟩
  have Y3 := Lib.hid (show YB w (w2.alloc (.cells #[.int .i64 (pkP r).1, .int .i64 (pkP r).2.1, .string (pkP r).2.2] 28)) g w2.heap.size (yL c n (b, r, l)) (pkC (pkP r)) from
    ⟨(K1.out.more hb2).alloc _, Box.made w2 (pkC (pkP r)) _ _ rfl, grown_trans G1.out (grown_of (hb2.alloc hb2.size _) _), by have := hb2.size; rw [hz1] at this; omega⟩)
  have O3 := Lib.hid (show OwnP (w2.alloc (.cells #[.int .i64 (pkP r).1, .int .i64 (pkP r).2.1, .string (pkP r).2.2] 28)) w.heap.size (.slice (some ⟨w.heap.size, 0, none⟩) 0 0) [] from (OwnR.more (OwnR.more E1.out hb2) ((Below.refl _ _).alloc (Nat.le_refl _) _)))
  have hgp : w.heap.size + 1 ≤ w2.heap.size := by have := hb2.size; rw [hz1] at this; omega
  have N3 := Lib.hid (show (Value.slice (some ⟨w.heap.size, 0, none⟩) 0 0).ownBlock ≠ some w2.heap.size from fun e => by
    have e2 : w.heap.size = w2.heap.size := by simpa [Value.ownBlock] using e
    omega)
  have HZ := Lib.hid hz
  clear hb2 hz k0 k1 k2 k3 k4 E1 K1 G1
  go_upto_region 3 with fail
  generalize w2.alloc (.cells #[.int .i64 (pkP r).1, .int .i64 (pkP r).2.1, .string (pkP r).2.2] 28) = W3 at *
  generalize w2.heap.size = gp at *
  go_wp2
  go_loopg [3, 5, 6] (r.size + 1) (fun gh v3 v5 v6 wx => ∃ (k : Nat) (z : Int), 4 * k + (itP r k).2.size ≤ r.size ∧ gh = r.size + 1 - k ∧ v5 = .int .i64 z ∧ v6 = .bool (okP (itP r k).2) ∧ (okP (itP r k).2 = true → z = ((lenP (itP r k).2 : Nat) : Int)) ∧ OwnP wx w.heap.size v3 (itP r k).1 ∧ v3.ownBlock ≠ some gp ∧ YB w wx g gp (yL c n (b, (itP r k).2, l)) (pkC (pkP (itP r k).2)))
  case atStart => exact ⟨0, z, by simp [itP], rfl, rfl, rfl, HZ.out, O3.out, N3.out, Y3.out⟩
  case round =>
    obtain ⟨k, z, hk, rfl, rfl, rfl, hz, hown, hne, hy⟩ := hrel
    have HO := Lib.hid hown
    have HY := Lib.hid hy
    have HNE := Lib.hid hne
    have HLN := Lib.hid (itP_len r k)
    have HYES := Lib.hid (fun h => itP_yes (r0 := r) (k := k) h)
    have HAT := Lib.hid (fun h => takeP_at (r0 := r) (k := k) (by omega) h)
    obtain ⟨Pk', hPk⟩ : ∃ P, P = itP r k := ⟨_, rfl⟩
    rw [← hPk] at HO HY HYES HAT HLN hk hz
    rw [← hPk]
    have HPK := Lib.hid hPk
    clear hPk hown hy hne
    obtain ⟨L, q⟩ := Pk'
    simp only at hk hz
    obtain ⟨a0, a1, a2, a3, a4⟩ := HY.out.bk.five
    have ai := HY.out.bk.ice
    have hqr : q.size ≤ 1048576 := by omega
    cases hok : okP q with
    | true =>
      have hzz := hz hok
      subst hzz
      have hlen := okP_len hok
      have HST := Lib.hid (HYES.out hok)
      have HTK := Lib.hid (take_q q (lenP q) g wr a0 (ai 0) hlen.2.1)
      have Y5 := Lib.hid (show YB w (wr.setCell ⟨g, 0, none⟩ (.string (q.extract (lenP q) q.size))) g gp (yL c n (b, q.extract (lenP q) q.size, l)) (pkC (pkP q)) from HY.out.put 0 (by simp) (.string (q.extract (lenP q) q.size)))
      have O5 := Lib.hid (show OwnP (wr.setCell ⟨g, 0, none⟩ (.string (q.extract (lenP q) q.size))) w.heap.size u3 L from OwnR.away HO.out (fun e => by have := (OwnR.upto HO.out _ e).1; omega) _)
      have hq2 : (q.extract (lenP q) q.size).size + 4 ≤ q.size := by rw [ByteArray.size_extract]; omega
      generalize q.extract (lenP q) q.size = q2 at *
      generalize pkP q = p at *
      obtain ⟨f0, f1, f2⟩ := Y5.out.bf.three
      have hwz : w.heap.size ≤ (wr.setCell ⟨g, 0, none⟩ (.string q2)).heap.size := Y5.out.gr.size
      clear a0 a1 a2 a3 a4 ai hok hz
      go_wp2_with fail
      refine HTK.out.mono ?_
      rintro e w5 ⟨rfl, rfl⟩
      go_upto_region 5 with fail
      generalize wr.setCell ⟨g, 0, none⟩ (.string q2) = W5 at *
      by_cases h15 : p.1 = 15
      case' pos =>
        have t1 : (p.1 != 15) = false := by simp; exact h15
        have HL2 := Lib.hid (show (itP r (k + 1)) = (L, q2) from by rw [HST.out, if_pos h15, List.append_nil])
        have Y7 := Lib.hid Y5.out
        have O7 := Lib.hid O5.out
        have N7 := Lib.hid HNE.out
        go_upto_region 7 with fail
        clear f0 f1 f2 t1 h15 HST Y5 O5 HNE
        generalize W5 = W7 at *
        generalize u3 = v7 at *
        obtain ⟨L7, hL7⟩ : ∃ L7, L7 = L := ⟨_, rfl⟩
        rw [← hL7] at HL2 O7
      case' neg =>
        have t1 : (p.1 != 15) = true := by simp; exact h15
        have HL2 := Lib.hid (show (itP r (k + 1)) = (L ++ [p], q2) from by rw [HST.out, if_neg h15])
        have hll : L.length + [pkC p].length ≤ 1099511 := by have h1 : L.length ≤ k := HLN.out; simp only [List.length_cons, List.length_nil]; omega
        have O6 := Lib.hid (OwnR.more O5.out ((Below.refl _ _).alloc (Nat.le_refl _) (.cells #[.int .i64 p.1, .int .i64 p.2.1, .string p.2.2] 28)))
        have Y6 := Lib.hid (Y5.out.more ((Below.refl _ _).alloc (Nat.le_refl _) (.cells #[.int .i64 p.1, .int .i64 p.2.1, .string p.2.2] 28)))
        have HAT1 := Lib.hid (show RowsAt (W5.alloc (.cells #[.int .i64 p.1, .int .i64 p.2.1, .string p.2.2] 28)) (some ⟨W5.heap.size, 0, none⟩) [pkC p] from .inr ⟨W5.heap.size, 0, rfl, fun j u hu => by
          rw [Nat.zero_add, World.cell?_alloc_at _ _ _ _ rfl]
          simpa using hu⟩)
        have hwz1 : w.heap.size ≤ (W5.alloc (.cells #[.int .i64 p.1, .int .i64 p.2.1, .string p.2.2] 28)).heap.size := by simp; omega
        have hW5 : (W5.alloc (.cells #[.int .i64 p.1, .int .i64 p.2.1, .string p.2.2] 28)).heap.size = W5.heap.size + 1 := by simp
        go_wp2_with (at_builtin; go_loud (refine app_rows 28 24 3 32 (pkV 0 0 ⟨#[]⟩) ip _ rfl _ _ rfl Try.underlying24 HIP.out.1 HIP.out.2.1 HIP.out.2.2.1 HIP.out.2.2.2 rfl (by decide) (by decide) w.heap.size u3 (L.map pkC) rfl O6.out (some ⟨W5.heap.size, 0, none⟩) [pkC p] 1 rfl (by intro x hx; rw [List.mem_singleton.1 hx]; rfl) (by intro x hx u hu; rw [List.mem_singleton.1 hx] at hu; simp at hu; rcases hu with rfl | rfl | rfl <;> rfl) HAT1.out (by simpa using hll) hwz1 ?_))
        intro v7 w7 hown7 hg7 hor7
        have O7 := Lib.hid (show OwnP w7 w.heap.size v7 (L ++ [p]) from by
          show OwnR _ _ _ _ _ ((L ++ [p]).map pkC)
          rw [List.map_append]
          exact hown7)
        have Y7 := Lib.hid (Y6.out.far hg7 (fun e => by have := (OwnR.upto O6.out _ e).1; omega) HNE.out (fun j hj => (OwnR.upto O6.out j hj).1))
        have N7 := Lib.hid (show v7.ownBlock ≠ some gp from fun e => by
          rcases hor7 with h | h
          · exact HNE.out (h ▸ e)
          · rw [h] at e
            have e2 : W5.heap.size + 1 = gp := by simpa using e
            have := Y5.out.bf.lt
            omega)
        clear hown7 hg7 hor7
        go_upto_region 7 with fail
        clear f0 f1 f2 t1 h15 HST Y5 O5 HNE Y6 O6 HAT1 hwz1 hW5 hll
        generalize w7 = W7 at *
        obtain ⟨L7, hL7⟩ : ∃ L7, L7 = L ++ [p] := ⟨_, rfl⟩
        rw [← hL7] at HL2 O7
      all_goals
        obtain ⟨a0, a1, a2, a3, a4⟩ := Y7.out.bk.five
        go_wp2_with fail
        refine (dec_zero q2 (by omega) _).mono ?_
        rintro e w8 ⟨z8, rfl, hz8, hb8⟩
        have Y8 := Y7.out.more hb8
        obtain ⟨f0, f1, f2⟩ := Y8.bf.three
        have fi := Y8.bf.ice
        have Y9 := Lib.hid (Y8.putF (pkC (pkP q2)) rfl (by omega))
        have O9 := Lib.hid (OwnR.cellsAway N7.out (pkC (pkP q2)) 0 _ (OwnR.more O7.out hb8))
        have HZ8 := Lib.hid hz8
        clear Y8 hb8 hz8 a0 a1 a2 a3 a4
        go_wp2
        go_roundg (r.size + 1 - (k + 1))
        case measure => omega
        case rel =>
          have e1 := HL2.out
          refine ⟨k + 1, z8, ?_, rfl, rfl, ?_, ?_, ?_, N7.out, ?_⟩
          · rw [e1]; simp only; omega
          · rw [e1]
          · rw [e1]; exact HZ8.out
          · rw [e1]; exact O9.out
          · rw [e1]; exact Y9.out
    | false =>
      have hT := HAT.out hok
      have HT := Lib.hid hT
      have HBR := Lib.hid (broken_head c n b q l hqr g wr HY.out.bk)
      clear hT
      go_wp2_with fail
      refine HBR.out.mono ?_
      rintro e w' ⟨rfl, rfl⟩
      by_cases hbr : BrkP q
      · have hd : decide (BrkP q) = true := decide_eq_true hbr
        have HG := Lib.hid (show g3 (b, r, l) = (false, ⟨#[]⟩, lossN l) from by unfold g3; rw [HT.out]; exact if_pos hbr)
        have HLP := Lib.hid (lose_part c n b q l hl g wr HY.out.bk)
        rw [hd]
        go_wp2_with fail
        refine HLP.out.mono ?_
        rintro e w9 ⟨rfl, hbk, hgr⟩
        have hown9 := Lib.hid (OwnR.grown HO.out hgr (fun j hj e => by injection e with e; have := (OwnR.upto HO.out j hj).1; omega))
        have HBK := Lib.hid hbk
        have HGR := Lib.hid (grown_trans HY.out.gr hgr)
        clear hbk hgr
        go_wp2
        go_ret
        exact ⟨_, rfl, by rw [HT.out]; exact hown9.out, by rw [HG.out]; exact HBK.out, HGR.out⟩
      · have hd : decide (BrkP q) = false := decide_eq_false hbr
        have HG := Lib.hid (show g3 (b, r, l) = (b, q, l) from by unfold g3; rw [HT.out]; exact if_neg hbr)
        rw [hd]
        go_wp2
        go_ret
        exact ⟨_, rfl, by rw [HT.out]; exact HO.out, by rw [HG.out]; exact HY.out.bk, HY.out.gr⟩
end Go.Proofs.Ytegahdlfjdjcaaa
