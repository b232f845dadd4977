/- What this text proves: the parts FwLaw of the proof, each under its own words. -/
import Derived.Test.YtckofkdeedbbgaaV30
import Derived.Test.YtckofkdeedbbgaaV32
import Derived.Deep.LoopGhost
import Derived.Deep.RegionHeld3
/- What this text proves: the law that a file is there at last, whatever parts of it are lost, returns true for every bytes that it draws from. -/
namespace Go.Proofs.Ytckofkdeedbbgaa
open Go.ChangeShapes Go.WideShapes Go.ChangeAt Go.RowKit
set_option linter.unusedVariables false

/-- Four of the things. -/
theorem St.four {w W : World} {L : List Thing} (h : St w W L) (i j k m : Nat) {a b c e : Thing} (ei : L[i]? = some a) (ej : L[j]? = some b) (ek : L[k]? = some c) (em : L[m]? = some e) (h1 : i ≠ j) (h2 : i ≠ k) (h3 : i ≠ m) (h4 : j ≠ k) (h5 : j ≠ m) (h6 : k ≠ m) : St w W [a, b, c, e] := by
  have t := h.two
  refine ⟨h.below, fun x hx => ?_, fun x hx => ?_, ?_⟩
  · simp only [List.mem_cons, List.not_mem_nil, or_false] at hx
    rcases hx with rfl | rfl | rfl | rfl
    · exact h.nth i _ ei
    · exact h.nth j _ ej
    · exact h.nth k _ ek
    · exact h.nth m _ em
  · simp only [List.mem_cons, List.not_mem_nil, or_false] at hx
    rcases hx with rfl | rfl | rfl | rfl
    · exact h.nthPast i _ ei
    · exact h.nthPast j _ ej
    · exact h.nthPast k _ ek
    · exact h.nthPast m _ em
  · refine List.pairwise_cons.2 ⟨fun x hx => ?_, List.pairwise_cons.2 ⟨fun x hx => ?_, List.pairwise_cons.2 ⟨fun x hx => ?_, List.pairwise_singleton _ _⟩⟩⟩
    · simp only [List.mem_cons, List.not_mem_nil, or_false] at hx
      rcases hx with rfl | rfl | rfl
      · exact t i j _ _ ei ej h1
      · exact t i k _ _ ei ek h2
      · exact t i m _ _ ei em h3
    · simp only [List.mem_cons, List.not_mem_nil, or_false] at hx
      rcases hx with rfl | rfl
      · exact t j k _ _ ej ek h4
      · exact t j m _ _ ej em h5
    · rw [List.mem_singleton.1 hx]
      exact t k m _ _ ek em h6
theorem part_size {d : ByteArray} (hd : d.size ≤ 200) {x : Int} {r : List Int} (h : QOf d (x :: r)) : (partO 4 d x).size ≤ 30 := by
  rcases h x (List.mem_cons_self ..) with rfl | hx
  · rw [partO_end]
    have := (decE_back (f := 4) (d := d) ⟨by omega, by omega⟩).2
    omega
  · have h0 := hx.1
    rw [partO_seg (by omega)]
    have := (decS_back (segS_ok (f := 4) hx (by omega))).2
    have := segS_size d x
    omega
set_option maxRecDepth 20000 in
set_option maxHeartbeats 16000000 in
theorem law_filesWhole (A : Option Addr) (n c0 : Nat) (hm : n ≤ maxLen) (w : World) (hc : CodeOk w w.heap.size A n) :
    Calls Try.prog 6 #[.slice A n c0] w fun e w' => e = .returned (.bool true) ∧ Below w.heap.size w w' := by
  by_cases hbig : 1048576 < n
  · go_enter Try.func6, Try.ntmps6
    go_wp2_with (go_at_call 9; refine (big_yes _ _ _ hbig hm _).mono ?_; rintro e w' ⟨rfl, rfl⟩)
    go_ret
    exact ⟨rfl, Below.refl _ _⟩
  · have hn : n ≤ 1048576 := by omega
    have Ha := Lib.hid (fun (w1 : World) (hb : Below w.heap.size w w1) i hi => at_any w.heap.size A n c0 hn i hi w1 (hc.more hb))
    have Hf := Lib.hid (draw_file A n c0 hn w hc)
    clear hc hbig
    go_enter Try.func6, Try.ntmps6
    go_wp2_with (go_at_call 9; refine (big_no _ _ _ hn _).mono ?_; rintro e w' ⟨rfl, rfl⟩)
    refine Hf.out.mono ?_
    rintro e w1 ⟨d, hd, rfl, hb1⟩
    have S1 := Lib.hid ((St.start w).more hb1)
    have HD := Lib.hid hd
    obtain ⟨hs1, hs2⟩ := Fw.start hd
    have HW := Lib.hid hs2
    have HN := (fun W => nfo_impl 4 d (by omega) W)
    rw [hs1] at HN
    have HN := Lib.hid HN
    have HNI := Lib.hid (fun W => nfi_impl 4 W)
    have HL0 := newQ_len d
    clear hb1 hs1 hs2 Hf
    generalize newQ d = l0 at *
    go_wp2_with fail
    refine (HN.out _).mono ?_
    rintro e w2 ⟨v2, rfl, hp2, hn2, hb2⟩
    obtain ⟨Ao, qo, rfl, ho2⟩ := id hp2
    have S2 := Lib.hid ((S1.out.add (lsT 1 (.slice Ao l0.length qo) (l0.map inC)) hb2 ho2 (fun k hk => hn2 k (blkFo_iff.2 hk))).made (foL 4 d false (.slice Ao l0.length qo)) 62)
    clear S1 hp2 hn2 hb2 ho2 HN
    generalize hgo : w2.heap.size = go at *
    go_wp2_with fail
    refine (HNI.out _).mono ?_
    rintro e w3 ⟨v3, rfl, hp3, hn3, hb3⟩
    obtain ⟨Af, qf, hv3, ho3⟩ := id hp3
    have hv3' : v3 = fiV 4 (-1) (-1) (.slice Af (List.replicate 25 (⟨#[]⟩ : ByteArray)).length qf) := hv3
    subst hv3'
    have S3 := Lib.hid ((S2.out.add (lsT 1 (.slice Af (List.replicate 25 (⟨#[]⟩ : ByteArray)).length qf) ((List.replicate 25 (⟨#[]⟩ : ByteArray)).map txC)) hb3 ho3 (fun k hk => hn3 k (blkFi_iff.2 hk))).made (fiL 4 (-1) (-1) (.slice Af (List.replicate 25 (⟨#[]⟩ : ByteArray)).length qf)) 67)
    clear S2 hp3 hn3 hb3 ho3 HNI hv3
    generalize hgf : w3.heap.size = gf at *
    have SR := Lib.hid (S3.out.four 3 1 2 0 rfl rfl rfl rfl (by decide) (by decide) (by decide) (by decide) (by decide) (by decide))
    clear S3
    generalize List.replicate 25 (⟨#[]⟩ : ByteArray) = p0 at *
    go_wp2
    go_loopg [7] 90 (fun gh u wx => ∃ (k : Nat) (l : List Int) (b : Bool) (z c : Int) (p : List ByteArray) (Ao : Option Addr) (qo : Nat) (Af : Option Addr) (qf : Nat), k ≤ 90 ∧ gh = 90 - k ∧ u = .int .i64 (k : Int) ∧ Fw d l b z c p ∧ (41 ≤ k → Near d (90 - k) l z p) ∧ St w wx [lsT 1 (.slice Ao l.length qo) (l.map inC), lsT 1 (.slice Af p.length qf) (p.map txC), boxT go (foL 4 d b (.slice Ao l.length qo)), boxT gf (fiL 4 z c (.slice Af p.length qf))])
    case atStart => exact ⟨0, l0, false, -1, -1, p0, Ao, qo, Af, qf, by omega, rfl, rfl, HW.out, (fun h => by omega), SR.out⟩
    case round =>
      obtain ⟨k, l, b, z, c, p, Ao, qo, Af, qf, hk, rfl, rfl, hfw, hnear, hst⟩ := hrel
      have SS := Lib.hid hst
      have HF := Lib.hid hfw
      have HNr := Lib.hid hnear
      have hp25 : p.length = 25 := hfw.parts.1
      have hl11 := hfw.short
      have hn9 := n_le hd
      have hll : l.length ≤ 1000 := by omega
      have hpp : p.length ≤ 1000 := by omega
      clear hst hfw hnear SR HW hp25 hl11 hn9
      by_cases hlt : k < 90
      · have hd1 : decide (k < 90) = true := by simp; omega
        have hd2 : decide ((k : Int) < 90) = true := by simp; omega
        have HX := Lib.hid (nx_impl 4 d Ao l qo b (by omega) (by omega) ((SS.out.ls 0 1 _ _ rfl).cap _ _ _ rfl))
        obtain ⟨k0, k1, k2, k3⟩ := (SS.out.box 2 _ _ rfl).fourFo
        have ki := (SS.out.box 2 _ _ rfl).ice
        have HX := Lib.hid (HX.out _ (LsO.ats (SS.out.ls 0 1 _ _ rfl)))
        cases l with
        | nil =>
          rw [nxP_no (fun g => by have := g.2; simp at this)] at HX
          go_wp2_with fail
          refine HX.out.mono ?_
          rintro e w11 ⟨v, rfl, hp, hn', hb11⟩
          obtain ⟨Ax, qx, hvx, hox⟩ := id hp
          have hvx' : v = foV 4 d b (.slice Ax 0 qx) := hvx
          subst hvx'
          clear hvx
          have S11 := Lib.hid (SS.out.add (lsT 1 (.slice Ax 0 qx) (([] : List Int).map inC)) hb11 hox (fun k hk => hn' k (blkFo_iff.2 hk)))
          have S12 := Lib.hid (S11.out.made (foL 4 d b (.slice Ax 0 qx)) 62)
          clear SS S11 hp hn' hox hb11 HX k0 k1 k2 k3 ki
          obtain ⟨x0, x1, x2, x3⟩ := (S12.out.box 0 _ _ rfl).fourFo
          obtain ⟨k0, k1, k2, k3⟩ := (S12.out.box 4 _ _ rfl).fourFo
          have ki := (S12.out.box 4 _ _ rfl).ice
          have S13 := Lib.hid (S12.out.setAll 4 _ _ rfl (foL 4 d b (.slice Ax 0 qx)) rfl)
          clear S12
          obtain ⟨f0, f1, f2, f3⟩ := (S13.out.box 5 _ _ rfl).fourFi
          have fi := (S13.out.box 5 _ _ rfl).ice
          have HE := Lib.hid (fun W => ee_impl 4 d (by omega) W)
          go_wp2_with fail
          refine (HE.out _).mono ?_
          rintro e w14 ⟨rfl, hb14⟩
          have S14 := Lib.hid (S13.out.more hb14)
          clear S13 hb14 HE x0 x1 x2 x3 k0 k1 k2 k3 ki f0 f1 f2 f3 fi
          obtain ⟨f0, f1, f2, f3⟩ := (S14.out.box 5 _ _ rfl).fourFi
          have fi := (S14.out.box 5 _ _ rfl).ice
          have HH := (hear_impl 4 z c Af p qf (eeT 4 d) (by omega) (by have := (decE_back (f := 4) (d := d) ⟨by omega, by omega⟩).2; omega) _ (LsO.ats (S14.out.ls 3 1 _ _ rfl)))
          rw [hear_end hd HF.out.parts HF.out.ends] at HH
          have HH := Lib.hid HH
          go_wp2_with fail
          refine HH.out.mono ?_
          rintro e w15 ⟨v, rfl, hp, hn', hb15⟩
          obtain ⟨Ag, qg, rfl, hog⟩ := id hp
          have S15 := Lib.hid (S14.out.add (lsT 1 (.slice Ag p.length qg) (p.map txC)) hb15 hog (fun k hk => hn' k (blkFi_iff.2 hk)))
          clear S14 hp hn' hog hb15 HH f0 f1 f2 f3 fi
          obtain ⟨f0, f1, f2, f3⟩ := (S15.out.box 6 _ _ rfl).fourFi
          have fi := (S15.out.box 6 _ _ rfl).ice
          have S16 := Lib.hid (show St w ((((w15.setCell ⟨gf, 0, none⟩ (.int .i64 4)).setCell ⟨gf, 1, none⟩ (.int .i64 (d.size : Int))).setCell ⟨gf, 2, none⟩ (.int .i64 ((crc d : Nat) : Int))).setCell ⟨gf, 3, none⟩ (.slice Ag p.length qg)) _ from S15.out.setAll 6 _ _ rfl (fiL 4 (d.size : Int) ((crc d : Nat) : Int) (.slice Ag p.length qg)) rfl)
          clear S15
          obtain ⟨l', b', hhm, hfw', hnr'⟩ := Fw.empty hd HF.out
          have HF2 := Lib.hid hfw'
          have HNr2 := Lib.hid (show 41 ≤ k + 1 → Near d (90 - (k + 1)) l' (d.size : Int) p from fun h41 => by
            by_cases h42 : 41 ≤ k
            · exact hnr' _ (by have := HNr.out h42; rw [show 90 - (k + 1) + 1 = 90 - k by omega]; exact this)
            · exact Near.begin hd HF2.out.short (by omega))
          have hml := misL_len 4 (d.size : Int) ((crc d : Nat) : Int) p
          have HM := Lib.hid (mo_impl 4 (d.size : Int) ((crc d : Nat) : Int) Ag p qg (by omega) _ (LsO.ats (S16.out.drew.ls 0 1 _ _ rfl)))
          have HHM := (fun (Am : Option Addr) (qm : Nat) W (hl : LsI 1 W W.heap.size Ax (([] : List Int).map inC)) (hmm : LsI 1 W W.heap.size Am ((misL 4 (d.size : Int) ((crc d : Nat) : Int) p).map inC)) => hm_impl 4 d Ax [] qx b 4 Am (misL 4 (d.size : Int) ((crc d : Nat) : Int) p) qm (by omega) (by simp) (by omega) W hl hmm)
          rw [hhm] at HHM
          simp only [List.length_nil] at HHM
          have HHM := Lib.hid HHM
          clear hfw' hnr' hhm HF HNr hml
          generalize misL 4 (d.size : Int) ((crc d : Nat) : Int) p = mm at *
          obtain ⟨k0, k1, k2, k3⟩ := (S16.out.box 5 _ _ rfl).fourFo
          have ki := (S16.out.box 5 _ _ rfl).ice
          obtain ⟨h0, h1, h2, h3⟩ := (show Box _ _ (fiL 4 (d.size : Int) ((crc d : Nat) : Int) (.slice Ag p.length qg)) from S16.out.box 6 _ _ rfl).fourFi
          generalize hcr : ((crc d : Nat) : Int) = cc at *
          go_upto_region 14 with fail
          generalize ((((w15.setCell ⟨gf, 0, none⟩ (.int .i64 4)).setCell ⟨gf, 1, none⟩ (.int .i64 (d.size : Int))).setCell ⟨gf, 2, none⟩ (.int .i64 cc)).setCell ⟨gf, 3, none⟩ (.slice Ag p.length qg)) = wz at *
          go_region_law ((first
            | (go_simp; go_at_call 31; (with_reducible refine HM.out.mono ?_); rintro e w17 ⟨vm, rfl, hpm, hnm, hb17⟩; obtain ⟨Am, qm, rfl⟩ := inT_form hpm; have S17 := Lib.hid (S16.out.drew.add (lsT 1 (.slice Am mm.length qm) (mm.map inC)) hb17 hpm hnm); obtain ⟨a0, a1, a2, a3⟩ := (show Box _ _ (foL 4 d b (.slice Ax 0 qx)) from S17.out.box 6 _ _ rfl).fourFo; obtain ⟨c0, c1, c2, c3⟩ := (show Box _ _ (fiL 4 (d.size : Int) cc (.slice Ag p.length qg)) from S17.out.box 7 _ _ rfl).fourFi)
            | (go_simp; go_at_call 30; (with_reducible refine (HHM.out Am qm _ (LsO.ats (S17.out.ls 3 1 _ _ rfl)) (LsO.ats (S17.out.ls 0 1 _ _ rfl))).mono ?_); rintro e w18 ⟨v, rfl, hp, hn', hb18⟩; obtain ⟨An, qn, rfl, hon⟩ := id hp; have S18 := Lib.hid (S17.out.add (lsT 1 (.slice An l'.length qn) (l'.map inC)) hb18 hon (fun k hk => hn' k (blkFo_iff.2 hk))); obtain ⟨aa0, aa1, aa2, aa3⟩ := (show Box _ _ (foL 4 d b (.slice Ax 0 qx)) from S18.out.box 7 _ _ rfl).fourFo; obtain ⟨cc0, cc1, cc2, cc3⟩ := (show Box _ _ (fiL 4 (d.size : Int) cc (.slice Ag p.length qg)) from S18.out.box 8 _ _ rfl).fourFi; have aai := (S18.out.box 7 _ _ rfl).ice; have S19 := Lib.hid (show St w ((((w18.setCell ⟨go, 0, none⟩ (.int .i64 4)).setCell ⟨go, 1, none⟩ (.string d)).setCell ⟨go, 2, none⟩ (.slice An l'.length qn)).setCell ⟨go, 3, none⟩ (.bool b')) _ from S18.out.setAll 7 _ _ rfl (foL 4 d b' (.slice An l'.length qn)) rfl); obtain ⟨ab0, ab1, ab2, ab3⟩ := (show Box _ _ (foL 4 d b' (.slice An l'.length qn)) from S19.out.box 7 _ _ rfl).fourFo; obtain ⟨cb0, cb1, cb2, cb3⟩ := (show Box _ _ (fiL 4 (d.size : Int) cc (.slice Ag p.length qg)) from S19.out.box 8 _ _ rfl).fourFi)))
          all_goals
            have S20 := Lib.hid S19.out
            generalize ((((w18.setCell ⟨go, 0, none⟩ (.int .i64 4)).setCell ⟨go, 1, none⟩ (.string d)).setCell ⟨go, 2, none⟩ (.slice An l'.length qn)).setCell ⟨go, 3, none⟩ (.bool b')) = wn at *
            clear HM HHM hb17 hb18 S17 S18 S19 hpm hnm hp hn' hon
            clear k0 k1 k2 k3 ki h0 h1 h2 h3 a0 a1 a2 a3 c0 c1 c2 c3 aa0 aa1 aa2 aa3 cc0 cc1 cc2 cc3 aai ab0 ab1 ab2 ab3 cb0 cb1 cb2 cb3 S16
            have hpl : p.length ≤ 1000 := by have := HF2.out.parts.1; omega
            have hll2 : l'.length ≤ 1000 := by have := HF2.out.short; have := n_le hd; omega
            have HT := Lib.hid (ft_impl 4 (d.size : Int) cc Ag p qg (by omega) ((S20.out.ls 2 1 _ _ rfl).cap _ _ _ rfl) _ (LsO.ats (S20.out.ls 2 1 _ _ rfl)))
            obtain ⟨f0, f1, f2, f3⟩ := (S20.out.box 8 _ _ rfl).fourFi
            have fi := (S20.out.box 8 _ _ rfl).ice
            by_cases hw : WholeF d (d.size : Int) p
            · have hft := ft_whole hd HF2.out.parts HF2.out.ends hw
              have hms := mis_whole hd HF2.out.parts HF2.out.ends hw
              rw [hft] at HT
              go_wp2_with fail
              refine HT.out.mono ?_
              rintro e w21 ⟨rfl, hb21⟩
              have S21 := Lib.hid (S20.out.more hb21)
              clear S20 hb21 HT hft f0 f1 f2 f3 fi
              have hdd : (d.toList != d.toList) = false := by simp
              have HM := Lib.hid (mo_impl 4 (d.size : Int) cc Ag p qg (by omega) _ (LsO.ats (S21.out.ls 2 1 _ _ rfl)))
              rw [hms] at HM
              clear hms hw
              obtain ⟨f0, f1, f2, f3⟩ := (S21.out.box 8 _ _ rfl).fourFi
              have fi := (S21.out.box 8 _ _ rfl).ice
              go_wp2_with fail
              refine HM.out.mono ?_
              rintro e w22 ⟨vm, rfl, hpm, _, hb22⟩
              obtain ⟨Am, qm, rfl⟩ := inT_form hpm
              have S22 := Lib.hid (S21.out.more hb22)
              clear S21 hb22 hpm HM f0 f1 f2 f3 fi
              obtain ⟨g0, g1, g2, g3⟩ := (S22.out.box 7 _ _ rfl).fourFo
              have gi := (S22.out.box 7 _ _ rfl).ice
              have SF := Lib.hid (S22.out.four 0 2 7 8 rfl rfl rfl rfl (by decide) (by decide) (by decide) (by decide) (by decide) (by decide))
              go_wp2
              all_goals
                go_roundg (90 - (k + 1))
                case measure => omega
                case rel => exact ⟨k + 1, l', b', (d.size : Int), cc, p, An, qn, Ag, qg, by omega, rfl, by go_num, HF2.out, HNr2.out, SF.out⟩
            · have hft := ft_not hd HF2.out.parts HF2.out.ends hw
              have hbf := Lib.hid (show b' = false by cases hb9 : b'; rfl; exact absurd (HF2.out.done hb9) hw)
              rw [hft] at HT
              go_wp2_with fail
              refine HT.out.mono ?_
              rintro e w23 ⟨rfl, hb23⟩
              have S23 := Lib.hid (S20.out.more hb23)
              clear S20 hb23 HT hft f0 f1 f2 f3 fi
              obtain ⟨g0, g1, g2, g3⟩ := (S23.out.box 7 _ _ rfl).fourFo
              have gi := (S23.out.box 7 _ _ rfl).ice
              have SF := Lib.hid (S23.out.four 0 2 7 8 rfl rfl rfl rfl (by decide) (by decide) (by decide) (by decide) (by decide) (by decide))
              rw [hbf.out] at g3
              clear hbf hw
              go_wp2
              all_goals
                go_roundg (90 - (k + 1))
                case measure => omega
                case rel => exact ⟨k + 1, l', b', (d.size : Int), cc, p, An, qn, Ag, qg, by omega, rfl, by go_num, HF2.out, HNr2.out, SF.out⟩
        | cons x r =>
          have hnx : nxP 4 d (x :: r) b = (4, d, r, b, partO 4 d x, true) := nxP_yes (fo_ok hd HF.out.queue HF.out.short) (by simp)
          rw [hnx] at HX
          obtain ⟨z', c', p', hhe, hfh, hnh⟩ := Fw.heard hd HF.out
          have HFL := Lib.hid HF.out.lost
          have HFH := Lib.hid hfh
          have HNH := Lib.hid (show 41 ≤ k + 1 → Near d (90 - (k + 1)) r z' p' from fun h41 => by
            by_cases h42 : 41 ≤ k
            · exact hnh _ (by have := HNr.out h42; rw [show 90 - (k + 1) + 1 = 90 - k by omega]; exact this)
            · exact Near.begin hd HFH.out.short (by omega))
          have HNL := Lib.hid (show k ≤ 40 → 41 ≤ k + 1 → Near d (90 - (k + 1)) r z p from fun _ h41 => Near.begin hd HFL.out.short (by omega))
          have HPS := part_size hd HF.out.queue
          have hp2 := HF.out.parts.1
          clear hnx hfh hnh HF HNr
          generalize partO 4 d x = part at *
          have HHH := Lib.hid (fun W (hl : LsI 1 W W.heap.size Af (p.map txC)) => (show Calls Try.prog 29 #[fiV 4 z c (.slice Af p.length qf), .string part] W (FiEnd W (4, z', c', p')) from hhe ▸ hear_impl 4 z c Af p qf part (by omega) (by omega) W hl))
          clear hhe hp2
          go_wp2_with fail
          refine HX.out.mono ?_
          rintro e w24 ⟨v, rfl, hp, hn', hb24⟩
          obtain ⟨Ax, qx, hvx, hox⟩ := id hp
          have hvx' : v = foV 4 d b (.slice Ax r.length qx) := hvx
          subst hvx'
          clear hvx
          have S24 := Lib.hid (SS.out.add (lsT 1 (.slice Ax r.length qx) (r.map inC)) hb24 hox (fun k hk => hn' k (blkFo_iff.2 hk)))
          have S25 := Lib.hid (S24.out.made (foL 4 d b (.slice Ax r.length qx)) 62)
          clear SS S24 hp hn' hox hb24 HX k0 k1 k2 k3 ki
          obtain ⟨x0, x1, x2, x3⟩ := (S25.out.box 0 _ _ rfl).fourFo
          obtain ⟨k0, k1, k2, k3⟩ := (S25.out.box 4 _ _ rfl).fourFo
          have ki := (S25.out.box 4 _ _ rfl).ice
          have S26 := Lib.hid (S25.out.setAll 4 _ _ rfl (foL 4 d b (.slice Ax r.length qx)) rfl)
          clear S25
          obtain ⟨f0, f1, f2, f3⟩ := (S26.out.box 5 _ _ rfl).fourFi
          have fi := (S26.out.box 5 _ _ rfl).ice
          go_wp2_with fail
          refine (Ha.out _ S26.out.below k (by omega)).mono ?_
          rintro e w27 ⟨u0, hu0, rfl, rfl⟩
          by_cases hg : 0 < (u0 : Int) % 3
          · have hg1 : decide (0 < (u0 : Int) % 3) = true := by simp; omega
            go_wp2_with fail
            refine (HHH.out _ (LsO.ats (S26.out.ls 3 1 _ _ rfl))).mono ?_
            rintro e w28 ⟨v, rfl, hp, hn', hb28⟩
            obtain ⟨Ag, qg, hvg, hog⟩ := id hp
            have hvg' : v = fiV 4 z' c' (.slice Ag p'.length qg) := hvg
            subst hvg'
            clear hvg
            have S28 := Lib.hid (S26.out.add (lsT 1 (.slice Ag p'.length qg) (p'.map txC)) hb28 hog (fun k hk => hn' k (blkFi_iff.2 hk)))
            clear S26 hp hn' hog hb28 HHH f0 f1 f2 f3 fi k0 k1 k2 k3 ki x0 x1 x2 x3
            obtain ⟨f0, f1, f2, f3⟩ := (S28.out.box 6 _ _ rfl).fourFi
            have fi := (S28.out.box 6 _ _ rfl).ice
            have S29 := Lib.hid (S28.out.setAll 6 _ _ rfl (fiL 4 z' c' (.slice Ag p'.length qg)) rfl)
            clear S28
            have hpl : p'.length ≤ 1000 := by have := HFH.out.parts.1; omega
            have hll2 : r.length ≤ 1000 := by have := HFH.out.short; have := n_le hd; omega
            have HT := Lib.hid (ft_impl 4 z' c' Ag p' qg (by omega) ((S29.out.ls 0 1 _ _ rfl).cap _ _ _ rfl) _ (LsO.ats (S29.out.ls 0 1 _ _ rfl)))
            obtain ⟨f0, f1, f2, f3⟩ := (S29.out.box 6 _ _ rfl).fourFi
            have fi := (S29.out.box 6 _ _ rfl).ice
            by_cases hw : WholeF d z' p'
            · have hft := ft_whole hd HFH.out.parts HFH.out.ends hw
              have hms := mis_whole hd HFH.out.parts HFH.out.ends hw
              rw [hft] at HT
              go_wp2_with fail
              refine HT.out.mono ?_
              rintro e w30 ⟨rfl, hb30⟩
              have S30 := Lib.hid (S29.out.more hb30)
              clear S29 hb30 HT hft f0 f1 f2 f3 fi
              have hdd : (d.toList != d.toList) = false := by simp
              have HM := Lib.hid (mo_impl 4 z' c' Ag p' qg (by omega) _ (LsO.ats (S30.out.ls 0 1 _ _ rfl)))
              rw [hms] at HM
              clear hms hw
              obtain ⟨f0, f1, f2, f3⟩ := (S30.out.box 6 _ _ rfl).fourFi
              have fi := (S30.out.box 6 _ _ rfl).ice
              go_wp2_with fail
              refine HM.out.mono ?_
              rintro e w31 ⟨vm, rfl, hpm, _, hb31⟩
              obtain ⟨Am, qm, rfl⟩ := inT_form hpm
              have S31 := Lib.hid (S30.out.more hb31)
              clear S30 hb31 hpm HM f0 f1 f2 f3 fi
              obtain ⟨g0, g1, g2, g3⟩ := (S31.out.box 5 _ _ rfl).fourFo
              have gi := (S31.out.box 5 _ _ rfl).ice
              have SF := Lib.hid (S31.out.four 2 0 5 6 rfl rfl rfl rfl (by decide) (by decide) (by decide) (by decide) (by decide) (by decide))
              go_wp2
              all_goals
                go_roundg (90 - (k + 1))
                case measure => omega
                case rel => exact ⟨k + 1, r, b, z', c', p', Ax, qx, Ag, qg, by omega, rfl, by go_num, HFH.out, HNH.out, SF.out⟩
            · have hft := ft_not hd HFH.out.parts HFH.out.ends hw
              have hbf := Lib.hid (show b = false by cases hb9 : b; rfl; exact absurd (HFH.out.done hb9) hw)
              rw [hft] at HT
              go_wp2_with fail
              refine HT.out.mono ?_
              rintro e w32 ⟨rfl, hb32⟩
              have S32 := Lib.hid (S29.out.more hb32)
              clear S29 hb32 HT hft f0 f1 f2 f3 fi
              obtain ⟨g0, g1, g2, g3⟩ := (S32.out.box 5 _ _ rfl).fourFo
              have gi := (S32.out.box 5 _ _ rfl).ice
              have SF := Lib.hid (S32.out.four 2 0 5 6 rfl rfl rfl rfl (by decide) (by decide) (by decide) (by decide) (by decide) (by decide))
              rw [hbf.out] at g3
              clear hbf hw
              go_wp2
              all_goals
                go_roundg (90 - (k + 1))
                case measure => omega
                case rel => exact ⟨k + 1, r, b, z', c', p', Ax, qx, Ag, qg, by omega, rfl, by go_num, HFH.out, HNH.out, SF.out⟩
          · have hg1 : decide (0 < (u0 : Int) % 3) = false := by simp; omega
            by_cases h40 : 40 < k
            · have hk1 : decide (40 < k) = true := by simp; omega
              have hk2 : decide ((40 : Int) < (k : Int)) = true := by simp; omega
              go_wp2_with fail
              refine (HHH.out _ (LsO.ats (S26.out.ls 3 1 _ _ rfl))).mono ?_
              rintro e w33 ⟨v, rfl, hp, hn', hb33⟩
              obtain ⟨Ag, qg, hvg, hog⟩ := id hp
              have hvg' : v = fiV 4 z' c' (.slice Ag p'.length qg) := hvg
              subst hvg'
              clear hvg
              have S33 := Lib.hid (S26.out.add (lsT 1 (.slice Ag p'.length qg) (p'.map txC)) hb33 hog (fun k hk => hn' k (blkFi_iff.2 hk)))
              clear S26 hp hn' hog hb33 HHH f0 f1 f2 f3 fi k0 k1 k2 k3 ki x0 x1 x2 x3
              obtain ⟨f0, f1, f2, f3⟩ := (S33.out.box 6 _ _ rfl).fourFi
              have fi := (S33.out.box 6 _ _ rfl).ice
              have S34 := Lib.hid (S33.out.setAll 6 _ _ rfl (fiL 4 z' c' (.slice Ag p'.length qg)) rfl)
              clear S33
              have hpl : p'.length ≤ 1000 := by have := HFH.out.parts.1; omega
              have hll2 : r.length ≤ 1000 := by have := HFH.out.short; have := n_le hd; omega
              have HT := Lib.hid (ft_impl 4 z' c' Ag p' qg (by omega) ((S34.out.ls 0 1 _ _ rfl).cap _ _ _ rfl) _ (LsO.ats (S34.out.ls 0 1 _ _ rfl)))
              obtain ⟨f0, f1, f2, f3⟩ := (S34.out.box 6 _ _ rfl).fourFi
              have fi := (S34.out.box 6 _ _ rfl).ice
              by_cases hw : WholeF d z' p'
              · have hft := ft_whole hd HFH.out.parts HFH.out.ends hw
                have hms := mis_whole hd HFH.out.parts HFH.out.ends hw
                rw [hft] at HT
                go_wp2_with fail
                refine HT.out.mono ?_
                rintro e w35 ⟨rfl, hb35⟩
                have S35 := Lib.hid (S34.out.more hb35)
                clear S34 hb35 HT hft f0 f1 f2 f3 fi
                have hdd : (d.toList != d.toList) = false := by simp
                have HM := Lib.hid (mo_impl 4 z' c' Ag p' qg (by omega) _ (LsO.ats (S35.out.ls 0 1 _ _ rfl)))
                rw [hms] at HM
                clear hms hw
                obtain ⟨f0, f1, f2, f3⟩ := (S35.out.box 6 _ _ rfl).fourFi
                have fi := (S35.out.box 6 _ _ rfl).ice
                go_wp2_with fail
                refine HM.out.mono ?_
                rintro e w36 ⟨vm, rfl, hpm, _, hb36⟩
                obtain ⟨Am, qm, rfl⟩ := inT_form hpm
                have S36 := Lib.hid (S35.out.more hb36)
                clear S35 hb36 hpm HM f0 f1 f2 f3 fi
                obtain ⟨g0, g1, g2, g3⟩ := (S36.out.box 5 _ _ rfl).fourFo
                have gi := (S36.out.box 5 _ _ rfl).ice
                have SF := Lib.hid (S36.out.four 2 0 5 6 rfl rfl rfl rfl (by decide) (by decide) (by decide) (by decide) (by decide) (by decide))
                go_wp2
                all_goals
                  go_roundg (90 - (k + 1))
                  case measure => omega
                  case rel => exact ⟨k + 1, r, b, z', c', p', Ax, qx, Ag, qg, by omega, rfl, by go_num, HFH.out, HNH.out, SF.out⟩
              · have hft := ft_not hd HFH.out.parts HFH.out.ends hw
                have hbf := Lib.hid (show b = false by cases hb9 : b; rfl; exact absurd (HFH.out.done hb9) hw)
                rw [hft] at HT
                go_wp2_with fail
                refine HT.out.mono ?_
                rintro e w37 ⟨rfl, hb37⟩
                have S37 := Lib.hid (S34.out.more hb37)
                clear S34 hb37 HT hft f0 f1 f2 f3 fi
                obtain ⟨g0, g1, g2, g3⟩ := (S37.out.box 5 _ _ rfl).fourFo
                have gi := (S37.out.box 5 _ _ rfl).ice
                have SF := Lib.hid (S37.out.four 2 0 5 6 rfl rfl rfl rfl (by decide) (by decide) (by decide) (by decide) (by decide) (by decide))
                rw [hbf.out] at g3
                clear hbf hw
                go_wp2
                all_goals
                  go_roundg (90 - (k + 1))
                  case measure => omega
                  case rel => exact ⟨k + 1, r, b, z', c', p', Ax, qx, Ag, qg, by omega, rfl, by go_num, HFH.out, HNH.out, SF.out⟩
            · have hk1 : decide (40 < k) = false := by simp; omega
              have hk2 : decide ((40 : Int) < (k : Int)) = false := by simp; omega
              have HNL2 := Lib.hid (HNL.out (by omega))
              have hpl : p.length ≤ 1000 := by have := HFL.out.parts.1; omega
              have hll2 : r.length ≤ 1000 := by have := HFL.out.short; have := n_le hd; omega
              have HT := Lib.hid (ft_impl 4 z c Af p qf (by omega) ((S26.out.ls 3 1 _ _ rfl).cap _ _ _ rfl) _ (LsO.ats (S26.out.ls 3 1 _ _ rfl)))
              obtain ⟨f0, f1, f2, f3⟩ := (S26.out.box 5 _ _ rfl).fourFi
              have fi := (S26.out.box 5 _ _ rfl).ice
              by_cases hw : WholeF d z p
              · have hft := ft_whole hd HFL.out.parts HFL.out.ends hw
                have hms := mis_whole hd HFL.out.parts HFL.out.ends hw
                rw [hft] at HT
                go_wp2_with fail
                refine HT.out.mono ?_
                rintro e w38 ⟨rfl, hb38⟩
                have S38 := Lib.hid (S26.out.more hb38)
                clear S26 hb38 HT hft f0 f1 f2 f3 fi
                have hdd : (d.toList != d.toList) = false := by simp
                have HM := Lib.hid (mo_impl 4 z c Af p qf (by omega) _ (LsO.ats (S38.out.ls 3 1 _ _ rfl)))
                rw [hms] at HM
                clear hms hw
                obtain ⟨f0, f1, f2, f3⟩ := (S38.out.box 5 _ _ rfl).fourFi
                have fi := (S38.out.box 5 _ _ rfl).ice
                go_wp2_with fail
                refine HM.out.mono ?_
                rintro e w39 ⟨vm, rfl, hpm, _, hb39⟩
                obtain ⟨Am, qm, rfl⟩ := inT_form hpm
                have S39 := Lib.hid (S38.out.more hb39)
                clear S38 hb39 hpm HM f0 f1 f2 f3 fi
                obtain ⟨g0, g1, g2, g3⟩ := (S39.out.box 4 _ _ rfl).fourFo
                have gi := (S39.out.box 4 _ _ rfl).ice
                have SF := Lib.hid (S39.out.four 1 3 4 5 rfl rfl rfl rfl (by decide) (by decide) (by decide) (by decide) (by decide) (by decide))
                go_wp2
                all_goals
                  go_roundg (90 - (k + 1))
                  case measure => omega
                  case rel => exact ⟨k + 1, r, b, z, c, p, Ax, qx, Af, qf, by omega, rfl, by go_num, HFL.out, HNL2.out, SF.out⟩
              · have hft := ft_not hd HFL.out.parts HFL.out.ends hw
                have hbf := Lib.hid (show b = false by cases hb9 : b; rfl; exact absurd (HFL.out.done hb9) hw)
                rw [hft] at HT
                go_wp2_with fail
                refine HT.out.mono ?_
                rintro e w40 ⟨rfl, hb40⟩
                have S40 := Lib.hid (S26.out.more hb40)
                clear S26 hb40 HT hft f0 f1 f2 f3 fi
                obtain ⟨g0, g1, g2, g3⟩ := (S40.out.box 4 _ _ rfl).fourFo
                have gi := (S40.out.box 4 _ _ rfl).ice
                have SF := Lib.hid (S40.out.four 1 3 4 5 rfl rfl rfl rfl (by decide) (by decide) (by decide) (by decide) (by decide) (by decide))
                rw [hbf.out] at g3
                clear hbf hw
                go_wp2
                all_goals
                  go_roundg (90 - (k + 1))
                  case measure => omega
                  case rel => exact ⟨k + 1, r, b, z, c, p, Ax, qx, Af, qf, by omega, rfl, by go_num, HFL.out, HNL2.out, SF.out⟩
      · have hd1 : decide (k < 90) = false := by simp; omega
        have hd2 : decide ((k : Int) < 90) = false := by simp; omega
        obtain rfl : k = 90 := by omega
        have hw := Near.fin (b := b) (c := c) (HNr.out (by omega)) HF.out.parts
        have hft := ft_whole hd HF.out.parts HF.out.ends hw
        have HT := Lib.hid (ft_impl 4 z c Af p qf (by omega) ((SS.out.ls 1 1 _ _ rfl).cap _ _ _ rfl) _ (LsO.ats (SS.out.ls 1 1 _ _ rfl)))
        rw [hft] at HT
        have hfi := fi_ok hd HF.out.parts HF.out.ends
        have hfo := fo_ok hd HF.out.queue HF.out.short
        have HFK := Lib.hid (fun W (hl : LsI 1 W W.heap.size Af (p.map txC)) => (fiB_yes hfi) ▸ fok_impl 4 z c Af p qf (by omega) W hl)
        have HOK := Lib.hid (fun W (hl : LsI 1 W W.heap.size Ao (l.map inC)) => (foB_yes hfo) ▸ fook_impl 4 d Ao l qo b (by omega) (by omega) W hl)
        obtain ⟨f0, f1, f2, f3⟩ := (SS.out.box 3 _ _ rfl).fourFi
        have fi := (SS.out.box 3 _ _ rfl).ice
        clear hft hfi hfo hw HF HNr
        go_wp2_with fail
        refine HT.out.mono ?_
        rintro e w41 ⟨rfl, hb41⟩
        have S41 := Lib.hid (SS.out.more hb41)
        clear SS hb41 HT f0 f1 f2 f3 fi
        obtain ⟨f0, f1, f2, f3⟩ := (S41.out.box 3 _ _ rfl).fourFi
        have fi := (S41.out.box 3 _ _ rfl).ice
        obtain ⟨k0, k1, k2, k3⟩ := (S41.out.box 2 _ _ rfl).fourFo
        have ki := (S41.out.box 2 _ _ rfl).ice
        have hdd : (d.toList == d.toList) = true := by simp
        go_wp2_with fail
        refine (HFK.out _ (LsO.ats (S41.out.ls 1 1 _ _ rfl))).mono ?_
        rintro e w42 ⟨rfl, hb42⟩
        have S42 := Lib.hid (S41.out.more hb42)
        clear S41 hb42 HFK f0 f1 f2 f3 fi k0 k1 k2 k3 ki
        obtain ⟨k0, k1, k2, k3⟩ := (S42.out.box 2 _ _ rfl).fourFo
        have ki := (S42.out.box 2 _ _ rfl).ice
        go_wp2_with fail
        refine (HOK.out _ (LsO.ats (S42.out.ls 0 1 _ _ rfl))).mono ?_
        rintro e w43 ⟨rfl, hb43⟩
        have S43 := Lib.hid (S42.out.more hb43)
        clear S42 hb43 HOK k0 k1 k2 k3 ki
        go_wp2
        go_ret
        exact ⟨rfl, S43.out.below⟩
end Go.Proofs.Ytckofkdeedbbgaa
