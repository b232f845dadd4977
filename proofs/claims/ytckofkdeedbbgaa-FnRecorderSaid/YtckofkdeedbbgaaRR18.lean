/- What this text proves: the parts MarkT, RcM of the proof, each under its own words. -/
import Derived.Test.YtckofkdeedbbgaaRR00
import Derived.WalkKit
import Derived.LoopTactic
import Derived.IntWalk
import Derived.OwnWalk
import Derived.Laws.AppendOwn
import Derived.Laws.OwnMore
import Derived.Lib.Hide
import Derived.Laws.Concat
import Derived.Test.YtckofkdeedbbgaaRR05
/- What this text proves: the contract of the laws' own mark of a number as a text. -/
namespace Go.Proofs.Ytckofkdeedbbgaa
open Go.ChangeShapes Go.WideShapes Go.ChangeAt Go.RowKit
set_option linter.unusedVariables false

/-- The digits of a number, by at most f of them. -/
def dgF : Nat → Nat → List UInt8
  | 0, _ => []
  | f + 1, k => if k = 0 then [] else dgF f (k / 10) ++ [UInt8.ofNat (48 + k % 10)]
theorem dgF_zero (f : Nat) : dgF f 0 = [] := by cases f <;> rfl
def markV (k : Nat) : ByteArray := ⟨#[109]⟩ ++ ⟨(dgF 64 k).toArray⟩
theorem one_text (w : World) (d : UInt8) : (convert 22 9 (.slice (some ⟨w.heap.size, 0, none⟩) 1 1)).run Try.prog (w.alloc (.cells #[.int .u8 (d.toNat : Int)] 5)) = .ok (.string ⟨#[d]⟩) (w.alloc (.cells #[.int .u8 (d.toNat : Int)] 5)) := by
  have h := run_convert_bytes_back (P := Try.prog) (w.alloc (.cells #[.int .u8 (d.toNat : Int)] 5)) 22 9 5 ⟨w.heap.size, 0, none⟩ 1 [d] Try.underlying22 Try.underlying5 Try.underlying9 (fun j hj => by
    obtain rfl : j = 0 := by simp at hj; omega
    show (w.alloc (.cells #[.int .u8 (d.toNat : Int)] 5)).cell? ⟨w.heap.size, 0, none⟩ = _
    rw [World.cell?_alloc_at _ _ _ _ rfl]
    rfl)
  simpa using h

set_option maxHeartbeats 1000000 in
theorem mark_text (n : Nat) (h0 : 0 < n) (hn : n < 1000000000) (w : World) :
    Calls Try.prog 150 #[.int .i64 n] w fun e w' => e = .returned (.string (markV n)) ∧ Below w.heap.size w w' := by
  have hd : decide ((n : Int) ≤ 0) = false := by simp; omega
  go_enter Try.func150, Try.ntmps150
  go_wp2
  go_loopw [0, 3] (fun i s wr => ∃ (f k : Nat) (t : ByteArray), i = .int .i64 (k : Int) ∧ s = .string t ∧ k < 2 ^ f ∧ k < 1000000000 ∧ t.size + f ≤ 64 ∧ dgF 64 n = dgF f k ++ t.data.toList ∧ Below w.heap.size w wr) (fun i _ _ => (intOf i).toNat)
  case atStart => exact ⟨64, n, ⟨#[]⟩, rfl, rfl, by omega, hn, by simp; rfl, by simp, Below.refl _ _⟩
  case round =>
    obtain ⟨f, k, t, rfl, rfl, hf, hk, ht, he, hbel⟩ := hrel
    have He := Lib.hid he
    clear he
    by_cases hpos : 0 < k
    · have hp : decide (0 < k) = true := by simp; omega
      obtain ⟨f', hff⟩ : ∃ j, f = j + 1 := ⟨f - 1, by
        rcases Nat.eq_zero_or_pos f with h1 | h1
        · rw [h1] at hf; simp at hf; omega
        · omega⟩
      rw [hff] at hf ht He
      have hf2 := Lib.hid (show k / 10 < 2 ^ f' by rw [Nat.pow_succ] at hf; omega)
      clear hf hff
      have hdig := Lib.hid (show dgF (f' + 1) k = dgF f' (k / 10) ++ [UInt8.ofNat (48 + k % 10)] by simp only [dgF]; rw [if_neg (by omega)])
      have hval : ((UInt8.ofNat (48 + k % 10)).toNat : Int) = 48 + (k : Int) % 10 := by rw [UInt8.toNat_ofNat']; omega
      have hcv := one_text wr (UInt8.ofNat (48 + k % 10))
      rw [hval] at hcv
      clear hval
      generalize UInt8.ofNat (48 + k % 10) = d at *
      have hds : (⟨#[d]⟩ : ByteArray).size = 1 := rfl
      go_wp2
      refine ⟨⟨f', k / 10, ⟨#[d]⟩ ++ t, by go_num, rfl, hf2.out, by omega, by rw [ByteArray.size_append, hds]; omega, ?_, hbel.alloc hbel.size _⟩, by simp [intOf]; omega⟩
      rw [He.out, hdig.out]
      simp [ByteArray.data_append]
    · obtain rfl : k = 0 := by omega
      have hfin := Lib.hid (show t = ⟨(dgF 64 n).toArray⟩ by
        have h := He.out
        rw [dgF_zero, List.nil_append] at h
        rw [h])
      have h1 : (⟨#[109]⟩ : ByteArray).size = 1 := rfl
      clear hpos
      go_wp2
      go_ret
      exact ⟨by rw [hfin.out]; rfl, hbel⟩
end Go.Proofs.Ytckofkdeedbbgaa
/- What this text proves: the contracts of the laws' marks over lists of records: marks that were written are found again, and change nothing else. -/
namespace Go.Proofs.Ytckofkdeedbbgaa
open Go.ChangeShapes Go.WideShapes Go.ChangeAt Go.RowKit
set_option linter.unusedVariables false


/-- The marks of the i-th row. -/
def mkRc (M i : Nat) : List Value := [.int .i64 ((M : Int) + 4 * (i : Int)), .int .i64 ((M : Int) + 4 * (i : Int) + 1), .int .i64 ((M : Int) + 4 * (i : Int) + 1 + 1), .string (markV (M + 4 * i + 3))]
theorem row_rc (x : List Value) (hx : x.length = 4) (a0 a1 a2 a3 : Value) : ((((x.set 0 a0).set 1 a1).set 2 a2).set 3 a3) = [a0, a1, a2, a3] := by
  match x, hx with
  | [_, _, _, _], _ => rfl

set_option maxHeartbeats 4000000 in
theorem markRc_any (w : World) (base : Nat) (v : Value) (l : List (List Value)) (hl : l.length ≤ 1100000) (M : Nat) (hM1 : 1 ≤ M) (hM : M ≤ 10000000) (hown : LsO 4 w base v l) :
    Calls Try.prog 105 #[v, .int .i64 (M : Int)] w fun e w' => e = .returned (.int .i64 ((M : Int) + 4 * (l.length : Int))) ∧ w.grownBy w' v.ownBlock ∧ LsO 4 w' base v ((List.range l.length).map (mkRc M)) := by
  obtain ⟨A1, cp, rfl⟩ := hown.form
  rcases Nat.eq_zero_or_pos l.length with h0 | h0
  · have hl0 : l = [] := List.eq_nil_of_length_eq_zero h0
    subst hl0
    go_enter Try.func105, Try.ntmps105
    go_wp2
    refine wp_loop_rounds 1 ?_
    rw [rounds_succ]
    go_wp2
    go_ret
    exact ⟨by simp, grown_of (Below.refl _ _) _, hown⟩
  · obtain ⟨g, off, ⟨d1, e1⟩, _, _⟩ := hown.rows h0
    injection e1 with e1 e1b e1c
    clear e1b e1c
    subst e1
    have P0 := Lib.hid hown
    have HMT := Lib.hid (fun (n : Nat) (h1 : 0 < n) (h2 : n < 1000000000) W => mark_text n h1 h2 W)
    have HWD := Lib.hid hown.wide
    clear hown
    go_enter Try.func105, Try.ntmps105
    go_wp2
    go_loopg [1, 5] l.length (fun gh v1 v5 wx => ∃ k : Nat, k ≤ l.length ∧ gh = l.length - k ∧ v5 = .int .i64 (k : Int) ∧ v1 = .int .i64 ((M : Int) + 4 * (k : Int)) ∧ LsO 4 wx base (.slice (some ⟨g, off, none⟩) l.length cp) (frontOf (mkRc M) l k) ∧ w.grownBy wx (some g))
    case atStart => exact ⟨0, by omega, rfl, rfl, by simp, by rw [frontOf_zero]; exact P0.out, grown_of (Below.refl _ _) _⟩
    case round =>
      obtain ⟨k, hk, rfl, rfl, rfl, hls, hbel⟩ := hrel
      have HB := Lib.hid hbel
      by_cases hlt : k < l.length
      · have hd : decide (k < l.length) = true := by simp; omega
        have hkf : k < (frontOf (mkRc M) l k).length := by rw [frontOf_len _ _ hk]; exact hlt
        have i0 := hls.ice (by omega)
        have HR := Lib.hid (HWD.out _ (List.getElem_mem hlt))
        have HAT := Lib.hid (frontOf_at (mkRc M) l hlt)
        have HFS := Lib.hid (frontOf_set (mkRc M) l hlt)
        obtain ⟨u0, c0'⟩ := hls.has k hkf 0 (by decide)
        have c0 : (wr).cell? ⟨g, off + k * 4, none⟩ = some u0 := c0'
        clear c0'
        have s0 := hls.set k hkf 0 (by decide) (.int .i64 ((M : Int) + 4 * (k : Int)))
        obtain ⟨u1, c1'⟩ := s0.has k (by simp only [setAt_len]; exact hkf) 1 (by decide)
        have c1 : ((wr).setCell ⟨g, off + k * 4, none⟩ (.int .i64 ((M : Int) + 4 * (k : Int)))).cell? ⟨g, off + k * 4 + 1, none⟩ = some u1 := c1'
        clear c1'
        have s1 := s0.set k (by simp only [setAt_len]; exact hkf) 1 (by decide) (.int .i64 ((M : Int) + 4 * (k : Int) + 1))
        obtain ⟨u2, c2'⟩ := s1.has k (by simp only [setAt_len]; exact hkf) 2 (by decide)
        have c2 : (((wr).setCell ⟨g, off + k * 4, none⟩ (.int .i64 ((M : Int) + 4 * (k : Int)))).setCell ⟨g, off + k * 4 + 1, none⟩ (.int .i64 ((M : Int) + 4 * (k : Int) + 1))).cell? ⟨g, off + k * 4 + 2, none⟩ = some u2 := c2'
        clear c2'
        have s2 := s1.set k (by simp only [setAt_len]; exact hkf) 2 (by decide) (.int .i64 ((M : Int) + 4 * (k : Int) + 1 + 1))
        have HS := Lib.hid s2
        have HG := Lib.hid (grown_store (grown_store (grown_store HB.out (j := off + k * 4) (.int .i64 ((M : Int) + 4 * (k : Int)))) (j := off + k * 4 + 1) (.int .i64 ((M : Int) + 4 * (k : Int) + 1))) (j := off + k * 4 + 2) (.int .i64 ((M : Int) + 4 * (k : Int) + 1 + 1)))
        have hmt := HMT.out (M + 4 * k + 3) (by omega) (by omega)
        rw [show ((M + 4 * k + 3 : Nat) : Int) = (M : Int) + 4 * (k : Int) + 1 + 1 + 1 by omega] at hmt
        have HMK := Lib.hid hmt
        obtain ⟨TT, hT⟩ : ∃ TT, markV (M + 4 * k + 3) = TT := ⟨_, rfl⟩
        rw [hT] at HMK
        have HT := Lib.hid hT
        clear hT hls hbel hmt s0 s1 s2
        go_wp2_with fail
        refine (HMK.out _).mono ?_
        rintro e w2 ⟨rfl, hb2⟩
        have S2 := HS.out.more hb2
        have G2 := grown_trans HG.out (grown_of hb2 (some g))
        obtain ⟨u3, c3'⟩ := S2.has k (by simp only [setAt_len]; exact hkf) 3 (by decide)
        have c3 : w2.cell? ⟨g, off + k * 4 + 3, none⟩ = some u3 := c3'
        have i2 := S2.ice (by simp only [setAt_len]; omega)
        have HF := Lib.hid (show LsO 4 (w2.setCell ⟨g, off + k * 4 + 3, none⟩ (.string TT)) base (.slice (some ⟨g, off, none⟩) l.length cp) (frontOf (mkRc M) l (k + 1)) from by
          have h := S2.set k (by simp only [setAt_len]; exact hkf) 3 (by decide) (.string TT)
          rw [← HT.out] at h
          rw [show setAt (frontOf (mkRc M) l k) k 0 (.int .i64 ((M : Int) + 4 * (k : Int))) = (frontOf (mkRc M) l k).set k (l[k].set 0 (.int .i64 ((M : Int) + 4 * (k : Int)))) from by unfold setAt; rw [HAT.out], setAt_row _ _ hkf, setAt_row _ _ hkf, setAt_row _ _ hkf, row_rc _ HR.out, show [.int .i64 ((M : Int) + 4 * (k : Int)), .int .i64 ((M : Int) + 4 * (k : Int) + 1), .int .i64 ((M : Int) + 4 * (k : Int) + 1 + 1), .string (markV (M + 4 * k + 3))] = mkRc M k from rfl, HFS.out] at h
          rw [HT.out] at h
          exact h)
        have HG2 := Lib.hid (grown_store G2 (j := off + k * 4 + 3) (.string TT))
        clear S2 G2 hb2 i0 c3' c0 c1 c2
        go_wp2
        go_roundg (l.length - (k + 1))
        case measure => omega
        case rel => exact ⟨k + 1, by omega, rfl, by go_num, by go_num, HF.out, HG2.out⟩
      · have hd : decide (k < l.length) = false := by simp; omega
        obtain rfl : k = l.length := by omega
        rw [frontOf_all] at hls
        clear hlt
        go_wp2
        go_ret
        exact ⟨rfl, HB.out, hls⟩

set_option maxHeartbeats 4000000 in
theorem heldRc_any (w : World) (base M : Nat) (v : Value) (n : Nat) (hn : n ≤ 1100000) (hA : LsO 4 w base v ((List.range n).map (mkRc M))) (hM1 : 1 ≤ M) (hM : M ≤ 10000000) :
    Calls Try.prog 107 #[v, .int .i64 (M : Int)] w fun e w' => e = .returned (.int .i64 ((M : Int) + 4 * (n : Int))) ∧ Below w.heap.size w w' := by
  obtain ⟨A, c, rfl⟩ := hA.form
  rw [mark_len] at hA ⊢
  rcases Nat.eq_zero_or_pos n with h0 | h0
  · subst h0
    clear hA
    go_enter Try.func107, Try.ntmps107
    go_wp2
    refine wp_loop_rounds 1 ?_
    rw [rounds_succ]
    go_wp2
    go_ret
    exact ⟨by simp, Below.refl _ _⟩
  · obtain ⟨g, off, ⟨d1, e1⟩, _, _⟩ := hA.rows (by rw [mark_len]; exact h0)
    injection e1 with e1 e1b e1c
    clear e1b e1c
    subst e1
    have hg := (hA.block rfl).2
    have HM := Lib.hid (show ∀ k, k < n → w.cell? ⟨g, off + k * 4, none⟩ = some (.int .i64 ((M : Int) + 4 * (k : Int))) ∧ w.cell? ⟨g, off + k * 4 + 1, none⟩ = some (.int .i64 ((M : Int) + 4 * (k : Int) + 1)) ∧ w.cell? ⟨g, off + k * 4 + 2, none⟩ = some (.int .i64 ((M : Int) + 4 * (k : Int) + 1 + 1)) ∧ w.cell? ⟨g, off + k * 4 + 3, none⟩ = some (.string (markV (M + 4 * k + 3))) from fun k hk => by
      have hc := (hA.at rfl (by rw [mark_len]; exact h0)).1
      have h0 := hc k (by rw [mark_len]; exact hk) 0 (by decide)
      have h1 := hc k (by rw [mark_len]; exact hk) 1 (by decide)
      have h2 := hc k (by rw [mark_len]; exact hk) 2 (by decide)
      have h3 := hc k (by rw [mark_len]; exact hk) 3 (by decide)
      simp only [mark_at] at h0 h1 h2 h3
      exact ⟨h0, h1, h2, h3⟩)
    have HMT := Lib.hid (fun (n : Nat) (h1 : 0 < n) (h2 : n < 1000000000) W => mark_text n h1 h2 W)
    clear hA
    go_enter Try.func107, Try.ntmps107
    go_wp2
    go_loopg [1, 5] n (fun gh v1 v5 wx => ∃ k : Nat, k ≤ n ∧ gh = n - k ∧ v5 = .int .i64 (k : Int) ∧ v1 = .int .i64 ((M : Int) + 4 * (k : Int)) ∧ Below w.heap.size w wx)
    case atStart => exact ⟨0, by omega, rfl, rfl, by simp, Below.refl _ _⟩
    case round =>
      obtain ⟨k, hk, rfl, rfl, rfl, hbel⟩ := hrel
      have HB := Lib.hid hbel
      by_cases hlt : k < n
      · have hd : decide (k < n) = true := by simp; omega
        obtain ⟨x0, x1, x2, x3⟩ := HM.out k hlt
        have cx0 := (hbel.cell (p := ⟨g, off + k * 4, none⟩) hg).trans x0
        have cx1 := (hbel.cell (p := ⟨g, off + k * 4 + 1, none⟩) hg).trans x1
        have cx2 := (hbel.cell (p := ⟨g, off + k * 4 + 2, none⟩) hg).trans x2
        have cx3 := (hbel.cell (p := ⟨g, off + k * 4 + 3, none⟩) hg).trans x3
        have hmt := HMT.out (M + 4 * k + 3) (by omega) (by omega)
        rw [show ((M + 4 * k + 3 : Nat) : Int) = (M : Int) + 4 * (k : Int) + 1 + 1 + 1 by omega] at hmt
        have HMK := Lib.hid hmt
        have hself : ((markV (M + 4 * k + 3)).toList == (markV (M + 4 * k + 3)).toList) = true := beq_self_eq_true _
        generalize markV (M + 4 * k + 3) = TT at *
        have HK2 := Lib.hid (fun W (hW : Below w.heap.size w W) => (HMK.out W).mono fun e w' h => (⟨h.1, hW.trans (h.2.mono hW.size), ((hW.trans (h.2.mono hW.size)).cell (p := ⟨g, off + k * 4 + 3, none⟩) hg).trans x3⟩ : e = .returned (.string TT) ∧ Below w.heap.size w w' ∧ w'.cell? ⟨g, off + k * 4 + 3, none⟩ = some (.string TT)))
        clear x0 x1 x2 x3 hmt hbel
        go_wp2
        go_region_law ((go_simp; go_at_call 150; (with_reducible refine (HK2.out _ HB.out.drew).mono ?_); rintro e w2 ⟨rfl, hb2, d2⟩))
        all_goals go_wp2
        all_goals
          go_roundg (n - (k + 1))
          case measure => omega
          case rel => exact ⟨k + 1, by omega, rfl, by go_num, by go_num, hb2⟩
      · have hd : decide (k < n) = false := by simp; omega
        obtain rfl : k = n := by omega
        clear hlt
        go_wp2
        go_ret
        exact ⟨rfl, HB.out⟩
end Go.Proofs.Ytckofkdeedbbgaa
