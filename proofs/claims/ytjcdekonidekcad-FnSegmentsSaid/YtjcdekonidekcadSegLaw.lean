/- What this text proves: the law that segments, ends and lists of missing segments can be read from their bytes returns true for every bytes that it draws from. -/
import Derived.Test.YtjcdekonidekcadSgBk
import Derived.Test.YtjcdekonidekcadDraw
import Derived.Test.YtjcdekonidekcadAt
import Derived.Test.YtjcdekonidekcadLawV
import Derived.Deep.LoopGhost
namespace Go.Proofs.Ytjcdekonidekcad
open Go.ChangeShapes Go.WideShapes Go.ChangeAt Go.RowKit
set_option linter.unusedVariables false


set_option maxHeartbeats 1000000 in
theorem sameIn_any (w : World) (b1 b2 : Nat) (v1 v2 : Value) (l : List Int) (hl : l.length ≤ 2000000) (h1 : OwnIn w b1 v1 l) (h2 : OwnIn w b2 v2 l) :
    Calls Try.prog 19 #[v1, v2] w fun e w' => e = .returned (.bool true) ∧ Below w.heap.size w w' := by
  obtain ⟨A1, c1, rfl⟩ := OwnIn.nform h1
  obtain ⟨A2, c2, rfl⟩ := OwnIn.nform h2
  rcases Nat.eq_zero_or_pos l.length with h0 | h0
  · rw [h0]
    go_enter Try.func19, Try.ntmps19
    go_wp2
    refine wp_loop_rounds 1 ?_
    rw [rounds_succ]
    go_wp2
    go_ret
    exact ⟨rfl, Below.refl _ _⟩
  · obtain ⟨g1, o1, ⟨d1, e1⟩, _, _⟩ := h1.rows (by rw [List.length_map]; exact h0)
    obtain ⟨g2, o2, ⟨d2, e2⟩, _, _⟩ := h2.rows (by rw [List.length_map]; exact h0)
    injection e1 with e1 e1b e1c
    injection e2 with e2 e2b e2c
    clear e1b e1c e2b e2c
    subst e1 e2
    have H1 := Lib.hid (fun k hk => inCells h1 k hk)
    have H2 := Lib.hid (fun k hk => inCells h2 k hk)
    clear h1 h2
    go_enter Try.func19, Try.ntmps19
    go_wp2
    go_loopw [5] (fun i wr => ∃ k : Nat, k ≤ l.length ∧ i = .int .i64 (k : Int) ∧ ∃ d, wr = w.drewN d) (fun i _ => l.length - (intOf i).toNat)
    case atStart => exact ⟨0, by omega, rfl, 0, rfl⟩
    case round =>
      obtain ⟨k, hk, rfl, d, rfl⟩ := hrel
      by_cases hlt : k < l.length
      · have hd : decide (k < l.length) = true := by simp; omega
        have e1 := H1.out k hlt
        have e2 := H2.out k hlt
        generalize l[k] = t at e1 e2
        go_wp2
        go_quiet (fail)
        go_wp2
        refine ⟨⟨k + 1, by omega, by go_num, _, rfl⟩, by simp [intOf]; omega⟩
      · have hd : decide (k < l.length) = false := by simp; omega
        clear hlt
        go_wp2
        go_ret
        exact ⟨rfl, below_draws (Below.refl _ _) d⟩

def PickRes (n : Nat) (f : Nat → Int) (g : Nat) (w : World) (e : Ending) (w' : World) : Prop := ∃ j, j < n ∧ e = .returned (.int .i64 (f j)) ∧ CurB w' g ∧ w.grownBy w' (some g)
set_option maxHeartbeats 1000000 in
theorem pick_at (w : World) (g b n c : Nat) (f : Nat → Int) (hf : ∀ j, -9223372036854775808 ≤ f j ∧ f j ≤ 9223372036854775807) (hn0 : 0 < n) (hn : n ≤ 1000) (hb : b < w.heap.size) (hbg : b ≠ g)
    (hcell : ∀ j, j < n → w.cell? ⟨b, j, none⟩ = some (.int .i64 (f j))) (hcur : CurB w g) :
    Calls Try.prog 33 #[.pointer (some ⟨g, 0, none⟩), .slice (some ⟨b, 0, none⟩) n c] w (PickRes n f g w) := by
  have Hf := Lib.hid hf
  have Hc := Lib.hid hcell
  clear hf hcell
  go_enter Try.func33, Try.ntmps33
  go_wp2_with fail
  refine (below_any _ g n (by omega) hcur).mono ?_
  rintro e w1 ⟨x, hx0, hx1, hx2, rfl, hc1, hg1⟩
  have hx3 := hx1 (by omega)
  clear hx1 hx2
  obtain ⟨j, rfl⟩ := Int.eq_ofNat_of_zero_le hx0
  have hj : j < n := by omega
  have cj : w1.cell? ⟨b, j, none⟩ = some (.int .i64 (f j)) := hg1.cell (Hc.out j hj) (fun e => by injection e with e; exact hbg e)
  go_wp2
  go_ret
  exact ⟨j, hj, rfl, hc1, hg1⟩
def fileNs : List Int := [0, 1, 24, 60, 120, 200]
theorem fileNs_ok (j : Nat) : 0 ≤ fileNs.getD j 0 ∧ fileNs.getD j 0 ≤ 200 := by
  match j with
  | 0 => decide
  | 1 => decide
  | 2 => decide
  | 3 => decide
  | 4 => decide
  | 5 => decide
  | j + 6 => exact ⟨by simp [fileNs], by simp [fileNs]⟩
set_option maxRecDepth 20000 in
set_option maxHeartbeats 2000000 in
theorem draw_file (A : Option Addr) (n c : Nat) (hn : n ≤ 1048576) (w : World) (hc : CodeOk w w.heap.size A n) :
    Calls Try.prog 8 #[.slice A n c] w (DrawnRes 200 w) := by
  have Hn := Lib.hid (new_any A n c hn w hc)
  clear hc
  go_enter Try.func8, Try.ntmps8
  go_wp2_with fail
  refine Hn.out.mono ?_
  rintro e w1 ⟨rfl, hc1, hb1⟩
  have HB := Lib.hid hb1
  have hlt := hc1.lt
  have hb2 : Below w1.heap.size w1 (w1.alloc (.cells #[.int .i64 0, .int .i64 1, .int .i64 24, .int .i64 60, .int .i64 120, .int .i64 200] 3)) := (Below.refl _ _).alloc (Nat.le_refl _) _
  have HB2 := Lib.hid (HB.out.trans (hb2.mono HB.out.size))
  have HP := Lib.hid (pick_at (w1.alloc (.cells #[.int .i64 0, .int .i64 1, .int .i64 24, .int .i64 60, .int .i64 120, .int .i64 200] 3)) w.heap.size w1.heap.size 6 6 (fun j => fileNs.getD j 0) (fun j => by have := fileNs_ok j; omega) (by decide) (by decide) (by simp) (by have := hlt; omega) (fun j hj => by
    rw [World.cell?_alloc_at _ _ _ _ rfl]
    match j, hj with
    | 0, _ => rfl
    | 1, _ => rfl
    | 2, _ => rfl
    | 3, _ => rfl
    | 4, _ => rfl
    | 5, _ => rfl) (hc1.more hb2 hlt))
  clear hb1 hb2 hlt hc1
  go_wp2_with fail
  refine HP.out.mono ?_
  rintro e w2 ⟨j, hj, he, hc2, hg2⟩
  have hr := fileNs_ok j
  obtain ⟨m, hm⟩ := Int.eq_ofNat_of_zero_le hr.1
  replace he : e = .returned (.int .i64 (m : Int)) := by rw [he]; exact congrArg (fun x => Ending.returned (.int .i64 x)) hm
  subst he
  rw [hm] at hr
  clear hm
  go_wp2_with fail
  refine (bytes_any _ _ m (by omega) hc2).mono ?_
  rintro e w3 ⟨s, hs, rfl, hc3, hg3⟩
  go_wp2
  go_ret
  exact ⟨s, by omega, rfl, below_of_new HB2.out (grown_trans hg2 hg3) (Nat.le_refl _)⟩

theorem own_two (W : World) (y0 y1 : Int) : OwnIn (W.alloc (.cells #[.int .i64 y0, .int .i64 y1] 3)) 0 (.slice (some ⟨W.heap.size, 0, none⟩) 2 2) [y0, y1] := by
  refine ⟨⟨_, 2, rfl⟩, fun k hk => ?_, in_len _, fun _ => ⟨W.heap.size, 0, ⟨2, rfl⟩, fun k hk j hj => ?_, fun j => World.frozen?_alloc_at _ _ _ j rfl⟩, fun A m c e => ?_⟩
  · have h1 : (some W.heap.size : Option Nat) = some k := hk
    injection h1 with h1
    exact ⟨Nat.zero_le _, by rw [← h1]; simp⟩
  · obtain rfl : j = 0 := by omega
    rw [World.cell?_alloc_at _ _ _ _ rfl]
    match k, hk with
    | 0, _ => rfl
    | 1, _ => rfl
  · injection e with _ h1 h2
    omega
set_option maxRecDepth 20000 in
set_option maxHeartbeats 8000000 in
theorem law_segments (A : Option Addr) (n c : Nat) (hm : n ≤ maxLen) (w : World) (hc : CodeOk w w.heap.size A n) :
    Calls Try.prog 3 #[.slice A n c] w fun e w' => e = .returned (.bool true) ∧ Below w.heap.size w w' := by
  by_cases hbig : 1048576 < n
  · go_enter Try.func3, Try.ntmps3
    go_wp2_with (go_at_call 7; refine (big_yes _ _ _ hbig hm _).mono ?_; rintro e w' ⟨rfl, rfl⟩)
    go_ret
    exact ⟨rfl, Below.refl _ _⟩
  · have hn : n ≤ 1048576 := by omega
    have Ha := Lib.hid (fun (w1 : World) (hb : Below w.heap.size w w1) i hi => at_any w.heap.size A n c hn i hi w1 (hc.more hb))
    have Hf := Lib.hid (draw_file A n c hn w hc)
    clear hc hbig
    go_enter Try.func3, Try.ntmps3
    go_wp2_with (go_at_call 7; refine (big_no _ _ _ hn _).mono ?_; rintro e w' ⟨rfl, rfl⟩)
    refine Hf.out.mono ?_
    rintro e w1 ⟨s, hs, rfl, hb1⟩
    have B1 := Lib.hid hb1
    have HC := Lib.hid (cnt_impl s.size)
    have HCB := cntS_bd s.size
    obtain ⟨N, hN⟩ : ∃ N : Nat, cntS s.size = (N : Int) := ⟨(cntS s.size).toNat, by omega⟩
    rw [hN] at HC HCB
    have HAll := Lib.hid (seg_all s N hN (by omega))
    have HOK := Lib.hid (fun (k : Nat) (hk : k < N) => (show SegOk (k : Int) s.size from ⟨by omega, by omega⟩))
    have HSeg := Lib.hid (fun (k : Nat) => seg_impl s (k : Int) (by omega))
    have HEs := Lib.hid (fun (k : Nat) => es_impl 3 (k : Int) (segS s k) (by have := segS_size s (k : Int); omega))
    have HJn := Lib.hid (fun (k : Nat) (hk : k < N) => seg_join s k (HOK.out k hk))
    have HZ := Lib.hid (fun (k : Nat) => segS_size s (k : Int))
    have HDs := Lib.hid (fun (k : Nat) (hk : k < N) => (show ∀ W, Calls Try.prog 11 #[.string (esT 3 (k : Int) (segS s k))] W fun e w' => e = .returned (.tuple #[.int .i64 3, .int .i64 (k : Int), .string (segS s k), .bool true]) ∧ Below W.heap.size W w' from fun W => by
      have h1 := decS_back (segS_ok (f := 3) (HOK.out k hk) (by omega))
      have h2 := segS_size s (k : Int)
      have h3 := decS_impl (esT 3 (k : Int) (segS s k)) (by omega) W
      rw [h1.1] at h3
      exact h3))
    have HEe := Lib.hid (ee_impl 5 s (by omega))
    have HDe := Lib.hid (show ∀ W, Calls Try.prog 13 #[.string (eeT 5 s)] W fun e w' => e = .returned (.tuple #[.int .i64 5, .int .i64 (s.size : Int), .int .i64 ((crc s : Nat) : Int), .bool true]) ∧ Below W.heap.size W w' from fun W => by
      have h1 := decE_back (f := 5) (d := s) ⟨by omega, by omega⟩
      have h3 := decE_impl (eeT 5 s) (by omega) W
      rw [h1.1] at h3
      exact h3)
    have HCk := Lib.hid (fun W => (check_impl s (by unfold maxLen; omega) W).mono fun e w' h => (show e = .returned (.int .i64 ((crc s : Nat) : Int)) ∧ Below W.heap.size W w' from ⟨h.1, by obtain ⟨_, pos, hp⟩ := h; rw [hp]; exact below_iter _ _ _⟩))
    have hN25 : N ≤ 25 := by omega
    clear hb1 hN HCB Hf HOK
    go_wp2_with fail
    refine (HC.out _).mono ?_
    rintro e w' ⟨rfl, rfl⟩
    go_wp2
    go_loopg [6, 5] N (fun gh u1 u2 wx => ∃ k : Nat, k ≤ N ∧ gh = N - k ∧ u1 = .int .i64 (k : Int) ∧ u2 = .string (s.extract 0 (24 * k)) ∧ Below w.heap.size w wx)
    case atStart => exact ⟨0, by omega, rfl, rfl, congrArg Value.string (list_inj6 (by rw [ext_list6]; simp)), B1.out⟩
    case round =>
      obtain ⟨k, hk, rfl, rfl, rfl, hbel⟩ := hrel
      have HB := Lib.hid hbel
      clear hbel B1
      by_cases hlt : k < N
      · have hd : decide (k < N) = true := by simp; omega
        have hd' : decide ((k : Int) < (N : Int)) = true := by simp; omega
        have H1 := Lib.hid (HSeg.out k)
        have H2 := Lib.hid (HEs.out k)
        have H3 := Lib.hid (HDs.out k hlt)
        have hz := HZ.out k
        have HJ := Lib.hid (HJn.out k hlt)
        have ht : (s.extract 0 (24 * k)).size ≤ 200 := by rw [ByteArray.size_extract]; omega
        have hq : ¬ (24 : Int) < ((segS s k).size : Int) := by omega
        have hdq : decide ((24 : Int) < ((segS s k).size : Int)) = false := by simp; omega
        generalize hT : s.extract 0 (24 * k) = T at *
        generalize segS s (k : Int) = x at *
        have hxx : (x.toList == x.toList) = true := beq_self_eq_true _
        have hkk : ((k : Int) != (k : Int)) = false := by simp
        go_wp2_with fail
        refine (H1.out _).mono ?_
        rintro e w' ⟨rfl, rfl⟩
        go_wp2_with fail
        refine (H2.out _).mono ?_
        rintro e w2 ⟨rfl, hb2⟩
        have B2 := Lib.hid (HB.out.trans (hb2.mono HB.out.size))
        clear hb2 HB
        go_wp2_with fail
        refine (H3.out _).mono ?_
        rintro e w3 ⟨rfl, hb3⟩
        have B3 := Lib.hid (B2.out.trans (hb3.mono B2.out.size))
        clear hb3 B2
        go_wp2
        go_roundg (N - (k + 1))
        case measure => omega
        case rel => exact ⟨k + 1, by omega, rfl, by go_num, by rw [HJ.out], B3.out⟩
      · have hd : decide (k < N) = false := by simp; omega
        have hd' : decide ((k : Int) < (N : Int)) = false := by simp; omega
        obtain rfl : k = N := by omega
        rw [HAll.out]
        clear hlt HSeg HEs HDs HJn HZ HAll HC
        go_wp2_with fail
        refine (HEe.out _).mono ?_
        rintro e w2 ⟨rfl, hb2⟩
        have B2 := Lib.hid (HB.out.trans (hb2.mono HB.out.size))
        clear hb2 HB
        go_wp2_with fail
        refine (HDe.out _).mono ?_
        rintro e w3 ⟨rfl, hb3⟩
        have B3 := Lib.hid (B2.out.trans (hb3.mono B2.out.size))
        clear hb3 B2 HEe HDe
        go_wp2_with fail
        refine (Ha.out _ B3.out 0 (by omega)).mono ?_
        rintro e w' ⟨x0, hx0, rfl, rfl⟩
        go_wp2_with fail
        refine (Ha.out _ B3.out 1 (by omega)).mono ?_
        rintro e w' ⟨x1, hx1, rfl, rfl⟩
        go_wp2_with fail
        have hy0 : 0 ≤ (x0 : Int) % 25 ∧ (x0 : Int) % 25 ≤ 24 := by omega
        have hy1 : 0 ≤ (x1 : Int) % 25 ∧ (x1 : Int) % 25 ≤ 24 := by omega
        have HOw := Lib.hid (own_two w3 ((x0 : Int) % 25) ((x1 : Int) % 25))
        have HEm := (em_impl 6 (some ⟨w3.heap.size, 0, none⟩) [(x0 : Int) % 25, (x1 : Int) % 25] 2 (by simp) _ (LsO.ats (N := 2) HOw.out))
        rw [show ([(x0 : Int) % 25, (x1 : Int) % 25] : List Int).length = 2 from rfl] at HEm
        have HEm := Lib.hid HEm
        have HDm := Lib.hid (fun W => dm_impl (emT 6 [(x0 : Int) % 25, (x1 : Int) % 25]) (by have := emT_size 6 [(x0 : Int) % 25, (x1 : Int) % 25]; omega) W)
        rw [decM_two (f := 6) (by omega) hy0 hy1] at HDm
        have B4 := Lib.hid (B3.out.alloc B3.out.size (.cells #[.int .i64 ((x0 : Int) % 25), .int .i64 ((x1 : Int) % 25)] 3))
        clear B3 hx0 hx1 hy0 hy1
        generalize (x0 : Int) % 25 = y0 at *
        generalize (x1 : Int) % 25 = y1 at *
        refine HEm.out.mono ?_
        rintro e w4 ⟨rfl, hb4⟩
        have B5 := Lib.hid (B4.out.trans (hb4.mono B4.out.size))
        have HOw2 := Lib.hid (LsO.more HOw.out hb4)
        clear hb4 HEm HOw B4
        go_wp2_with fail
        refine (HDm.out _).mono ?_
        rintro e w5 ⟨v, rfl, hv, _, hb5⟩
        have B6 := Lib.hid (B5.out.trans (hb5.mono B5.out.size))
        have HOw3 := Lib.hid (LsO.more HOw2.out hb5)
        have HV := Lib.hid hv
        clear hb5 HDm HOw2 B5 hv
        have hss : (s.toList == s.toList) = true := beq_self_eq_true _
        have hs2 : ((s.size : Int) == (s.size : Int)) = true := beq_self_eq_true _
        have hs3 : (((crc s : Nat) : Int) == ((crc s : Nat) : Int)) = true := beq_self_eq_true _
        generalize ((crc s : Nat) : Int) = K at *
        go_wp2_with fail
        refine (HCk.out _).mono ?_
        rintro e w6 ⟨rfl, hb6⟩
        have B7 := Lib.hid (B6.out.trans (hb6.mono B6.out.size))
        have HOw4 := Lib.hid (LsO.more HOw3.out hb6)
        have HV2 := Lib.hid (show OwnIn w6 0 v [y0, y1] from LsO.more HV.out hb6)
        clear hb6 HOw3 B6 HV
        go_wp2_with fail
        refine (sameIn_any _ 0 0 _ _ [y0, y1] (by simp) HV2.out HOw4.out).mono ?_
        rintro e w7 ⟨rfl, hb7⟩
        have B8 := Lib.hid (B7.out.trans (hb7.mono B7.out.size))
        clear hb7
        go_wp2
        go_ret
        exact ⟨rfl, B8.out⟩
end Go.Proofs.Ytjcdekonidekcad
