/- What this text proves: the parts LLostLaw of the proof, each under its own words. -/
import Derived.Test.YtegahdlfjdjcaaaV43
import Derived.Test.YtegahdlfjdjcaaaV45
import Derived.Test.YtegahdlfjdjcaaaV46
import Derived.Test.YtegahdlfjdjcaaaV40
import Derived.Deep.RegionHeld3
import Derived.Deep.Cut
import Derived.Deep.CutRange
/- What this text proves: the law that whatever frames are lost, exactly those packets come out all of whose bytes lie in frames that arrived, returns true for every bytes that it draws from. -/
namespace Go.Proofs.Ytegahdlfjdjcaaa
open Go.ChangeShapes Go.WideShapes Go.ChangeAt Go.RowKit
set_option linter.unusedVariables false

theorem info_boolL : (Try.prog.info? 4).map (fun i => (i.zero, i.size, i.bytes)) = some (some (.bool false), 1, 1) := by kernel_rfl
theorem info_frmL : (Try.prog.info? 39).map (fun i => (i.zero, i.size, i.bytes)) = some (some (frV 0 0 0 ⟨#[]⟩), 4, 40) := by kernel_rfl

set_option maxRecDepth 100000 in
set_option maxHeartbeats 16000000 in
theorem law_framesLost (A : Option Addr) (n c : Nat) (hm : n ≤ maxLen) (w : World) (hc : CodeOk w w.heap.size A n) :
    Calls Try.prog 5 #[.slice A n c] w fun e w' => e = .returned (.bool true) ∧ Below w.heap.size w w' := by
  by_cases hbig : 1048576 < n
  · go_enter Try.func5, Try.ntmps5
    go_wp2_with (go_at_call 15; refine (big_yes _ _ _ hbig hm _).mono ?_; rintro e w' ⟨rfl, rfl⟩)
    go_ret
    exact ⟨rfl, Below.refl _ _⟩
  · have hn : n ≤ 1048576 := by omega
    have Ha := Lib.hid (fun (w1 : World) (hb : Below w.heap.size w w1) i hi => at_any w.heap.size A n c hn i hi w1 (hc.more hb))
    have Hd := Lib.hid (draw_packets A n c hn w hc)
    clear hc hbig
    go_enter Try.func5, Try.ntmps5
    go_wp2_with (go_at_call 15; refine (big_no _ _ _ hn _).mono ?_; rintro e w' ⟨rfl, rfl⟩)
    refine Hd.out.mono ?_
    rintro e w1 ⟨v, L, hL1, hL7, hgood, rfl, hown, hb1⟩
    obtain ⟨gl, cap, rfl, _, hgl, hcells, _⟩ := OwnP.rows hown (by omega)
    have HK := Lib.hid (fun p (hp : p ∈ L) => show OkQ p from by
      have h := hgood p hp
      exact ⟨⟨h.a0, by have := h.a1; omega⟩, ⟨h.q0, h.q1⟩, h.d⟩)
    have HR := Lib.hid (fun p (hp : p ∈ L) => show realP p = [p] from by
      have h := hgood p hp
      unfold realP
      rw [if_neg (by have := h.a1; omega)])
    have HC := Lib.hid hcells
    have B1 := Lib.hid hb1
    clear hcells hb1 hown hgood Hd
    have F2 := Lib.hid (show FL w1 ((w1.alloc (.cells (paL 0 0 ⟨#[]⟩ (.slice none 0 0)).toArray 34)).alloc (.cells #[] 3)) w1.heap.size (paL 0 0 ⟨#[]⟩ (.slice none 0 0)) (.slice none 0 0) [] (.slice (some ⟨w1.heap.size + 1, 0, none⟩) 0 0) [] from
      ⟨((Below.refl _ _).alloc (Nat.le_refl _) _).alloc (by simp) _, (Box.made w1 (paL 0 0 ⟨#[]⟩ (.slice none 0 0)) 34 _ rfl).alloc _, OwnI.nil _ _, by
        have h := OwnI.empty (w1.alloc (.cells (paL 0 0 ⟨#[]⟩ (.slice none 0 0)).toArray 34)) (w1.heap.size + 1) (by simp)
        rw [show (w1.alloc (.cells (paL 0 0 ⟨#[]⟩ (.slice none 0 0)).toArray 34)).heap.size = w1.heap.size + 1 by simp] at h
        exact h, (fun k _ e => by cases e), Nat.le_refl _⟩)
    go_upto_region 6 with fail
    generalize (w1.alloc (.cells #[.int .i64 0, .int .i64 0, .string ⟨#[]⟩, .slice none 0 0] 34)).alloc (.cells #[] 3) = w2 at *
    have HP0 := Lib.hid (show PaOk 0 0 (encQ (L.take 0)) (stL (L.take 0) 0) from pa_empty (by decide) (by decide))
    go_wp2
    go_loopg [5, 6] L.length (fun g v5 v6 wx => ∃ (k : Nat) (vl : Value), k ≤ L.length ∧ g = L.length - k ∧ v6 = .int .i64 (k : Int) ∧ FL w1 wx w1.heap.size (paL 0 0 (encQ (L.take k)) vl) vl (stL (L.take k) 0) v5 (stL (L.take k) 0) ∧ PaOk 0 0 (encQ (L.take k)) (stL (L.take k) 0))
    case atStart => exact ⟨0, _, by omega, by omega, by go_num, F2.out, HP0.out⟩
    case round =>
      obtain ⟨k, vl, hk, rfl, rfl, hF, hP⟩ := hrel
      clear F2 HP0
      by_cases hlt : k < L.length
      · have hd : decide (k < L.length) = true := by simp; omega
        have HCALL := Lib.hid (packL_call L HK.out hL7 k hlt hP)
        have HPN := Lib.hid (pack_next L HK.out hL7 k hlt hP).2.2.2
        have HSN := Lib.hid (stL_snoc L HK.out k hlt)
        have F4 := Lib.hid hF
        have hz : (encQ (L.take k)).size ≤ 308 := by
          have h1 := encQ_size_le (L.take k) (fun p hp => HK.out p (List.mem_of_mem_take hp))
          rw [List.length_take] at h1
          omega
        have hsl : (stL (L.take k) 0).length ≤ 7 := by rw [stL_len, List.length_take]; omega
        obtain ⟨x0, x1, x2⟩ := HC.out k hlt
        have lL : gl < wr.heap.size := by have := hF.below.size; omega
        have C1 := Lib.hid (And.intro x0 (And.intro x1 x2))
        clear hF hP x0 x1 x2
        generalize (L[k]'hlt).1 = a at *
        generalize (L[k]'hlt).2.1 = q at *
        generalize (L[k]'hlt).2.2 = d at *
        generalize encQ (L.take k) = r at *
        obtain ⟨r', hr'⟩ : ∃ r', encQ (L.take (k + 1)) = r' := ⟨_, rfl⟩
        obtain ⟨l', hl'⟩ : ∃ l', stL (L.take (k + 1)) 0 = l' := ⟨_, rfl⟩
        rw [hr', hl'] at HCALL HPN
        rw [hl'] at HSN
        have HE1 := Lib.hid hr'
        have HE2 := Lib.hid hl'
        clear hr' hl'
        generalize stL (L.take k) 0 = l at *
        generalize hwr : wr = w3 at *
        clear hwr
        have F5 := Lib.hid (F4.out.more ((Below.refl _ _).alloc (Nat.le_refl _) (.cells #[.int .i64 (r.size : Int)] 3)))
        have HI := Lib.hid (show IntsAt (w3.alloc (.cells #[.int .i64 (r.size : Int)] 3)) (w3.heap.size + 1) (some ⟨w3.heap.size, 0, none⟩) [(r.size : Int)] from .inr ⟨w3.heap.size, 0, rfl, by omega, fun j hj => by
          have hj1 : j = 0 := by simpa using hj
          subst hj1
          rw [World.cell?_alloc_at _ _ _ _ rfl]
          rfl⟩)
        have hwz : w1.heap.size + 1 ≤ (w3.alloc (.cells #[.int .i64 (r.size : Int)] 3)).heap.size := F5.out.far
        obtain ⟨_, _, p2, _⟩ := F4.out.bp.fourP
        go_wp2_with (at_builtin; go_loud (refine app_ints _ rfl _ _ rfl (w1.heap.size + 1) u5 l rfl F5.out.o5 (w3.heap.size + 1) (some ⟨w3.heap.size, 0, none⟩) [(r.size : Int)] 1 rfl HI.out (by simp; omega) hwz ?_))
        intro v5 w5 ho5 hg5 hor5
        have F6 := Lib.hid (F5.out.app (F' := l') (by rw [HSN.out]; exact ho5) hg5 (by simpa using hor5))
        have hgz := hg5.size
        have C2 := Lib.hid (show w5.cell? ⟨gl, k * 3, none⟩ = some (.int .i64 a) ∧ w5.cell? ⟨gl, k * 3 + 1, none⟩ = some (.int .i64 q) ∧ w5.cell? ⟨gl, k * 3 + 2, none⟩ = some (.string d) from ⟨(F6.out.below.cell (p := ⟨gl, k * 3, none⟩) hgl).trans C1.out.1, (F6.out.below.cell (p := ⟨gl, k * 3 + 1, none⟩) hgl).trans C1.out.2.1, (F6.out.below.cell (p := ⟨gl, k * 3 + 2, none⟩) hgl).trans C1.out.2.2⟩)
        clear F4 F5 HI hwz hg5 hor5 ho5 p2 C1 hgz lL
        have F6d := Lib.hid (F6.out.more (Below.refl _ _).drew)
        have HPC := Lib.hid (HCALL.out vl w5.drew _ F6d.out.oi)
        obtain ⟨k0, k1, k2, k3⟩ := F6.out.bp.fourP
        obtain ⟨y0, y1, y2⟩ := C2.out
        clear HCALL
        go_upto_region 10 with fail
        go_region_law ((go_simp; go_at_call 20; (with_reducible refine HPC.out.mono ?_); rintro e w6 ⟨A6, n6, c6, rfl, O6, hb6⟩; have P6 := F6d.out.bp.more hb6; obtain ⟨m0, m1, m2, m3⟩ := P6.fourP; have mi := P6.ice))
        all_goals
          have F7 := Lib.hid (show FL w1 ((((w6.setCell ⟨w1.heap.size, 0, none⟩ (.int .i64 0)).setCell ⟨w1.heap.size, 1, none⟩ (.int .i64 0)).setCell ⟨w1.heap.size, 2, none⟩ (.string r')).setCell ⟨w1.heap.size, 3, none⟩ (.slice A6 n6 c6)) w1.heap.size (paL 0 0 r' (.slice A6 n6 c6)) (.slice A6 n6 c6) l' v5 l' from F6d.out.freshP hb6 O6 (paL 0 0 r' (.slice A6 n6 c6)) rfl)
          clear P6 O6 hb6 F6d F6 HPC k0 k1 k2 k3 y0 y1 y2
          go_wp2
          go_roundg (L.length - (k + 1))
          case measure => omega
          case rel =>
            refine ⟨k + 1, .slice A6 n6 c6, by omega, rfl, by go_num, ?_, ?_⟩
            · rw [HE1.out, HE2.out]; exact F7.out
            · rw [HE1.out, HE2.out]; exact HPN.out
      · obtain rfl : k = L.length := by omega
        have hd : decide (L.length < L.length) = false := by simp
        rw [List.take_length] at hF hP
        have HFC := Lib.hid (fillL_call L HK.out hL7 hP)
        obtain ⟨hA, _, _, hPA, K, hK14, hS⟩ := fill_next L HK.out hL7 hP
        have hK1 : 0 < K := by
          have h1 := encQ_split L 0 (by omega)
          have h2 := pkT_size (HK.out _ (List.getElem_mem (show 0 < L.length by omega)))
          have h3 := congrArg ByteArray.size h1
          rw [ByteArray.size_append, ByteArray.size_append] at h3
          rw [encQ_app_size] at hS
          omega
        have hAl : (stL (L ++ idleQ (encQ L).size) 0).length ≤ 1000 := by
          rw [stL_len, List.length_append]
          unfold idleQ
          split <;> simp <;> omega
        have HOB := Lib.hid (fun k (hk : k < L.length) => show (encQ (L.take k)).size + (4 + (L[k]'hk).2.2.size) ≤ 24 * K from by
          have h1 := encQ_split L k hk
          have h2 := pkT_size (HK.out _ (List.getElem_mem hk))
          have h3 := congrArg ByteArray.size h1
          rw [ByteArray.size_append, ByteArray.size_append] at h3
          rw [encQ_app_size] at hS
          omega)
        have HTC := Lib.hid (takeL_call hPA hS hK14 hAl)
        have HPU := Lib.hid (fun keep => by
          have h := pushL_call (keep := keep) hA rfl hS hK14 hPA
          rw [want_idle keep L HK.out] at h
          exact h)
        generalize stL (L ++ idleQ (encQ L).size) 0 = lA at *
        generalize encQ (L ++ idleQ (encQ L).size) = S at *
        obtain ⟨g5, cap5, hv5, _, hg5, hc5, _⟩ := OwnI.rows hF.o5 (by rw [stL_len]; omega)
        have HC5 := Lib.hid (fun k (hk : k < L.length) => show wr.cell? ⟨g5, k, none⟩ = some (.int .i64 ((encQ (L.take k)).size : Int)) from by
          have h := hc5 k (by rw [stL_len]; exact hk)
          rw [stL_at L HK.out k hk] at h
          exact h)
        rw [stL_len] at hv5
        subst hv5
        have HOI := Lib.hid hF.oi
        have HBP := Lib.hid hF.bp
        have B14 := Lib.hid hF.below
        clear hF hP hA hPA hAl hc5 hS
        generalize stL L 0 = l0 at *
        generalize encQ L = r0 at *
        generalize hwr : wr = w4 at *
        clear hwr
        obtain ⟨p0, p1, p2, p3⟩ := HBP.out.fourP
        go_wp2_with fail
        refine (HFC.out _ _ _ HOI.out).mono ?_
        rintro e w5 ⟨A5, n5, c5, rfl, O5, hb5⟩
        clear p0 p1 p2 p3 HFC HOI HBP
        go_wp2_with fail
        refine (HTC.out _ _ _ O5).mono ?_
        rintro e w6 ⟨n1, r1, A6, m6, c6, v6, rfl, O6, hb6⟩
        have B7 := Lib.hid ((hb5.trans (hb6.mono hb5.size)).alloc (Nat.le_trans hb5.size hb6.size) (.cells (paL 0 n1 r1 (.slice A6 m6 c6)).toArray 34))
        have OF7 := OwnR.more O6 ((Below.refl _ _).alloc (Nat.le_refl _) (.cells (paL 0 n1 r1 (.slice A6 m6 c6)).toArray 34))
        obtain ⟨gf, capf, hvf, _, hgf, hcf, _⟩ := OwnF.rows OF7 (by simp; omega)
        have HCF := Lib.hid (fun k (hk : k < K) => show (w6.alloc (.cells (paL 0 n1 r1 (.slice A6 m6 c6)).toArray 34)).cell? ⟨gf, k * 4, none⟩ = some (.int .i64 (frI S lA k).1) ∧ (w6.alloc (.cells (paL 0 n1 r1 (.slice A6 m6 c6)).toArray 34)).cell? ⟨gf, k * 4 + 1, none⟩ = some (.int .i64 (frI S lA k).2.1) ∧ (w6.alloc (.cells (paL 0 n1 r1 (.slice A6 m6 c6)).toArray 34)).cell? ⟨gf, k * 4 + 2, none⟩ = some (.int .i64 (frI S lA k).2.2.1) ∧ (w6.alloc (.cells (paL 0 n1 r1 (.slice A6 m6 c6)).toArray 34)).cell? ⟨gf, k * 4 + 3, none⟩ = some (.string (frI S lA k).2.2.2) from by
          have h := hcf k (by simpa using hk)
          simpa using h)
        rw [List.length_map, List.length_range] at hvf
        subst hvf
        clear O5 hb5 O6 hb6 OF7 hcf HTC
        go_upto_region 12 with fail
        generalize w6.alloc (.cells #[.int .i64 0, .int .i64 n1, .string r1, .slice A6 m6 c6] 34) = w8 at *
        have K0 := Lib.hid (show FK w8 ((w8.alloc (.cells #[] 39)).alloc (.cells #[] 4)) (.slice (some ⟨w8.heap.size, 0, none⟩) 0 0) [] (.slice (some ⟨w8.heap.size + 1, 0, none⟩) 0 0) [] from
          ⟨((Below.refl _ _).alloc (Nat.le_refl _) _).alloc (by simp) _, OwnR.more (OwnR.empty w8 w8.heap.size (Nat.le_refl _)) ((Below.refl _ _).alloc (Nat.le_refl _) _), by
            have h := OwnR.empty (E := 4) (sz := 1) (w8.alloc (.cells #[] 39)) w8.heap.size (by simp)
            rw [show (w8.alloc (.cells #[] 39)).heap.size = w8.heap.size + 1 by simp] at h
            exact h⟩)
        go_upto_region 14 with fail
        generalize (w8.alloc (.cells #[] 39)).alloc (.cells #[] 4) = w9 at *
        obtain ⟨ib, hib, hi0, hi1, hi2⟩ := info_parts info_boolL
        have HIB := Lib.hid (And.intro hib (And.intro hi0 (And.intro hi1 hi2)))
        clear hib hi0 hi1 hi2
        obtain ⟨jf, hjf, hj0, hj1, hj2⟩ := info_parts info_frmL
        have HIF := Lib.hid (And.intro hjf (And.intro hj0 (And.intro hj1 hj2)))
        clear hjf hj0 hj1 hj2
        obtain ⟨ip, hip, hp0, hp1, hp2⟩ := info_parts info_pktD
        have HIP := Lib.hid (And.intro hip (And.intro hp0 (And.intro hp1 hp2)))
        clear hip hp0 hp1 hp2
        have B18 := Lib.hid (B14.out.trans (B7.out.mono B14.out.size))
        have BW8 := Lib.hid (B1.out.trans (B18.out.mono B1.out.size))
        go_wp2
        go_loopg [9, 10, 11] K (fun g v9 v10 v11 wx => ∃ ks : List Bool, ks.length ≤ K ∧ g = K - ks.length ∧ v11 = .int .i64 (ks.length : Int) ∧ FK w8 wx v9 (kpL (kf ks) S lA ks.length) v10 ks)
        case atStart => exact ⟨[], by simp, by simp, by go_num, K0.out⟩
        case round =>
          obtain ⟨ks, hk, rfl, rfl, hF⟩ := hrel
          clear K0
          by_cases hlt : ks.length < K
          · have hd : decide (ks.length < K) = true := by simp; omega
            have hkp := fun b => kp_snoc ks b S lA
            have hln := fun b : Bool => show (ks ++ [b]).length = ks.length + 1 from by simp
            obtain ⟨hl9, _⟩ := kpL_len (kf ks) S lA ks.length
            generalize hkl : ks.length = k at *
            have HKL := Lib.hid hkl
            have HKP := Lib.hid hkp
            have HLN := Lib.hid hln
            have F3 := Lib.hid hF
            have BW := Lib.hid (BW8.out.trans (hF.below.mono BW8.out.size))
            have D := Lib.hid (HCF.out k hlt)
            clear hkl hkp hln hF
            generalize frI S lA k = F6 at *
            generalize kpL (kf ks) S lA k = fs at *
            generalize hwr : wr = w10 at *
            clear hwr
            go_wp2_with fail
            refine (Ha.out _ BW.out k (by omega)).mono ?_
            rintro e w' ⟨x, hx, rfl, rfl⟩
            go_upto_region 18 with fail
            generalize ((x : Int) % 4 != 0) = B at *
            have F4 := Lib.hid (F3.out.more ((Below.refl _ _).alloc (Nat.le_refl _) (.cells #[.bool B] 4)))
            have HAT := Lib.hid (show RowsAt (w10.alloc (.cells #[.bool B] 4)) (some ⟨w10.heap.size, 0, none⟩) [[.bool B]] from .inr ⟨w10.heap.size, 0, rfl, fun j u hu => by
              rw [Nat.zero_add, World.cell?_alloc_at _ _ _ _ rfl]
              simpa using hu⟩)
            have hwz : w8.heap.size ≤ (w10.alloc (.cells #[.bool B] 4)).heap.size := F4.out.below.size
            have hll : (ks.map fun x => [Value.bool x]).length + [[Value.bool B]].length ≤ 1099511 := by rw [List.length_map, HKL.out]; simp only [List.length_cons, List.length_nil]; omega
            go_wp2_with (at_builtin; go_loud (refine app_rows 4 59 1 1 (.bool false) ib _ rfl _ _ rfl Try.underlying59 HIB.out.1 HIB.out.2.1 HIB.out.2.2.1 HIB.out.2.2.2 rfl (by decide) (by decide) w8.heap.size u10 (ks.map fun x => [Value.bool x]) rfl F4.out.o10 (some ⟨w10.heap.size, 0, none⟩) [[.bool B]] 1 rfl (by intro x hx; rw [List.mem_singleton.1 hx]; rfl) (by intro x hx u hu; rw [List.mem_singleton.1 hx] at hu; simp at hu; rcases hu with rfl; rfl) HAT.out hll hwz ?_))
            intro v11 w11 ho11 hg11 hor11
            have F5 := Lib.hid (F4.out.app10 (ks' := ks ++ [B]) (by rw [List.map_append]; exact ho11) hg11)
            clear ho11 hg11 hor11 F4 F3 HAT hwz hll
            cases B with
            | true =>
              have d0 := (F5.out.below.cell (p := ⟨gf, k * 4, none⟩) hgf).trans D.out.1
              have d1 := (F5.out.below.cell (p := ⟨gf, k * 4 + 1, none⟩) hgf).trans D.out.2.1
              have d2 := (F5.out.below.cell (p := ⟨gf, k * 4 + 2, none⟩) hgf).trans D.out.2.2.1
              have d3 := (F5.out.below.cell (p := ⟨gf, k * 4 + 3, none⟩) hgf).trans D.out.2.2.2
              have F6h := Lib.hid (F5.out.more ((Below.refl _ _).alloc (Nat.le_refl _) (.cells #[.int .i64 F6.1, .int .i64 F6.2.1, .int .i64 F6.2.2.1, .string F6.2.2.2] 39)))
              have HAT := Lib.hid (show RowsAt (w11.alloc (.cells #[.int .i64 F6.1, .int .i64 F6.2.1, .int .i64 F6.2.2.1, .string F6.2.2.2] 39)) (some ⟨w11.heap.size, 0, none⟩) [frC F6] from .inr ⟨w11.heap.size, 0, rfl, fun j u hu => by
                rw [Nat.zero_add, World.cell?_alloc_at _ _ _ _ rfl]
                simpa using hu⟩)
              have hwz : w8.heap.size ≤ (w11.alloc (.cells #[.int .i64 F6.1, .int .i64 F6.2.1, .int .i64 F6.2.2.1, .string F6.2.2.2] 39)).heap.size := F6h.out.below.size
              have hll : (fs.map frC).length + [frC F6].length ≤ 1099511 := by rw [List.length_map]; simp only [List.length_cons, List.length_nil]; omega
              go_wp2_with (at_builtin; go_loud (refine app_rows 39 51 4 40 (frV 0 0 0 ⟨#[]⟩) jf _ rfl _ _ rfl Try.underlying51 HIF.out.1 HIF.out.2.1 HIF.out.2.2.1 HIF.out.2.2.2 rfl (by decide) (by decide) w8.heap.size u9 (fs.map frC) rfl F6h.out.o9 (some ⟨w11.heap.size, 0, none⟩) [frC F6] 1 rfl (by intro x hx; rw [List.mem_singleton.1 hx]; rfl) (by intro x hx u hu; rw [List.mem_singleton.1 hx] at hu; simp at hu; rcases hu with rfl | rfl | rfl | rfl <;> rfl) HAT.out hll hwz ?_))
              intro v12 w12 ho12 hg12 hor12
              have F7 := Lib.hid (F6h.out.app9 (fs' := kpL (kf (ks ++ [true])) S lA (k + 1)) (by
                rw [HKP.out true, if_pos rfl]
                show OwnR _ _ _ _ _ ((fs ++ [F6]).map frC)
                rw [List.map_append]
                exact ho12) hg12)
              clear ho12 hg12 hor12 F6h F5 HAT hwz hll d0 d1 d2 d3
              go_wp2
              go_roundg (K - (k + 1))
              case measure => omega
              case rel => exact ⟨ks ++ [true], by rw [HLN.out]; omega, by rw [HLN.out], by rw [HLN.out]; go_num, by rw [HLN.out]; exact F7.out⟩
            | false =>
              go_wp2
              go_roundg (K - (k + 1))
              case measure => omega
              case rel => exact ⟨ks ++ [false], by rw [HLN.out]; omega, by rw [HLN.out], by rw [HLN.out]; go_num, by rw [HLN.out, HKP.out false, if_neg (by decide), List.append_nil]; exact F5.out⟩
          · have hkK : ks.length = K := by omega
            have hd : decide (ks.length < K) = false := by simp; omega
            obtain ⟨⟨tn, tb, tr, tl⟩, hup, hlost, hcall⟩ := HPU.out (kf ks)
            obtain ⟨g10, cap10, hv10, _, hg10, hc10, _⟩ := OwnR.rows hF.o10 (by rw [List.length_map]; omega)
            have HC10 := Lib.hid (fun j (hj : j < K) => show wr.cell? ⟨g10, j, none⟩ = some (.bool (kf ks j)) from by
              have h := hc10 j (by rw [List.length_map]; omega) 0 (by decide)
              rw [kf_at ks j (by omega)]
              simpa using h)
            rw [List.length_map] at hv10
            subst hv10
            obtain ⟨A9, c9, hv9⟩ := hF.o9.form
            rw [List.length_map] at hv9
            subst hv9
            have h9 := (kpL_len (kf ks) S lA ks.length).1
            rw [hkK] at hF h9 ⊢
            rw [hkK] at hd
            have HO9 := Lib.hid hF.o9
            have B8 := Lib.hid hF.below
            have HUP := Lib.hid hup
            have HCL := Lib.hid hcall
            clear hF hup hcall hc10 HPU HCF
            generalize kpL (kf ks) S lA K = fk at *
            generalize kf ks = keep at *
            clear hkK hk hlt
            generalize hwr : wr = w12 at *
            clear hwr
            have OW0 := Lib.hid (show OwnP (w12.alloc (.cells #[] 28)) w12.heap.size (.slice (some ⟨w12.heap.size, 0, none⟩) 0 0) [] from OwnR.empty w12 w12.heap.size (Nat.le_refl _))
            have BA := Lib.hid ((Below.refl w12.heap.size w12).alloc (Nat.le_refl _) (.cells #[] 28))
            go_upto_region 22 with fail
            generalize w12.alloc (.cells #[] 28) = w13 at *
            have B412 := Lib.hid (B7.out.trans (B8.out.mono B7.out.size))
            have B112 := Lib.hid (B14.out.trans (B412.out.mono B14.out.size))
            have hg5b : g5 < w12.heap.size := Nat.lt_of_lt_of_le hg5 B412.out.size
            have hglb : gl < w12.heap.size := Nat.lt_of_lt_of_le hgl B112.out.size
            have BW12 := Lib.hid (B1.out.trans (B112.out.mono B1.out.size))
            have HX5 := Lib.hid (fun k (hk : k < L.length) => (B412.out.cell (p := ⟨g5, k, none⟩) hg5).trans (HC5.out k hk))
            have HXL := Lib.hid (fun k (hk : k < L.length) => (⟨(B112.out.cell (p := ⟨gl, k * 3, none⟩) hgl).trans (HC.out k hk).1, (B112.out.cell (p := ⟨gl, k * 3 + 1, none⟩) hgl).trans (HC.out k hk).2.1, (B112.out.cell (p := ⟨gl, k * 3 + 2, none⟩) hgl).trans (HC.out k hk).2.2⟩ : w12.cell? ⟨gl, k * 3, none⟩ = some (.int .i64 (L[k]'hk).1) ∧ w12.cell? ⟨gl, k * 3 + 1, none⟩ = some (.int .i64 (L[k]'hk).2.1) ∧ w12.cell? ⟨gl, k * 3 + 2, none⟩ = some (.string (L[k]'hk).2.2)))
            have HWN := Lib.hid (fun k (hk : k < L.length) => show wantQ keep (L.take (k + 1)) 0 = wantQ keep (L.take k) 0 ++ (if allB keep ((encQ (L.take k)).size / 24) (((encQ (L.take k)).size + (3 + (L[k]'hk).2.2.size)) / 24 + 1 - (encQ (L.take k)).size / 24) = true then [((L[k]'hk).1, (L[k]'hk).2.1, (L[k]'hk).2.2)] else []) from by
              rw [want_snoc keep L HK.out k hk, oneW_all, HR.out _ (List.getElem_mem hk)])
            have HWl := Lib.hid (fun k => show (wantQ keep (L.take k) 0).length ≤ 1000 ∨ True from .inr trivial)
            clear HC HC5 B14 B7 B412 B112 B8 BW8 B18 HIB HIF hg5 hgl HWl
            go_wp2
            go_loopg [13, 14] L.length (fun g v13 v14 wx => ∃ k : Nat, k ≤ L.length ∧ g = L.length - k ∧ v14 = .int .i64 (k : Int) ∧ OwnP wx w12.heap.size v13 (wantQ keep (L.take k) 0) ∧ (wantQ keep (L.take k) 0).length ≤ k ∧ Below w12.heap.size w12 wx)
            case atStart => exact ⟨0, by omega, by omega, by go_num, OW0.out, Nat.le_refl _, BA.out⟩
            case round =>
              obtain ⟨k, hk, rfl, rfl, hO, hwl, hB⟩ := hrel
              clear OW0 BA
              by_cases hlt : k < L.length
              · have hd : decide (k < L.length) = true := by simp; omega
                have HO := Lib.hid hO
                have HB := Lib.hid hB
                have HWk := Lib.hid (HWN.out k hlt)
                have hob := HOB.out k hlt
                have hoB : (encQ (L.take k)).size ≤ 400 := by omega
                have c5 := (hB.cell (p := ⟨g5, k, none⟩) hg5b).trans (HX5.out k hlt)
                have y0 := (hB.cell (p := ⟨gl, k * 3, none⟩) hglb).trans (HXL.out k hlt).1
                have y1 := (hB.cell (p := ⟨gl, k * 3 + 1, none⟩) hglb).trans (HXL.out k hlt).2.1
                have y2 := (hB.cell (p := ⟨gl, k * 3 + 2, none⟩) hglb).trans (HXL.out k hlt).2.2
                have HT := Lib.hid (fun j (hj : j < K) => (hB.cell (p := ⟨g10, j, none⟩) hg10).trans (HC10.out j hj))
                have hd400 : (L[k]'hlt).2.2.size ≤ 400 := by omega
                clear hO hB
                obtain ⟨Wn, hWn⟩ : ∃ Wn, wantQ keep (L.take (k + 1)) 0 = Wn := ⟨_, rfl⟩
                rw [hWn] at HWk
                have HWN2 := Lib.hid hWn
                clear hWn
                generalize (L[k]'hlt).1 = a at *
                generalize (L[k]'hlt).2.1 = q at *
                generalize (L[k]'hlt).2.2 = d at *
                generalize (encQ (L.take k)).size = o at *
                generalize wantQ keep (L.take k) 0 = Wk at *
                have e1 : IntKind.i64.wrap ((o : Int) + 3) = (o : Int) + 3 := IntWalk.i64_in _ (by omega)
                have e2 : IntKind.i64.wrap ((o : Int) + 3 + (d.size : Int)) = (o : Int) + 3 + (d.size : Int) := IntWalk.i64_in _ (by omega)
                generalize hwr : wr = w14 at *
                clear hwr
                go_upto_region 25 with fail
                go_quiet (fail)
                go_upto_region 28 with fail
                have hs14 := HB.out.size
                have hg10b : g10 < w14.heap.size := by omega
                have hgl14 : gl < w14.heap.size := by omega
                have Bd := Lib.hid (below_draws (Below.refl w14.heap.size w14) nq)
                have HB2 := Lib.hid (below_draws HB.out nq)
                have HO2 := Lib.hid (show OwnP (w14.drewN nq) w12.heap.size u13 Wk from OwnR.more HO.out Bd.out)
                have HT2 := Lib.hid (fun j (hj : j < K) => (Bd.out.cell (p := ⟨g10, j, none⟩) hg10b).trans (HT.out j hj))
                have z0 := (Bd.out.cell (p := ⟨gl, k * 3, none⟩) hgl14).trans y0
                have z1 := (Bd.out.cell (p := ⟨gl, k * 3 + 1, none⟩) hgl14).trans y1
                have z2 := (Bd.out.cell (p := ⟨gl, k * 3 + 2, none⟩) hgl14).trans y2
                clear y0 y1 y2 c5 HT HO HB hs14 Bd e1 e2 hg10b hgl14
                generalize w14.drewN nq = w15 at *
                go_loopg [16, 17] ((o + (3 + d.size)) / 24 + 1 - o / 24) (fun g v16 v17 wx => ∃ m i : Nat, m ≤ (o + (3 + d.size)) / 24 + 1 - o / 24 ∧ g = (o + (3 + d.size)) / 24 + 1 - o / 24 - m ∧ i = o / 24 + m ∧ v16 = .bool (allB keep (o / 24) m) ∧ v17 = .int .i64 (i : Int) ∧ wx = w15)
                case atStart => exact ⟨0, o / 24, by omega, by omega, by omega, rfl, congrArg (Value.int .i64) (by omega), rfl⟩
                case round =>
                  obtain ⟨m, i, hm, rfl, hi, rfl, rfl, hw⟩ := hrel
                  subst hw
                  by_cases hle : i ≤ (o + (3 + d.size)) / 24
                  · have hd2 : decide ((i : Int) ≤ ((o : Int) + 3 + (d.size : Int)) / 24) = true := by rw [decide_eq_true_iff]; omega
                    have hiK : i < K := by omega
                    have hd3 : decide (i < K) = true := by simp; omega
                    have t0 := HT2.out i hiK
                    have HAB := Lib.hid (show allB keep (o / 24) (m + 1) = (allB keep (o / 24) m && keep i) from by rw [hi]; rfl)
                    have HIE := Lib.hid hi
                    clear hi
                    cases hW : allB keep (o / 24) m with
                    | true =>
                      rw [hW] at HAB
                      clear hW
                      go_wp2
                      go_roundg ((o + (3 + d.size)) / 24 + 1 - o / 24 - (m + 1))
                      case measure => have := HIE.out; omega
                      case rel => exact ⟨m + 1, i + 1, by have := HIE.out; omega, rfl, by have := HIE.out; omega, by rw [HAB.out]; simp, by go_num, rfl⟩
                    | false =>
                      rw [hW] at HAB
                      clear hW
                      go_wp2
                      go_roundg ((o + (3 + d.size)) / 24 + 1 - o / 24 - (m + 1))
                      case measure => have := HIE.out; omega
                      case rel => exact ⟨m + 1, i + 1, by have := HIE.out; omega, rfl, by have := HIE.out; omega, by rw [HAB.out]; simp, by go_num, rfl⟩
                  · have hd2 : decide ((i : Int) ≤ ((o : Int) + 3 + (d.size : Int)) / 24) = false := by rw [decide_eq_false_iff_not]; omega
                    obtain rfl : m = (o + (3 + d.size)) / 24 + 1 - o / 24 := by omega
                    clear hi hle hm
                    generalize allB keep (o / 24) ((o + (3 + d.size)) / 24 + 1 - o / 24) = Wb at *
                    cases Wb with
                    | true =>
                      rw [if_pos rfl] at HWk
                      have HO3 := Lib.hid (OwnR.more HO2.out ((Below.refl _ _).alloc (Nat.le_refl _) (.cells #[.int .i64 a, .int .i64 q, .string d] 28)))
                      have HB3 := Lib.hid (HB2.out.alloc HB2.out.size (.cells #[.int .i64 a, .int .i64 q, .string d] 28))
                      have HAT := Lib.hid (show RowsAt (wr.alloc (.cells #[.int .i64 a, .int .i64 q, .string d] 28)) (some ⟨wr.heap.size, 0, none⟩) [pkC (a, q, d)] from .inr ⟨wr.heap.size, 0, rfl, fun j u hu => by
                        rw [Nat.zero_add, World.cell?_alloc_at _ _ _ _ rfl]
                        simpa using hu⟩)
                      have hwz : w12.heap.size ≤ (wr.alloc (.cells #[.int .i64 a, .int .i64 q, .string d] 28)).heap.size := HB3.out.size
                      have hll : (Wk.map pkC).length + [pkC (a, q, d)].length ≤ 1099511 := by rw [List.length_map]; simp only [List.length_cons, List.length_nil]; omega
                      go_wp2_with (at_builtin; go_loud (refine app_rows 28 24 3 32 (pkV 0 0 ⟨#[]⟩) ip _ rfl _ _ rfl Try.underlying24 HIP.out.1 HIP.out.2.1 HIP.out.2.2.1 HIP.out.2.2.2 rfl (by decide) (by decide) w12.heap.size u13 (Wk.map pkC) rfl HO3.out (some ⟨wr.heap.size, 0, none⟩) [pkC (a, q, d)] 1 rfl (by intro x hx; rw [List.mem_singleton.1 hx]; rfl) (by intro x hx u hu; rw [List.mem_singleton.1 hx] at hu; simp at hu; rcases hu with rfl | rfl | rfl <;> rfl) HAT.out hll hwz ?_))
                      intro v16 w16 ho16 hg16 hor16
                      have HB4 := Lib.hid (HB3.out.grown hg16 HB3.out.size (fun j hj => (OwnR.upto HO3.out j hj).1))
                      have HO4 := Lib.hid (show OwnP w16 w12.heap.size v16 (Wk ++ [(a, q, d)]) from by
                        show OwnR _ _ _ _ _ ((Wk ++ [(a, q, d)]).map pkC)
                        rw [List.map_append]
                        exact ho16)
                      clear ho16 hg16 hor16 HAT hwz hll HO3 HB3 HO2 HB2 HT2
                      go_wp2
                      go_roundg (L.length - (k + 1))
                      case measure => omega
                      case rel => exact ⟨k + 1, by omega, rfl, by go_num, by rw [HWN2.out, HWk.out]; exact HO4.out, by rw [HWN2.out, HWk.out, List.length_append, List.length_singleton]; omega, HB4.out⟩
                    | false =>
                      rw [if_neg (by decide), List.append_nil] at HWk
                      go_wp2
                      go_roundg (L.length - (k + 1))
                      case measure => omega
                      case rel => exact ⟨k + 1, by omega, rfl, by go_num, by rw [HWN2.out, HWk.out]; exact HO2.out, by rw [HWN2.out, HWk.out]; omega, HB2.out⟩
              · obtain rfl : k = L.length := by omega
                have hd : decide (L.length < L.length) = false := by simp
                rw [List.take_length] at hO hwl
                have HO := Lib.hid hO
                have HB := Lib.hid hB
                have HO9b := Lib.hid (OwnR.more HO9.out hB)
                have BW := Lib.hid (BW12.out.trans (hB.mono BW12.out.size))
                clear hO hB HWN HX5 HXL HOB HC10 HK HR
                generalize wantQ keep L 0 = Wk at *
                generalize hwr : wr = w14 at *
                clear hwr
                go_wp2_with fail
                refine (new_impl 0 _).mono ?_
                rintro e w15 ⟨rfl, hb15⟩
                have BX := Lib.hid (BW.out.trans (hb15.mono BW.out.size))
                have HOb := Lib.hid (OwnR.more HO.out hb15)
                have HO9c := Lib.hid (OwnR.more HO9b.out hb15)
                clear hb15
                go_wp2_with fail
                refine (HCL.out _ _ _ HO9c.out).mono ?_
                rintro e w16 ⟨v2, rfl, O16, hb16⟩
                have BY := BX.out.trans (hb16.mono BX.out.size)
                have B17 := Lib.hid (BY.alloc BY.size (.cells (unL 0 tn tb tr tl).toArray 49))
                have R17 := Lib.hid (Box.made w16 (unL 0 tn tb tr tl) 49 _ rfl)
                have OG := Lib.hid (OwnR.more O16 ((Below.refl _ _).alloc (Nat.le_refl _) (.cells (unL 0 tn tb tr tl).toArray 49)))
                have OV := Lib.hid (OwnR.more (OwnR.more HOb.out hb16) ((Below.refl _ _).alloc (Nat.le_refl _) (.cells (unL 0 tn tb tr tl).toArray 49)))
                clear BY O16 hb16 HO9c HO9b HOb HCL
                go_upto_region 34 with fail
                generalize w16.alloc (.cells #[.int .i64 0, .int .i64 tn, .bool tb, .string tr, .int .i64 tl] 49) = w17 at *
                have HSP := Lib.hid (same_pkts w17 _ _ v2 u13 Wk (by omega) OG.out OV.out)
                have HUO := Lib.hid (up_impl 0 tn tb tr tl)
                rw [decide_eq_true HUP.out] at HUO
                by_cases hlk : fk.length < K
                · have hd2 : decide (fk.length < K) = true := by simp; omega
                  go_wp2_with fail
                  refine HSP.out.mono ?_
                  rintro e w18 ⟨rfl, hb18⟩
                  have B18 := Lib.hid (B17.out.trans (hb18.mono B17.out.size))
                  have R18 := Lib.hid (R17.out.more hb18)
                  clear hb18
                  obtain ⟨m0, m1, m2, m3, m4⟩ := R18.out.five
                  go_wp2_with fail
                  refine (HUO.out _).mono ?_
                  rintro e w19 ⟨rfl, hb19⟩
                  go_wp2
                  go_ret
                  exact ⟨rfl, B18.out.trans (hb19.mono B18.out.size)⟩
                · have hd2 : decide (fk.length < K) = false := by simp; omega
                  have htl : tl = 0 := by
                    rcases hlost with h | h
                    · exact absurd h hlk
                    · exact h
                  subst htl
                  go_wp2_with fail
                  refine HSP.out.mono ?_
                  rintro e w18 ⟨rfl, hb18⟩
                  have B18 := Lib.hid (B17.out.trans (hb18.mono B17.out.size))
                  have R18 := Lib.hid (R17.out.more hb18)
                  clear hb18
                  obtain ⟨m0, m1, m2, m3, m4⟩ := R18.out.five
                  go_wp2_with fail
                  refine (HUO.out _).mono ?_
                  rintro e w19 ⟨rfl, hb19⟩
                  obtain ⟨n0, n1, n2, n3, n4⟩ := (R18.out.more hb19).five
                  go_wp2
                  go_ret
                  exact ⟨rfl, B18.out.trans (hb19.mono B18.out.size)⟩
end Go.Proofs.Ytegahdlfjdjcaaa
