/- What this text proves: the contracts of the program's SpreadBits and GatherBits. -/
import Derived.Test.YtdponcannphboabDoorLnkJ
namespace Go.Proofs.YtdponcannphboabDoor
open Go.ChangeShapes Go.WideShapes Go.ChangeAt Go.RowKit Go.Shelf
set_option linter.unusedVariables false
attribute [local go_sem] Oper.semAt_some

theorem RowB.kept {W W' : World} {row : Option Nat} {base g n c : Nat} {m : List UInt8} (h : RowB W base g n c m) (hg : W.grownBy W' row) (hr : ∀ r, row = some r → ∃ o : Obj, W.heap[r]? = some o ∧ o.isCells = false) : RowB W' base g n c m := by
  refine World.ownsRow.kept h hg (.inr fun e => ?_)
  rcases h.2 with ⟨e2, _⟩ | ⟨g2, cap, cur, e2, _, hh, _⟩
  · simp at e2
  · obtain ⟨o, ho, hno⟩ := hr g (by rw [← e]; rfl)
    have : g2 = g := by simp at e2; exact e2.1.symm
    subst this
    rw [hh] at ho
    obtain rfl := Option.some.inj ho
    simp [Obj.isCells] at hno

/-- The places that have been set. -/
def dnS (n : Nat) (pre : List (Fin (8 * n))) (P : Nat) : Bool := pre.any fun q => plS n q.val == P
def dnG (n : Nat) (pre : List (Fin (8 * n))) (P : Nat) : Bool := pre.any fun q => q.val == P
theorem dnS_snoc (n : Nat) (pre : List (Fin (8 * n))) (x : Fin (8 * n)) : (fun p => dnS n pre p || p == plS n x.val) = dnS n (pre ++ [x]) := by
  funext p
  unfold dnS
  rw [List.any_append]
  simp [Bool.beq_comm]
theorem dnG_snoc (n : Nat) (pre : List (Fin (8 * n))) (x : Fin (8 * n)) : (fun p => dnG n pre p || p == x.val) = dnG n (pre ++ [x]) := by
  funext p
  unfold dnG
  rw [List.any_append]
  simp [Bool.beq_comm]
theorem dnG_all (n : Nat) (p : Nat) (hp : p < 8 * n) : dnG n (List.finRange (8 * n)) p = true := by
  unfold dnG
  rw [List.any_eq_true]
  exact ⟨⟨p, hp⟩, List.mem_finRange _, by simp⟩
theorem dnS_all (n : Nat) (p : Nat) (hp : p < 8 * n) : dnS n (List.finRange (8 * n)) p = true := by
  unfold dnS
  rw [List.any_eq_true]
  have h0 : 0 < n := by omega
  have hk : p / n < 8 := Nat.div_lt_of_lt_mul (by omega)
  have hm : p % n < n := Nat.mod_lt _ h0
  refine ⟨⟨8 * (p % n) + p / n, by omega⟩, List.mem_finRange _, ?_⟩
  simp only [plS_at n (p % n) (p / n) hk, beq_iff_eq]
  exact Nat.div_add_mod' p n

theorem stT_get (n : Nat) (dn B : Nat → Bool) (j : Nat) (h : j < n) : (stT n dn B)[j]? = some (UInt8.ofNat (stB dn B j)) := by
  rw [List.getElem?_eq_getElem (by rw [stT_len]; exact h), stT_at]
  rfl
theorem spr_place (s : ByteArray) (q : Nat) (h : q < 8 * s.size) : placeB s q = sprB s (plS s.size q) := by
  unfold plS
  rw [spr_at s (q % 8) (q / 8) (by omega)]
  rfl
theorem below_keep {b n : Nat} {W W' : World} (h : Below n W W') (hb : b < n) : KeepN b W W' := fun v hv => (h.cell (p := ⟨b, 0, none⟩) hb).trans hv
theorem keep_other {b g j : Nat} (W : World) (v : Value) (hne : g ≠ b) : KeepN b W ((W.setCell ⟨g, j, none⟩ v).drew) := fun u hu => by
  show (W.setCell ⟨g, j, none⟩ v).cell? ⟨b, 0, none⟩ = some u
  rw [World.cell?_setCell_other _ ⟨g, j, none⟩ ⟨b, 0, none⟩ _ (fun h => hne (by injection h))]
  exact hu

/-- What the call's own blocks hold when some places are set. -/
def SprI (s : ByteArray) (B : Nat → Bool) (h : Nat) (dn : Nat → Bool) (W : World) : Prop :=
  RowB W (h + 1) (h + 1) s.size s.size (stT s.size dn B) ∧ W.cell? ⟨h, 0, none⟩ = some (.string s) ∧ W.cell? ⟨h + 1 + 1, 0, none⟩ = some (.slice (some ⟨h + 1, 0, none⟩) s.size s.size)
theorem SprI.kept {s : ByteArray} {B : Nat → Bool} {h : Nat} {dn : Nat → Bool} {W W' : World} {row : Option Nat} (hi : SprI s B h dn W) (hg : W.grownBy W' row) (hr : ∀ r, row = some r → ∃ o : Obj, W.heap[r]? = some o ∧ o.isCells = false) : SprI s B h dn W' :=
  ⟨hi.1.kept hg hr, cell_kept hi.2.1 hg hr, cell_kept hi.2.2 hg hr⟩
theorem SprI.set {s : ByteArray} {B : Nat → Bool} {h : Nat} {dn dn' : Nat → Bool} {W : World} (hi : SprI s B h dn W) (P : Nat) (hP : P < 8 * s.size) (b : Bool) (hb : b = B P) (hd : (fun p => dn p || p == P) = dn') :
    SprI s B h dn' ((W.setCell ⟨h + 1, P / 8, none⟩ (.int .u8 ((stB dn B (P / 8) ||| (if b then 2 ^ (P % 8) else 0) : Nat) : Int))).drew) := by
  subst hb
  subst hd
  refine ⟨row_drew (st_store hi.1 P hP), keep_other W _ (by omega) _ hi.2.1, keep_other W _ (by omega) _ hi.2.2⟩

/-- The world when the loop begins. -/
theorem spr_start (s : ByteArray) (hs : s.size ≤ 1048576) (B dn : Nat → Bool) (hdn : ∀ p, dn p = false) (w : World) : ∃ W0 : World,
    ((((w.alloc (.cells #[.string s] 9)).alloc (.cells (madeCells #[Value.int .u8 0] s.size) 5)).alloc (.cells #[.slice (some ⟨w.heap.size + 1, 0, none⟩) s.size s.size] 26)).alloc (.cells #[.int .i64 (s.size : Int)] 3)) = W0 ∧
    SprI s B w.heap.size dn W0 ∧ Below w.heap.size w W0 ∧ W0.cell? ⟨w.heap.size + 1 + 1 + 1, 0, none⟩ = some (.int .i64 (s.size : Int)) ∧ W0.heap.size = w.heap.size + 1 + 1 + 1 + 1 := by
  have hrow0 := make_row (w.alloc (.cells #[.string s] 9)) s.size (by omega)
  rw [World.size_alloc] at hrow0
  have e1 : (w.alloc (.cells #[.string s] 9)).cell? ⟨w.heap.size, 0, none⟩ = some (.string s) := by rw [World.cell?_alloc_at _ _ _ _ rfl]; rfl
  refine ⟨_, rfl, ⟨row_same (World.ownsRow.alloc (World.ownsRow.alloc hrow0 _) _) (stT_none _ _ _ (fun p _ => hdn p)).symm, ?_, ?_⟩, ?_, ?_, ?_⟩
  · have b1 := (((Below.refl _ (w.alloc (.cells #[.string s] 9))).alloc (Nat.le_refl _) (.cells (madeCells #[Value.int .u8 0] s.size) 5)).alloc (by simp) (.cells #[.slice (some ⟨w.heap.size + 1, 0, none⟩) s.size s.size] 26)).alloc (by simp) (.cells #[.int .i64 (s.size : Int)] 3)
    exact (b1.cell (p := ⟨w.heap.size, 0, none⟩) (by simp)).trans e1
  · generalize hW : (w.alloc (.cells #[.string s] 9)).alloc (.cells (madeCells #[Value.int .u8 0] s.size) 5) = W
    have hz : W.heap.size = w.heap.size + 1 + 1 := by rw [← hW]; simp
    have e : (W.alloc (.cells #[.slice (some ⟨w.heap.size + 1, 0, none⟩) s.size s.size] 26)).cell? ⟨w.heap.size + 1 + 1, 0, none⟩ = some (.slice (some ⟨w.heap.size + 1, 0, none⟩) s.size s.size) := by rw [World.cell?_alloc_at _ _ _ _ hz.symm]; rfl
    have b1 := (Below.refl _ (W.alloc (.cells #[.slice (some ⟨w.heap.size + 1, 0, none⟩) s.size s.size] 26))).alloc (Nat.le_refl _) (.cells #[.int .i64 (s.size : Int)] 3)
    exact (b1.cell (p := ⟨w.heap.size + 1 + 1, 0, none⟩) (by simp; omega)).trans e
  · exact ((((Below.refl _ _).alloc (Nat.le_refl _) _).alloc (by simp) _).alloc (by simp; omega) _).alloc (by simp; omega) _
  · rw [World.cell?_alloc_at _ _ _ _ (by simp)]
    rfl
  · simp

set_option maxRecDepth 100000 in
set_option maxHeartbeats 4000000 in
theorem spread_impl (s : ByteArray) (hs : s.size ≤ 1048576) (w : World) :
    Calls Tryd.prog 30 #[.string s] w fun e w' => e = .returned (.string (spreadT s)) ∧ Below w.heap.size w w' := by
  have hmk := fun W => make_full W s.size (by omega)
  have cP := fun W => places_make Fence.wide 5 trivial rfl s.size W
  have hF19 : Fence.wide.fn 48 := trivial
  have hF20 : Fence.wide.fn 49 := trivial
  refine (callsIn_wide (n := 6)).1 ?_
  refine callsIn_of_wp_marks Tryd.func30 rfl trivial ?_ rfl
  simp only [Tryd.ntmps30, List.size_toArray, List.length_cons, List.length_nil, Nat.reduceAdd, Nat.reduceSub, Array.replicate_succ, Array.replicate_zero, List.push_toArray, List.append_toArray, List.nil_append, List.cons_append]
  gi_wp2_with (gi_at_call 48; refine (cP _).mono ?_; rintro e w' ⟨rfl, rfl⟩)
  clear hmk cP
  obtain ⟨W0, hW0, h0, hB0, hcb, hsz⟩ := spr_start s hs (sprB s) (dnS s.size []) (fun _ => rfl) w
  rw [hW0]
  clear hW0
  have hseq := places_stops Fence.wide (6 - 1) trivial rfl (by omega) (w.heap.size + 1 + 1 + 1) s.size (by omega) W0 (by omega) hcb
  refine wpIn_rangeFunc_ownF (F := Fence.wide) (n := 6) rfl (by omega) (gf := 61) (lb := #[.pointer (some ⟨w.heap.size + 1 + 1 + 1, 0, none⟩)]) rfl trivial (enters_of Tryd.func61 (by kernel_rfl) rfl) hseq ?kt ?kb ?b0 ?ps
    (fun pre W => SprI s (sprB s) w.heap.size (dnS s.size pre) W ∧ Below w.heap.size w W) (fun _ _ _ => False) ?hI ?hIx ?h0
    (fun x => { tmps := #[.string s, .pointer (some ⟨w.heap.size, 0, none⟩), .string ⟨#[]⟩, .pointer (some ⟨w.heap.size + 1 + 1, 0, none⟩), .int .i64 (x.val : Int), .int .i64 (plS s.size x.val : Int), .string s, .int .i64 (s.size : Int), .slice (some ⟨w.heap.size + 1, 0, none⟩) s.size s.size, .string s, .int .i64 (s.size : Int), .func (.func 61) #[] #[.pointer (some ⟨w.heap.size + 1 + 1 + 1, 0, none⟩)], .int .i64 (x.val : Int), .int .i64 (plS s.size x.val : Int), undef, undef, undef, undef, undef, undef, undef], defers := [] }) ?assign ?body ?done ?stop
  case kt => exact fun h k v hv => k v (h v hv)
  case kb => exact fun W l o o' hl h h1 h2 => below_keep (belowK_b (Nat.le_refl _) W l o o' hl h h1 h2) (by omega)
  case b0 => exact Below.refl _ _
  case ps => exact fun _ => rfl
  case hI => exact fun p A C row hp hg hr => ⟨hp.1.kept hg (fun r e => (hr r e).2), hp.2.grown hg hp.2.size (fun k e => by have := (hr k e).1; omega)⟩
  case hIx => exact fun _ _ _ _ _ hs _ _ => hs
  case h0 => exact ⟨h0, hB0⟩
  case assign =>
    intro l x W K hK
    gi_wp2
    exact hK
  case body =>
    rintro l pre x W ⟨hi, hB⟩ _
    have hx := x.isLt
    have hp := plS_lt s.size x.val hx
    have c1 := hi.2.1
    have c2 := hi.2.2
    have cC := copy_bit W (w.heap.size + 1) (w.heap.size + 1) s.size s.size _ hi.1 (plS s.size x.val) x.val s hp hx (by omega) (by omega) _ (stT_get _ _ _ _ (by omega)) (stB_lt _ _ _)
    have h2 := hi.set (dn' := dnS s.size (pre ++ [x])) (plS s.size x.val) hp (placeB s x.val) (spr_place s x.val hx) (dnS_snoc _ _ _)
    obtain ⟨v, hv⟩ : ∃ v : Nat, (stB (dnS s.size pre) (sprB s) ((plS s.size x.val) / 8) ||| (if placeB s x.val then 2 ^ ((plS s.size x.val) % 8) else 0)) = v := ⟨_, rfl⟩
    rw [hv] at cC h2
    clear hv
    have H2 := Lib.hid h2
    clear h2
    have h1 : 1 ≤ 6 - 1 - 1 := by omega
    gi_wp2_with (gi_at_call 49; refine (CallsIn.inRound l (callsIn_wide.2 cC)).mono ?_; rintro e w' ⟨rfl, rfl⟩)
    refine ⟨?r1, ?r2, ?r3, ?r4⟩
    case r1 => exact (KeepsOthers.setCell _ _ _).trans (KeepsOthers.drew _)
    case r2 => exact keep_other W _ (by omega)
    case r3 => exact H2.out
    case r4 => exact (hB.setCell (p := ⟨w.heap.size + 1, (plS s.size x.val) / 8, none⟩) (by simp) _).drew
  case done =>
    rintro D xs W hD rfl ⟨hi, hB⟩ hK
    have c2 := hi.2.2
    have hcv := conv_bytes W _ _ _ hi.1.own
    have HV := Lib.hid (show (⟨(stT s.size (dnS s.size (List.finRange (8 * s.size))) (sprB s)).toArray⟩ : ByteArray) = spreadT s from stT_all s.size _ (sprB s) (dnS_all s.size))
    gi_wp2
    refine ⟨by simp, .inl ⟨_, _, rfl, run_takeDeferred hK, ?_⟩⟩
    exact ⟨_, results_tmp rfl _ _ _, by rw [← HV.out]; rfl, hB.trans (belowK_b (w := w) (Nat.le_refl _) W D _ _ (by omega) hK rfl rfl)⟩
  case stop =>
    rintro D c pre W _ _ h _
    exact h.elim

set_option maxRecDepth 100000 in
set_option maxHeartbeats 4000000 in
theorem gather_impl (s : ByteArray) (hs : s.size ≤ 1048576) (w : World) :
    Calls Tryd.prog 35 #[.string s] w fun e w' => e = .returned (.string (gatherT s)) ∧ Below w.heap.size w w' := by
  have hmk := fun W => make_full W s.size (by omega)
  have cP := fun W => places_make Fence.wide 5 trivial rfl s.size W
  have hF19 : Fence.wide.fn 48 := trivial
  have hF20 : Fence.wide.fn 49 := trivial
  refine (callsIn_wide (n := 6)).1 ?_
  refine callsIn_of_wp_marks Tryd.func35 rfl trivial ?_ rfl
  simp only [Tryd.ntmps35, List.size_toArray, List.length_cons, List.length_nil, Nat.reduceAdd, Nat.reduceSub, Array.replicate_succ, Array.replicate_zero, List.push_toArray, List.append_toArray, List.nil_append, List.cons_append]
  gi_wp2_with (gi_at_call 48; refine (cP _).mono ?_; rintro e w' ⟨rfl, rfl⟩)
  clear hmk cP
  obtain ⟨W0, hW0, h0, hB0, hcb, hsz⟩ := spr_start s hs (gatB s) (dnG s.size []) (fun _ => rfl) w
  rw [hW0]
  clear hW0
  have hseq := places_stops Fence.wide (6 - 1) trivial rfl (by omega) (w.heap.size + 1 + 1 + 1) s.size (by omega) W0 (by omega) hcb
  refine wpIn_rangeFunc_ownF (F := Fence.wide) (n := 6) rfl (by omega) (gf := 61) (lb := #[.pointer (some ⟨w.heap.size + 1 + 1 + 1, 0, none⟩)]) rfl trivial (enters_of Tryd.func61 (by kernel_rfl) rfl) hseq ?kt ?kb ?b0 ?ps
    (fun pre W => SprI s (gatB s) w.heap.size (dnG s.size pre) W ∧ Below w.heap.size w W) (fun _ _ _ => False) ?hI ?hIx ?h0
    (fun x => { tmps := #[.string s, .pointer (some ⟨w.heap.size, 0, none⟩), .string ⟨#[]⟩, .pointer (some ⟨w.heap.size + 1 + 1, 0, none⟩), .int .i64 (x.val : Int), .int .i64 (plS s.size x.val : Int), .string s, .int .i64 (s.size : Int), .slice (some ⟨w.heap.size + 1, 0, none⟩) s.size s.size, .string s, .int .i64 (s.size : Int), .func (.func 61) #[] #[.pointer (some ⟨w.heap.size + 1 + 1 + 1, 0, none⟩)], .int .i64 (x.val : Int), .int .i64 (plS s.size x.val : Int), undef, undef, undef, undef, undef, undef, undef], defers := [] }) ?assign ?body ?done ?stop
  case kt => exact fun h k v hv => k v (h v hv)
  case kb => exact fun W l o o' hl h h1 h2 => below_keep (belowK_b (Nat.le_refl _) W l o o' hl h h1 h2) (by omega)
  case b0 => exact Below.refl _ _
  case ps => exact fun _ => rfl
  case hI => exact fun p A C row hp hg hr => ⟨hp.1.kept hg (fun r e => (hr r e).2), hp.2.grown hg hp.2.size (fun k e => by have := (hr k e).1; omega)⟩
  case hIx => exact fun _ _ _ _ _ hs _ _ => hs
  case h0 => exact ⟨h0, hB0⟩
  case assign =>
    intro l x W K hK
    gi_wp2
    exact hK
  case body =>
    rintro l pre x W ⟨hi, hB⟩ _
    have hx := x.isLt
    have hp := plS_lt s.size x.val hx
    have c1 := hi.2.1
    have c2 := hi.2.2
    have cC := copy_bit W (w.heap.size + 1) (w.heap.size + 1) s.size s.size _ hi.1 x.val (plS s.size x.val) s hx hp (by omega) (by omega) _ (stT_get _ _ _ _ (by omega)) (stB_lt _ _ _)
    have h2 := hi.set (dn' := dnG s.size (pre ++ [x])) x.val hx (placeB s (plS s.size x.val)) rfl (dnG_snoc _ _ _)
    obtain ⟨v, hv⟩ : ∃ v : Nat, (stB (dnG s.size pre) (gatB s) (x.val / 8) ||| (if placeB s (plS s.size x.val) then 2 ^ (x.val % 8) else 0)) = v := ⟨_, rfl⟩
    rw [hv] at cC h2
    clear hv
    have H2 := Lib.hid h2
    clear h2
    have h1 : 1 ≤ 6 - 1 - 1 := by omega
    gi_wp2_with (gi_at_call 49; refine (CallsIn.inRound l (callsIn_wide.2 cC)).mono ?_; rintro e w' ⟨rfl, rfl⟩)
    refine ⟨?r1, ?r2, ?r3, ?r4⟩
    case r1 => exact (KeepsOthers.setCell _ _ _).trans (KeepsOthers.drew _)
    case r2 => exact keep_other W _ (by omega)
    case r3 => exact H2.out
    case r4 => exact (hB.setCell (p := ⟨w.heap.size + 1, x.val / 8, none⟩) (by simp) _).drew
  case done =>
    rintro D xs W hD rfl ⟨hi, hB⟩ hK
    have c2 := hi.2.2
    have hcv := conv_bytes W _ _ _ hi.1.own
    have HV := Lib.hid ((stT_all s.size (dnG s.size (List.finRange (8 * s.size))) (gatB s) (dnG_all s.size)).trans (gat_all s))
    gi_wp2
    refine ⟨by simp, .inl ⟨_, _, rfl, run_takeDeferred hK, ?_⟩⟩
    exact ⟨_, results_tmp rfl _ _ _, by rw [← HV.out]; rfl, hB.trans (belowK_b (w := w) (Nat.le_refl _) W D _ _ (by omega) hK rfl rfl)⟩
  case stop =>
    rintro D c pre W _ _ h _
    exact h.elim
end Go.Proofs.YtdponcannphboabDoor
