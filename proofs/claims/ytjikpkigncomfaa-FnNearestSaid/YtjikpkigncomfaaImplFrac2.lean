/- The program's own FractionOf, further: slices.Backward's iterator and the range over it. No condition. -/
import Derived.Test.YtjikpkigncomfaaImplFrac
namespace Go.Proofs.Ytjikpkigncomfaa
open Go.RowKit Go.Shelf
attribute [local go_sem] Oper.semAt_some

/-! ### slices.Backward: an iterator over a slice, from its end -/
/-- What a round is handed: an index and a quotient within its range. -/
abbrev Qv := { p : Int × Int // 0 ≤ p.2 ∧ p.2 ≤ 1000 }
def valsQ (pre : List Qv) : List Int := pre.map (fun x => x.1.2)
theorem valsQ_snoc (pre : List Qv) (x : Qv) : valsQ (pre ++ [x]) = valsQ pre ++ [x.1.2] := by unfold valsQ; simp
abbrev encQ (x : Qv) : Array Value := #[.int .i64 x.1.1, .int .i64 x.1.2]
/-- What a round keeps: all below n₀, and the box that holds the slice. -/
def KpQ (n₀ Bs : Nat) (A B : World) : Prop := Below n₀ A B ∧ B.cell? ⟨Bs, 0, none⟩ = A.cell? ⟨Bs, 0, none⟩
theorem KpQ.refl (n₀ Bs : Nat) (A : World) : KpQ n₀ Bs A A := ⟨Below.refl _ _, rfl⟩
theorem KpQ.trans {n₀ Bs : Nat} {A B C : World} (h : KpQ n₀ Bs A B) (k : KpQ n₀ Bs B C) : KpQ n₀ Bs A C := ⟨h.1.trans k.1, k.2.trans h.2⟩
theorem kpq_b {n₀ Bs : Nat} {w : World} (hn : n₀ ≤ w.heap.size) (hB : Bs < w.heap.size) (W : World) (l : Nat) (o o' : Obj) (hl : w.heap.size ≤ l) (h : W.heap[l]? = some o) (hc : o.isCells = false) (hk : o.isWalk = false) : KpQ n₀ Bs W (W.putObj l o') :=
  ⟨belowK_b hn W l o o' hl h hc hk, World.cell?_of_block (World.putObj_heap_other (by show Bs ≠ l; omega))⟩

set_option maxRecDepth 100000 in
set_option maxHeartbeats 2000000 in
theorem backward_stops (n Bs n₀ b off cap : Nat) {q : List Int} (hq : ∀ (k : Nat) (x : Int), q[k]? = some x → 0 ≤ x ∧ x ≤ 1000) (hlen : 1 ≤ q.length ∧ q.length ≤ 12) (w : World) (hBs : Bs < w.heap.size) (hn₀ : n₀ ≤ w.heap.size) (hb : b < n₀)
    (hc : w.cell? ⟨Bs, 0, none⟩ = some (.slice (some ⟨b, off, none⟩) q.length cap)) (hr : ∀ (k : Nat) (x : Int), q[k]? = some x → w.cell? ⟨b, off + k, none⟩ = some (.int .i64 x)) (hn : 1 ≤ n) :
    SeqStopsK Fence.wide n Try.prog 43 #[.pointer (some ⟨Bs, 0, none⟩)] encQ (KpQ n₀ Bs) (fun ys => valsQ ys = q.reverse) (fun pre => valsQ pre <+: q.reverse) q.length w := fun l J Jx W hW _ _ hY h0 => by
  have hc0 := (hW.cell (p := ⟨Bs, 0, none⟩) hBs).trans hc
  have HR : Hid (∀ (k : Nat) (x : Int), q[k]? = some x → W.cell? ⟨b, off + k, none⟩ = some (.int .i64 x)) := Lib.hid fun k x hx => (hW.cell (p := ⟨b, off + k, none⟩) (by show b < w.heap.size; omega)).trans (hr k x hx)
  have ew : IntKind.i64.wrap ((q.length : Int) - 1) = (q.length : Int) - 1 := IntWalk.i64_in _ (by omega)
  have HQ := Lib.hid hq
  clear hr hq hc
  show CallsIn Fence.wide n Try.prog 43 #[.func (.yield l) #[] #[], .pointer (some ⟨Bs, 0, none⟩)] W _
  refine callsIn_of_wp Try.func43 rfl trivial ?_ rfl
  simp only [Try.ntmps43, List.size_toArray, List.length_cons, List.length_nil, Nat.reduceAdd, Nat.reduceSub, Array.replicate_succ, Array.replicate_zero, List.push_toArray, List.append_toArray, List.nil_append, List.cons_append]
  gi_wp2
  gi_loopw [3] (fun v3 wr => ∃ (m : Nat) (pre : List Qv), m ≤ q.length ∧ v3 = .int .i64 ((m : Int) - 1) ∧ pre.length + m = q.length ∧ Hid (valsQ pre = (q.drop m).reverse) ∧ J pre wr ∧ KpQ n₀ Bs W wr) (fun v3 _ => (intOf v3 + 1).toNat)
  case atStart => exact ⟨q.length, [], Nat.le_refl _, rfl, by simp, Lib.hid (by simp [valsQ]), h0, KpQ.refl _ _ _⟩
  case round =>
    obtain ⟨m, pre, hm, rfl, hpl, HV, hJ, hk⟩ := hrel
    cases m with
    | zero =>
      gi_wp2
      go_end0
      exact ⟨⟨_, rfl⟩, .inl ⟨pre, by have := HV.out; rwa [List.drop_zero] at this, hJ⟩⟩
    | succ m =>
      obtain ⟨x, hx⟩ : ∃ x, q[m]? = some x := ⟨_, List.getElem?_eq_getElem (by omega)⟩
      have hx01 := HQ.out m x hx
      have hcb := hk.2.trans hc0
      have hcx := (hk.1.cell (p := ⟨b, off + m, none⟩) hb).trans (HR.out m x hx)
      have HN : Hid (valsQ (pre ++ [⟨((m : Int), x), hx01⟩]) = (q.drop m).reverse) := Lib.hid (by
        obtain ⟨hk, e⟩ := List.getElem?_eq_some_iff.1 hx
        rw [valsQ_snoc, HV.out, List.drop_eq_getElem_cons hk, e, List.reverse_cons])
      have e0 : ((m + 1 : Nat) : Int) - 1 = (m : Int) := by omega
      rw [e0]
      have hml : (m : Int) < (q.length : Int) := by omega
      have ewm : IntKind.i64.wrap ((m : Int) - 1) = (m : Int) - 1 := IntWalk.i64_in _ (by omega)
      obtain ⟨fn, tmps, assign, body, hy, hR⟩ := hY pre ⟨((m : Int), x), hx01⟩ wr hJ (by omega)
      dsimp only [encQ] at hy
      clear hx hc0
      gi_wp2
      refine hR.mono ?_
      rintro e W3 (⟨rfl, hJ3, hk3⟩ | ⟨rfl, hJx3⟩)
      · gi_wp2
        go_roundw
        case rel => exact ⟨m, _, by omega, by first | rfl | go_num, by rw [List.length_append, List.length_singleton]; omega, HN, hJ3, hk.trans hk3⟩
        case measure => simp [intOf]
      · gi_wp2
        refine bodyPost_ret (results_none rfl _ _ _) rfl ?_
        exact ⟨⟨_, rfl⟩, .inr ⟨_, by rw [HN.out]; exact List.reverse_prefix.2 (List.drop_suffix _ _), hJx3⟩⟩

theorem backward_any {w : World} (a : Option Addr) (len cap : Nat) :
    Calls Try.prog 34 #[.slice a len cap] w fun e w' => e = .returned (.func (.func 43) #[] #[.pointer (some ⟨w.heap.size, 0, none⟩)]) ∧ w' = w.alloc (.cells #[.slice a len cap] 26) := by
  go_enter Try.func34, Try.ntmps34
  go_wp2
  go_ret
  exact ⟨rfl, rfl⟩

/-! ### boxes of one cell -/
def Bx (W : World) (b : Nat) (v : Value) : Prop := W.cell? ⟨b, 0, none⟩ = some v ∧ W.frozen? ⟨b, 0, none⟩ = false
theorem Bx.kept {A B : World} {b : Nat} {v : Value} {row : Option Nat} (h : Bx A b v) (hg : A.grownBy B row) (hr : ∀ r, row = some r → ∃ o : Obj, A.heap[r]? = some o ∧ o.isCells = false) : Bx B b v :=
  ⟨cell_kept h.1 hg hr, (frozen_kept h.1 hg hr).trans h.2⟩
theorem bx_new (W : World) (v : Value) (t : TypeId) : Bx (W.alloc (.cells #[v] t)) W.heap.size v := ⟨by simp [go_sem], by simp [go_sem]⟩
theorem Bx.alloc {W : World} {b : Nat} {v : Value} (h : Bx W b v) (o : Obj) : Bx (W.alloc o) b v := h.kept (World.grownBy_alloc W o none) (fun r e => by cases e)
theorem Bx.same {W : World} {b : Nat} {v : Value} (h : Bx W b v) (u : Value) : Bx (W.setCell ⟨b, 0, none⟩ u) b u := ⟨World.cell?_setCell_same' _ _ _ (by rw [h.1]; rfl), by rw [World.frozen?_setCell]; exact h.2⟩
theorem Bx.other {W : World} {b c : Nat} {v : Value} (h : Bx W b v) (hne : c ≠ b) (u : Value) : Bx (W.setCell ⟨c, 0, none⟩ u) b v := ⟨(World.cell?_setCell_far _ _ _ _ hne).trans h.1, by rw [World.frozen?_setCell]; exact h.2⟩

/-- The world where the range begins. -/
def fracW (w : World) (v : Value) : World :=
  (((((w.alloc (.cells #[.int .i64 0] 3)).alloc (.cells #[.int .i64 0] 3)).alloc (.cells #[.bool false] 4)).alloc (.cells #[.int .i64 1] 3)).alloc (.cells #[.int .i64 0] 3)).alloc (.cells #[v] 26)
theorem fracW_facts (w : World) (v : Value) (nb : Nat) (hn : w.heap.size = nb) : (fracW w v).heap.size = nb + 1 + 1 + 1 + 1 + 1 + 1 ∧ Below nb w (fracW w v) ∧ Bx (fracW w v) (nb) (.int .i64 0) ∧ Bx (fracW w v) (nb + 1) (.int .i64 0) ∧ Bx (fracW w v) (nb + 1 + 1) (.bool false) ∧ Bx (fracW w v) (nb + 1 + 1 + 1) (.int .i64 1) ∧ Bx (fracW w v) (nb + 1 + 1 + 1 + 1) (.int .i64 0) ∧ Bx (fracW w v) (nb + 1 + 1 + 1 + 1 + 1) v := by
  subst hn
  unfold fracW
  obtain ⟨W1, h1⟩ : ∃ W1, w.alloc (.cells #[.int .i64 0] 3) = W1 := ⟨_, rfl⟩
  have s1 : W1.heap.size = w.heap.size + 1 := by rw [← h1, World.size_alloc]
  have b1 : Bx W1 (w.heap.size) (.int .i64 0) := by rw [← h1]; exact bx_new _ _ _
  have g1 : Below w.heap.size w W1 := by rw [← h1]; exact (Below.refl _ _).alloc (Nat.le_refl _) _
  rw [h1]; clear h1
  obtain ⟨W2, h2⟩ : ∃ W2, W1.alloc (.cells #[.int .i64 0] 3) = W2 := ⟨_, rfl⟩
  have s2 : W2.heap.size = w.heap.size + 1 + 1 := by rw [← h2, World.size_alloc, s1]
  have b2 : Bx W2 (w.heap.size + 1) (.int .i64 0) := by rw [← h2, ← s1]; exact bx_new _ _ _
  have b12 : Bx W2 (w.heap.size) (.int .i64 0) := by rw [← h2]; exact b1.alloc _
  have g2 : Below w.heap.size w W2 := by rw [← h2]; exact g1.alloc (by omega) _
  rw [h2]; clear h2
  obtain ⟨W3, h3⟩ : ∃ W3, W2.alloc (.cells #[.bool false] 4) = W3 := ⟨_, rfl⟩
  have s3 : W3.heap.size = w.heap.size + 1 + 1 + 1 := by rw [← h3, World.size_alloc, s2]
  have b3 : Bx W3 (w.heap.size + 1 + 1) (.bool false) := by rw [← h3, ← s2]; exact bx_new _ _ _
  have b13 : Bx W3 (w.heap.size) (.int .i64 0) := by rw [← h3]; exact b12.alloc _
  have b23 : Bx W3 (w.heap.size + 1) (.int .i64 0) := by rw [← h3]; exact b2.alloc _
  have g3 : Below w.heap.size w W3 := by rw [← h3]; exact g2.alloc (by omega) _
  rw [h3]; clear h3
  obtain ⟨W4, h4⟩ : ∃ W4, W3.alloc (.cells #[.int .i64 1] 3) = W4 := ⟨_, rfl⟩
  have s4 : W4.heap.size = w.heap.size + 1 + 1 + 1 + 1 := by rw [← h4, World.size_alloc, s3]
  have b4 : Bx W4 (w.heap.size + 1 + 1 + 1) (.int .i64 1) := by rw [← h4, ← s3]; exact bx_new _ _ _
  have g4 : Below w.heap.size w W4 := by rw [← h4]; exact g3.alloc (by omega) _
  have b14 : Bx W4 (w.heap.size) (.int .i64 0) := by rw [← h4]; exact b13.alloc _
  have b24 : Bx W4 (w.heap.size + 1) (.int .i64 0) := by rw [← h4]; exact b23.alloc _
  have b34 : Bx W4 (w.heap.size + 1 + 1) (.bool false) := by rw [← h4]; exact b3.alloc _
  rw [h4]; clear h4
  have b5 : Bx (W4.alloc (.cells #[.int .i64 0] 3)) (w.heap.size + 1 + 1 + 1 + 1) (.int .i64 0) := by rw [← s4]; exact bx_new _ _ _
  have s5 : (W4.alloc (.cells #[.int .i64 0] 3)).heap.size = w.heap.size + 1 + 1 + 1 + 1 + 1 := by rw [World.size_alloc, s4]
  have g5 : Below w.heap.size w (W4.alloc (.cells #[.int .i64 0] 3)) := g4.alloc (by omega) _
  refine ⟨by rw [World.size_alloc, s5], g5.alloc (by omega) _, (b14.alloc _).alloc _, (b24.alloc _).alloc _, (b34.alloc _).alloc _, (b4.alloc _).alloc _, b5.alloc _, by rw [← s5]; exact bx_new _ _ _⟩

set_option maxRecDepth 100000 in
set_option maxHeartbeats 4000000 in
theorem ifrac_any {w : World} {v : Value} {q : List Int} (h : Rd1 w v q) :
    Calls Try.prog 12 #[v] w fun e w' => e = .returned (.tuple #[.int .i64 (frac3 q).1, .int .i64 (frac3 q).2.1, .bool (frac3 q).2.2]) ∧ Below w.heap.size w w' := by
  by_cases hp : FracP q
  · refine (callsIn_wide (n := 3)).1 ?_
    obtain ⟨b, off, cap, rfl, hcs⟩ := Rd.pos h (by have := hp.1; omega)
    have hbw : b < w.heap.size := by
      have h0 := hcs 0 (by have := hp.1; omega)
      obtain ⟨x, hx⟩ : ∃ x, q[0]? = some x := ⟨_, List.getElem?_eq_getElem (by have := hp.1; omega)⟩
      rw [List.getElem?_map, hx] at h0
      exact World.block_lt_of_cell? w _ h0
    have hrow : ∀ (k : Nat) (x : Int), q[k]? = some x → w.cell? ⟨b, off + k, none⟩ = some (.int .i64 x) := fun k x hx => by
      rw [hcs k (by have := (List.getElem?_eq_some_iff.1 hx).1; omega), List.getElem?_map, hx]; rfl
    have hq01 : ∀ (k : Nat) (x : Int), q[k]? = some x → 0 ≤ x ∧ x ≤ 1000 := fun k x hx => by
      by_cases e : k = 0
      · subst e; exact hp.2.1 x hx
      · have := hp.2.2 k x (by omega) hx; omega
    have hlen := hp.1
    have HB := Lib.hid (fracB_yes hp)
    have HP := Lib.hid hp
    clear hcs hp
    refine callsIn_of_wp_marks Try.func12 rfl trivial ?_ rfl
    simp only [Try.ntmps12, List.size_toArray, List.length_cons, List.length_nil, Nat.reduceAdd, Nat.reduceSub, Array.replicate_succ, Array.replicate_zero, List.push_toArray, List.append_toArray, List.nil_append, List.cons_append]
    gi_wp2_with first
      | (refine ⟨trivial, ?_⟩; gi_at_call 33; refine (callsIn_wide.2 (quot_any (h.below (((((Below.refl _ w).alloc (Nat.le_refl _) _).alloc (by simp) _).alloc (by simp; omega) _))))).mono ?_; rintro e w' ⟨rfl, rfl⟩; rw [HB.out])
      | (refine ⟨trivial, ?_⟩; gi_at_call 34; refine (callsIn_wide.2 (backward_any _ _ _)).mono ?_; rintro e w' ⟨rfl, rfl⟩)
    obtain ⟨nb, hnb⟩ : ∃ nb, w.heap.size = nb := ⟨_, rfl⟩
    obtain ⟨hsz, hbel, f0, f1, f2, f3, f4, f5⟩ := fracW_facts w (.slice (some ⟨b, off, none⟩) q.length cap) nb hnb
    rw [show (((((w.alloc (.cells #[.int .i64 0] 3)).alloc (.cells #[.int .i64 0] 3)).alloc (.cells #[.bool false] 4)).alloc (.cells #[.int .i64 1] 3)).alloc (.cells #[.int .i64 0] 3)).alloc (.cells #[.slice (some ⟨b, off, none⟩) q.length cap] 26) = fracW w (.slice (some ⟨b, off, none⟩) q.length cap) from rfl]
    simp only [hnb]
    rw [hnb] at hbw
    have hrow0 : ∀ (k : Nat) (x : Int), q[k]? = some x → (fracW w (.slice (some ⟨b, off, none⟩) q.length cap)).cell? ⟨b, off + k, none⟩ = some (.int .i64 x) := fun k x hx => (hbel.cell (p := ⟨b, off + k, none⟩) hbw).trans (hrow k x hx)
    generalize fracW w (.slice (some ⟨b, off, none⟩) q.length cap) = W0 at *
    refine wpIn_rangeFunc_ownF rfl (by omega) (gf := 43) (lb := #[.pointer (some ⟨nb + 1 + 1 + 1 + 1 + 1, 0, none⟩)]) rfl trivial (enters_of Try.func43 (by kernel_rfl) rfl)
      (backward_stops 2 (nb + 1 + 1 + 1 + 1 + 1) nb b off cap hq01 hlen W0 (by omega) (by omega) hbw f5.1 hrow0 (by omega)) (fun h k => h.trans k) (kpq_b (by omega) (by omega)) (Below.refl _ _) (fun _ => rfl)
      (fun pre W => (GoodS (valsQ pre).reverse ∧ Bx W (nb) (.int .i64 0) ∧ Bx W (nb + 1) (.int .i64 0) ∧ Bx W (nb + 1 + 1) (.bool false) ∧ Bx W (nb + 1 + 1 + 1) (.int .i64 (bkS (valsQ pre).reverse).1) ∧ Bx W (nb + 1 + 1 + 1 + 1) (.int .i64 (bkS (valsQ pre).reverse).2)) ∧ Below nb w W)
      (fun c pre W => (c = .ret ∧ (valsQ pre).reverse ≠ [] ∧ fracR (valsQ pre).reverse = none ∧ Bx W (nb) (.int .i64 0) ∧ Bx W (nb + 1) (.int .i64 0) ∧ Bx W (nb + 1 + 1) (.bool false)) ∧ Below nb w W)
      (OwnFrom.and (Own.from (fun s A B row hs hg hr => ⟨hs.1, hs.2.1.kept hg hr, hs.2.2.1.kept hg hr, hs.2.2.2.1.kept hg hr, hs.2.2.2.2.1.kept hg hr, hs.2.2.2.2.2.kept hg hr⟩) _) (ownFrom_below (by omega) (by omega)))
      (fun c => OwnFrom.and (Own.from (fun s A B row hs hg hr => ⟨hs.1, hs.2.1, hs.2.2.1, hs.2.2.2.1.kept hg hr, hs.2.2.2.2.1.kept hg hr, hs.2.2.2.2.2.kept hg hr⟩) _) (ownFrom_below (by omega) (by omega)))
      ⟨⟨good_nil, f0, f1, f2, f3, f4⟩, hbel⟩
      (fun x => { tmps := #[.slice (some ⟨b, off, none⟩) q.length cap, undef, .pointer (some ⟨nb, 0, none⟩), .pointer (some ⟨nb + 1, 0, none⟩), .pointer (some ⟨nb + 1 + 1, 0, none⟩), .pointer (some ⟨nb + 1 + 1 + 1, 0, none⟩), .pointer (some ⟨nb + 1 + 1 + 1 + 1, 0, none⟩), undef, .int .i64 x.1.2, .slice (some ⟨b, off, none⟩) q.length cap, .bool true, .bool false, .slice (some ⟨b, off, none⟩) q.length cap, .func (.func 43) #[] #[.pointer (some ⟨nb + 1 + 1 + 1 + 1 + 1, 0, none⟩)], .int .i64 x.1.1, .int .i64 x.1.2, undef, undef, undef, undef, undef, undef, undef, undef, undef, undef], defers := [] }) ?assign ?body ?done ?stop
    case assign =>
      intro l x W K hK
      gi_wp2
      exact hK
    case body =>
      rintro l pre x W ⟨⟨hG, c0, c1, c2, c3, c4⟩, hB⟩ -
      have hx := x.2
      have HV : Hid ((valsQ (pre ++ [x])).reverse = x.1.2 :: (valsQ pre).reverse) := Lib.hid (by rw [valsQ_snoc, List.reverse_append]; rfl)
      have HG := Lib.hid hG
      have hGa := hG.2.1
      have hGb := hG.2.2
      have HA : Hid ((bkS (valsQ pre).reverse).1 = (bkS (valsQ pre).reverse).1 ∧ (bkS (valsQ pre).reverse).2 = (bkS (valsQ pre).reverse).2) := Lib.hid ⟨rfl, rfl⟩
      have HT : Hid (∀ T, x.1.2 * (bkS (valsQ pre).reverse).1 + (bkS (valsQ pre).reverse).2 = T → (1000000 < T → fracR (x.1.2 :: (valsQ pre).reverse) = none) ∧ (¬ 1000000 < T → GoodS (x.1.2 :: (valsQ pre).reverse)) ∧ (bkS (x.1.2 :: (valsQ pre).reverse)).1 = T ∧ (bkS (x.1.2 :: (valsQ pre).reverse)).2 = (bkS (valsQ pre).reverse).1) := Lib.hid (by
        rintro T rfl
        exact ⟨fun ht => dead_cons hG hx ht, fun ht => good_cons hG hx ht, rfl, rfl⟩)
      clear hG HA
      generalize (bkS (valsQ pre).reverse).1 = a at *
      generalize (bkS (valsQ pre).reverse).2 = d at *
      have hm0 : 0 ≤ x.1.2 * a := Int.mul_nonneg hx.1 hGa.1
      have hm1 : x.1.2 * a ≤ 1000 * 1000000 := Int.mul_le_mul hx.2 hGa.2 (by omega) (by omega)
      obtain ⟨P, hP⟩ : ∃ P, x.1.2 * a = P := ⟨_, rfl⟩
      rw [hP] at hm0 hm1 HT
      obtain ⟨e1, e2⟩ := wrap_in hP (by omega) (by omega)
      obtain ⟨T, hT⟩ : ∃ T, P + d = T := ⟨_, rfl⟩
      obtain ⟨e3, e4⟩ := wrap_in hT (by omega) (by omega)
      have HT2 := Lib.hid (HT.out T hT)
      clear hP hT HT hm0 hm1
      have d3 := (c3.same (.int .i64 T)).other (c := nb + 1 + 1 + 1 + 1) (by omega) (.int .i64 a)
      have d4 := (c4.other (c := nb + 1 + 1 + 1) (by omega) (.int .i64 T))
      have d4' := d4.same (.int .i64 a)
      have d0 := (c0.other (c := nb + 1 + 1 + 1) (by omega) (.int .i64 T)).other (c := nb + 1 + 1 + 1 + 1) (by omega) (.int .i64 a)
      have d1 := (c1.other (c := nb + 1 + 1 + 1) (by omega) (.int .i64 T)).other (c := nb + 1 + 1 + 1 + 1) (by omega) (.int .i64 a)
      have d2 := (c2.other (c := nb + 1 + 1 + 1) (by omega) (.int .i64 T)).other (c := nb + 1 + 1 + 1 + 1) (by omega) (.int .i64 a)
      have hB2 : Below nb w ((W.setCell ⟨nb + 1 + 1 + 1, 0, none⟩ (.int .i64 T)).setCell ⟨nb + 1 + 1 + 1 + 1, 0, none⟩ (.int .i64 a)) := (hB.setCell (p := ⟨nb + 1 + 1 + 1, 0, none⟩) (by show nb ≤ nb + 1 + 1 + 1; omega) _).setCell (p := ⟨nb + 1 + 1 + 1 + 1, 0, none⟩) (by show nb ≤ nb + 1 + 1 + 1 + 1; omega) _
      have hK2 : KpQ nb (nb + 1 + 1 + 1 + 1 + 1) W ((W.setCell ⟨nb + 1 + 1 + 1, 0, none⟩ (.int .i64 T)).setCell ⟨nb + 1 + 1 + 1 + 1, 0, none⟩ (.int .i64 a)) := ⟨((Below.refl _ _).setCell (p := ⟨nb + 1 + 1 + 1, 0, none⟩) (by show nb ≤ nb + 1 + 1 + 1; omega) _).setCell (p := ⟨nb + 1 + 1 + 1 + 1, 0, none⟩) (by show nb ≤ nb + 1 + 1 + 1 + 1; omega) _, by rw [World.cell?_setCell_far _ _ _ _ (by show nb + 1 + 1 + 1 + 1 ≠ nb + 1 + 1 + 1 + 1 + 1; omega), World.cell?_setCell_far _ _ _ _ (by show nb + 1 + 1 + 1 ≠ nb + 1 + 1 + 1 + 1 + 1; omega)]⟩
      have hO2 : KeepsOthers W ((W.setCell ⟨nb + 1 + 1 + 1, 0, none⟩ (.int .i64 T)).setCell ⟨nb + 1 + 1 + 1 + 1, 0, none⟩ (.int .i64 a)) := (KeepsOthers.setCell _ _ _).trans (KeepsOthers.setCell _ _ _)
      obtain ⟨p3, r3⟩ := id c3
      obtain ⟨p4, r4⟩ := id c4
      obtain ⟨p34, r34⟩ := id d4
      obtain ⟨u3, t3⟩ := id d3
      by_cases ht : 1000000 < T
      · have HD := Lib.hid (HT2.out.1 ht)
        obtain ⟨u0, t0⟩ := id d0
        have z0 := d0.same (.int .i64 0)
        have y1 := d1.other (c := nb) (by omega) (.int .i64 0)
        obtain ⟨u1, t1⟩ := id y1
        have z1 := y1.same (.int .i64 0)
        have z10 := z0.other (c := nb + 1) (by omega) (.int .i64 0)
        have y2 := (d2.other (c := nb) (by omega) (.int .i64 0)).other (c := nb + 1) (by omega) (.int .i64 0)
        obtain ⟨u2, t2⟩ := id y2
        have z2 := y2.same (.bool false)
        have z20 := z10.other (c := nb + 1 + 1) (by omega) (.bool false)
        have z21 := z1.other (c := nb + 1 + 1) (by omega) (.bool false)
        have hB5 := ((hB2.setCell (p := ⟨nb, 0, none⟩) (Nat.le_refl _) (.int .i64 0)).setCell (p := ⟨nb + 1, 0, none⟩) (by show nb ≤ nb + 1; omega) (.int .i64 0)).setCell (p := ⟨nb + 1 + 1, 0, none⟩) (by show nb ≤ nb + 1 + 1; omega) (.bool false)
        clear c0 c1 c2 c3 c4 d0 d1 d2 d3 d4 d4' z0 y1 z1 z10 y2 hB hB2 hK2
        gi_wp2
        exact ⟨((hO2.trans (KeepsOthers.setCell _ _ _)).trans (KeepsOthers.setCell _ _ _)).trans (KeepsOthers.setCell _ _ _), ⟨rfl, by first | (rw [HV.out]; simp) | simp [valsQ], by rw [HV.out]; exact HD.out, z20, z21, z2⟩, hB5⟩
      · have HD := Lib.hid (HT2.out.2.1 ht)
        have HE := Lib.hid HT2.out.2.2
        clear c0 c1 c2 c3 c4 d4 hB
        gi_wp2
        exact ⟨hO2, hK2, ⟨by rw [HV.out]; exact HD.out, d0, d1, d2, by rw [HV.out, HE.out.1]; exact d3, by rw [HV.out, HE.out.2]; exact d4'⟩, hB2⟩
    case done =>
      rintro D ys W hD hS ⟨⟨hG, c0, c1, c2, c3, c4⟩, hB⟩ hK
      have hlist : (valsQ ys).reverse = q := by rw [hS, List.reverse_reverse]
      rw [hlist] at hG c3 c4
      have hfr : frac3 q = ((bkS q).1, (bkS q).2, true) := by
        rcases hG.1 with rfl | h1
        · exact absurd hlen.1 (by simp)
        · unfold frac3; rw [fracM_some HP.out h1]
      have HF := Lib.hid hfr
      clear hfr hG hS hlist
      generalize (bkS q).1 = a at *
      generalize (bkS q).2 = d at *
      obtain ⟨p0, r0⟩ : Bx W.drew (nb) (.int .i64 0) := id c0
      obtain ⟨p3, r3⟩ : Bx W.drew (nb + 1 + 1 + 1) (.int .i64 a) := id c3
      obtain ⟨p4, r4⟩ : Bx W.drew (nb + 1 + 1 + 1 + 1) (.int .i64 d) := id c4
      obtain ⟨p04, r04⟩ : Bx (W.setCell ⟨nb, 0, none⟩ (.int .i64 a)).drew (nb + 1 + 1 + 1 + 1) (.int .i64 d) := c4.other (c := nb) (by omega) (.int .i64 a)
      have z0 := c0.same (.int .i64 a)
      have y1 := c1.other (c := nb) (by omega) (.int .i64 a)
      obtain ⟨p1, r1⟩ : Bx (W.setCell ⟨nb, 0, none⟩ (.int .i64 a)).drew (nb + 1) (.int .i64 0) := id y1
      have z1 := y1.same (.int .i64 d)
      have z10 := z0.other (c := nb + 1) (by omega) (.int .i64 d)
      have y2 := (c2.other (c := nb) (by omega) (.int .i64 a)).other (c := nb + 1) (by omega) (.int .i64 d)
      obtain ⟨p2, r2⟩ : Bx ((W.setCell ⟨nb, 0, none⟩ (.int .i64 a)).setCell ⟨nb + 1, 0, none⟩ (.int .i64 d)).drew (nb + 1 + 1) (.bool false) := id y2
      have z2 : Bx (((W.setCell ⟨nb, 0, none⟩ (.int .i64 a)).setCell ⟨nb + 1, 0, none⟩ (.int .i64 d)).setCell ⟨nb + 1 + 1, 0, none⟩ (.bool true)).drew (nb + 1 + 1) (.bool true) := y2.same (.bool true)
      have z20 : Bx (((W.setCell ⟨nb, 0, none⟩ (.int .i64 a)).setCell ⟨nb + 1, 0, none⟩ (.int .i64 d)).setCell ⟨nb + 1 + 1, 0, none⟩ (.bool true)).drew (nb) (.int .i64 a) := z10.other (c := nb + 1 + 1) (by omega) (.bool true)
      have z21 : Bx (((W.setCell ⟨nb, 0, none⟩ (.int .i64 a)).setCell ⟨nb + 1, 0, none⟩ (.int .i64 d)).setCell ⟨nb + 1 + 1, 0, none⟩ (.bool true)).drew (nb + 1) (.int .i64 d) := z1.other (c := nb + 1 + 1) (by omega) (.bool true)
      have hB5 : Below nb w (((W.setCell ⟨nb, 0, none⟩ (.int .i64 a)).setCell ⟨nb + 1, 0, none⟩ (.int .i64 d)).setCell ⟨nb + 1 + 1, 0, none⟩ (.bool true)).drew := (((hB.setCell (p := ⟨nb, 0, none⟩) (Nat.le_refl _) (.int .i64 a)).setCell (p := ⟨nb + 1, 0, none⟩) (by show nb ≤ nb + 1; omega) (.int .i64 d)).setCell (p := ⟨nb + 1 + 1, 0, none⟩) (by show nb ≤ nb + 1 + 1; omega) (.bool true)).drew
      have hK5 := ((((KeepsOthers.setCell W ⟨nb, 0, none⟩ (.int .i64 a)).trans (KeepsOthers.setCell _ ⟨nb + 1, 0, none⟩ (.int .i64 d))).trans (KeepsOthers.setCell _ ⟨nb + 1 + 1, 0, none⟩ (.bool true))).trans (KeepsOthers.drew _)).same D _ hK rfl
      clear c0 c1 c2 c3 c4 z0 y1 z1 z10 y2 hB
      gi_wp2
      gi_region
      all_goals gi_wp2
      all_goals
        refine ⟨by simp, .inl ⟨_, _, rfl, run_takeDeferred hK5, ?_⟩⟩
        have k0 := cell_kept z20.1 (grownBy_putObj' _ D (.deferred none)) (fun r e => by cases e; exact ⟨_, hK5, rfl⟩)
        have k1 := cell_kept z21.1 (grownBy_putObj' _ D (.deferred none)) (fun r e => by cases e; exact ⟨_, hK5, rfl⟩)
        have k2 := cell_kept z2.1 (grownBy_putObj' _ D (.deferred none)) (fun r e => by cases e; exact ⟨_, hK5, rfl⟩)
        refine ⟨.tuple #[.int .i64 a, .int .i64 d, .bool true], ?_, by rw [HF.out], by rw [hnb]; exact hB5.trans (belowK_b (w := w) (by omega) _ D _ _ (by omega) hK5 rfl rfl)⟩
        simp [results, Try.results12, go_sem, k0, k1, k2]
    case stop =>
      rintro D c pre W hD hS ⟨⟨rfl, hne, hdead, c0, c1, c2⟩, hB⟩ hK
      have hfr : frac3 q = (0, 0, false) := by
        obtain ⟨t, ht⟩ := hS
        have hq : q = t.reverse ++ (valsQ pre).reverse := by rw [← List.reverse_append, ht, List.reverse_reverse]
        unfold frac3
        rw [fracM_none (by rw [hq]; exact dead_app _ hne hdead)]
      have HF := Lib.hid hfr
      clear hfr hS hdead hne
      gi_wp2
      refine ⟨by simp, .inl ⟨_, _, rfl, run_takeDeferred hK, ?_⟩⟩
      have k0 := cell_kept c0.1 (grownBy_putObj' _ D (.deferred none)) (fun r e => by cases e; exact ⟨_, hK, rfl⟩)
      have k1 := cell_kept c1.1 (grownBy_putObj' _ D (.deferred none)) (fun r e => by cases e; exact ⟨_, hK, rfl⟩)
      have k2 := cell_kept c2.1 (grownBy_putObj' _ D (.deferred none)) (fun r e => by cases e; exact ⟨_, hK, rfl⟩)
      refine ⟨.tuple #[.int .i64 0, .int .i64 0, .bool false], ?_, by rw [HF.out], by rw [hnb]; exact hB.trans (belowK_b (w := w) (by omega) W D _ _ (by omega) hK rfl rfl)⟩
      simp [results, Try.results12, go_sem, k0, k1, k2]
  · obtain ⟨a1, cap1, rfl⟩ := Rd.slice h
    have HB := Lib.hid (fracB_no hp)
    have HF : Hid (frac3 q = (0, 0, false)) := Lib.hid (by unfold frac3; rw [fracM_no hp])
    have hbq : Below w.heap.size w (((w.alloc (.cells #[.int .i64 0] 3)).alloc (.cells #[.int .i64 0] 3)).alloc (.cells #[.bool false] 4)) := (((Below.refl _ w).alloc (Nat.le_refl _) _).alloc (by simp) _).alloc (by simp; omega) _
    have HQ := Lib.hid (quot_any (h.below hbq))
    obtain ⟨nb, hnb⟩ : ∃ nb, w.heap.size = nb := ⟨_, rfl⟩
    obtain ⟨W1, h1⟩ : ∃ W1, w.alloc (.cells #[.int .i64 0] 3) = W1 := ⟨_, rfl⟩
    have s1 : W1.heap.size = nb + 1 := by rw [← h1, World.size_alloc, hnb]
    have b1 : Bx W1 nb (.int .i64 0) := by rw [← h1, ← hnb]; exact bx_new _ _ _
    have g1 : Below nb w W1 := by rw [← h1]; exact (Below.refl _ _).alloc (by omega) _
    obtain ⟨W2, h2⟩ : ∃ W2, W1.alloc (.cells #[.int .i64 0] 3) = W2 := ⟨_, rfl⟩
    have s2 : W2.heap.size = nb + 1 + 1 := by rw [← h2, World.size_alloc, s1]
    have b2 : Bx W2 (nb + 1) (.int .i64 0) := by rw [← h2, ← s1]; exact bx_new _ _ _
    have b12 : Bx W2 nb (.int .i64 0) := by rw [← h2]; exact b1.alloc _
    have g2 : Below nb w W2 := by rw [← h2]; exact g1.alloc (by omega) _
    obtain ⟨W3, h3⟩ : ∃ W3, W2.alloc (.cells #[.bool false] 4) = W3 := ⟨_, rfl⟩
    have c2 : Bx W3 (nb + 1 + 1) (.bool false) := by rw [← h3, ← s2]; exact bx_new _ _ _
    have c0 : Bx W3 nb (.int .i64 0) := by rw [← h3]; exact b12.alloc _
    have c1 : Bx W3 (nb + 1) (.int .i64 0) := by rw [← h3]; exact b2.alloc _
    have g3 : Below nb w W3 := by rw [← h3]; exact g2.alloc (by omega) _
    rw [h1, h2, h3] at HQ
    go_enter Try.func12, Try.ntmps12
    go_wp2_with fail
    refine HQ.out.mono ?_
    rintro e w1 ⟨rfl, rfl⟩
    rw [HB.out]
    obtain ⟨p0, r0⟩ := id c0
    have z0 := c0.same (.int .i64 0)
    have y1 := c1.other (c := nb) (by omega) (.int .i64 0)
    obtain ⟨p1, r1⟩ := id y1
    have z1 := y1.same (.int .i64 0)
    have z10 := z0.other (c := nb + 1) (by omega) (.int .i64 0)
    have y2 := (c2.other (c := nb) (by omega) (.int .i64 0)).other (c := nb + 1) (by omega) (.int .i64 0)
    obtain ⟨p2, r2⟩ := id y2
    have z2 := (y2.same (.bool false)).1
    have z20 := (z10.other (c := nb + 1 + 1) (by omega) (.bool false)).1
    have z21 := (z1.other (c := nb + 1 + 1) (by omega) (.bool false)).1
    have hB5 := ((g3.setCell (p := ⟨nb, 0, none⟩) (Nat.le_refl _) (.int .i64 0)).setCell (p := ⟨nb + 1, 0, none⟩) (by show nb ≤ nb + 1; omega) (.int .i64 0)).setCell (p := ⟨nb + 1 + 1, 0, none⟩) (by show nb ≤ nb + 1 + 1; omega) (.bool false)
    clear HQ c0 c1 c2 y1 y2 z0 z1 z10 h3 h2 h1 b1 b2 b12 g1 g2 g3
    go_wp2
    exact bodyPost_ret (v := .tuple #[.int .i64 0, .int .i64 0, .bool false]) (by simp [results, Try.results12, go_sem, z20, z21, z2]) rfl ⟨by rw [HF.out], by rw [hnb]; exact hB5⟩
end Go.Proofs.Ytjikpkigncomfaa
