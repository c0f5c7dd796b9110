/- The contracts of the program's toothFinder and of the closure that it returns. No condition. -/
import Derived.Test.YtpjkajephloipaaTeethMath3
import Derived.Test.YtpjkajephloipaaImplResting
import Derived.Test.YtpjkajephloipaaImplComb
namespace Go.Proofs.Ytpjkajephloipaa
open Go.ChangeShapes Go.WideShapes Go.ChangeAt Go.RowKit

theorem cell_kept {W W' : World} {row : Option Nat} (hg : W.grownBy W' row) {b o : Nat} {v : Value} (hb : some b ≠ row) (h : W.cell? ⟨b, o, none⟩ = some v) : W'.cell? ⟨b, o, none⟩ = some v := by
  have hlt : b < W.heap.size := World.block_lt_of_cell? W _ h
  have e : W'.cell? ⟨b, o, none⟩ = W.cell? ⟨b, o, none⟩ := World.cell?_of_block (hg.block b hlt hb)
  rw [e]; exact h
/-- What the closure of toothFinder captures: the comb, the rest, and the row of the times from which on the teeth are rested. -/
def Finder (W : World) (B pc pr pm g : Nat) (vc : Value) (r : Int) (rl : List Int) : Prop :=
  W.cell? ⟨pc, 0, none⟩ = some vc ∧ W.cell? ⟨pr, 0, none⟩ = some (.int .i64 r) ∧ W.cell? ⟨pm, 0, none⟩ = some (.slice (some ⟨g, 0, none⟩) rl.length rl.length) ∧
    W.ownsRow B 3 1 (.slice (some ⟨g, 0, none⟩) rl.length rl.length) rl.length (rl.map intV) ∧ pc ≠ g ∧ pr ≠ g ∧ pm ≠ g
theorem Finder.kept {W W' : World} {B pc pr pm g : Nat} {vc : Value} {r : Int} {rl : List Int} {row : Option Nat} (h : Finder W B pc pr pm g vc r rl) (hg : W.grownBy W' row) (hne : ∀ b, row = some b → b ≠ pc ∧ b ≠ pr ∧ b ≠ pm ∧ b ≠ g) : Finder W' B pc pr pm g vc r rl := by
  obtain ⟨h1, h2, h3, h4, h5⟩ := h
  have k : ∀ x, (x = pc ∨ x = pr ∨ x = pm ∨ x = g) → some x ≠ row := fun x hx e => by
    have := hne x e.symm
    omega
  exact ⟨cell_kept hg (k _ (by omega)) h1, cell_kept hg (k _ (by omega)) h2, cell_kept hg (k _ (by omega)) h3, h4.kept hg (Or.inr (fun e => k g (by omega) (by simpa [Value.ownBlock] using e))), h5⟩
theorem Finder.below {W W' : World} {B pc pr pm g : Nat} {vc : Value} {r : Int} {rl : List Int} (h : Finder W B pc pr pm g vc r rl) (hb : Below W.heap.size W W') : Finder W' B pc pr pm g vc r rl :=
  h.kept (only_of_below hb none) (fun b e => by cases e)

theorem Finder.stored {W : World} {B pc pr pm g : Nat} {vc : Value} {r : Int} {rl : List Int} (h : Finder W B pc pr pm g vc r rl) (i : Nat) (u : Int) : Finder (W.setCell ⟨g, i, none⟩ (.int .i64 u)) B pc pr pm g vc r (rl.set i u) := by
  obtain ⟨h1, h2, h3, h4, h5, h6, h7⟩ := h
  have hst := h4.stored i (.int .i64 u)
  exact ⟨(World.cell?_setCell_far _ _ _ _ (Ne.symm h5)).trans h1, (World.cell?_setCell_far _ _ _ _ (Ne.symm h6)).trans h2, by rw [List.length_set]; exact (World.cell?_setCell_far _ _ _ _ (Ne.symm h7)).trans h3, by rw [List.length_set, List.map_set]; exact hst.1, h5, h6, h7⟩

def ToothPost (W : World) (B pc pr pm g : Nat) (vc : Value) (c last : List Int) (r : Int) (q : Int × Int) (e : Ending) (W' : World) : Prop :=
  W.grownBy W' (some g) ∧ ((∃ j, freeTo c.length c last q r = some j ∧ e = .returned (.tuple #[.int .i64 (j : Int), .bool true]) ∧ Finder W' B pc pr pm g vc r (restL r (last.set j q.1))) ∨ (freeTo c.length c last q r = none ∧ e = .returned (.tuple #[.int .i64 0, .bool false])))

set_option maxHeartbeats 4000000 in
set_option maxRecDepth 100000 in
theorem tooth_any {W : World} {B pc pr pm g : Nat} {vc : Value} {c last : List Int} {r : Int} (q : Int × Int) (hF : Finder W B pc pr pm g vc r (restL r last)) (hc : Rd1 W vc c) (hl : last.length = c.length) (hlo : LastOk last) (hr : 1 ≤ r ∧ r ≤ 100) (hq : 0 ≤ q.1 ∧ q.1 ≤ 1000) :
    Calls Try.prog 75 #[.agg #[.int .i64 q.1, .int .i64 q.2], .pointer (some ⟨pc, 0, none⟩), .pointer (some ⟨pm, 0, none⟩), .pointer (some ⟨pr, 0, none⟩)] W (ToothPost W B pc pr pm g vc c last r q) := by
  obtain ⟨a1, cap1, rfl⟩ := Rd.slice hc
  have hm := hc.2.1
  unfold maxLen at hm
  obtain ⟨hr1, hr2⟩ := hr
  obtain ⟨q1, q2⟩ := q
  obtain ⟨hq1, hq2⟩ := hq
  simp only at hq1 hq2
  have HL := Lib.hid hl
  have HLO := Lib.hid hlo
  have hFA := hF.below ((Below.refl W.heap.size W).alloc (Nat.le_refl _) (.cells #[.int .i64 q1, .int .i64 q2] 54))
  have hbA : Below W.heap.size W (W.alloc (.cells #[.int .i64 q1, .int .i64 q2] 54)) := (Below.refl _ _).alloc (Nat.le_refl _) _
  have ee : (restL r last).length = c.length := by rw [restL_len]; exact hl
  have hp0 := hFA.1
  have hz0 : (W.alloc (.cells #[.int .i64 q1, .int .i64 q2] 54)).cell? ⟨W.heap.size, 0, none⟩ = some (.int .i64 q1) := cell0 _ _ _ _
  have hz1 : (W.alloc (.cells #[.int .i64 q1, .int .i64 q2] 54)).cell? ⟨W.heap.size, 1, none⟩ = some (.int .i64 q2) := cell0 _ _ _ _
  have hc1 : Rd1 (W.alloc (.cells #[.int .i64 q1, .int .i64 q2] 54)) (.slice a1 c.length cap1) c := Rd.below hc hbA
  clear hl hlo
  go_enter Try.func75, Try.ntmps75
  go_wp2_with fail
  have HFN := Lib.hid hFA
  obtain ⟨hx1, hx2, hx3, hx4, hn1, hn2, hn3⟩ := hFA
  rw [ee] at hx3 hx4
  have hgA : W.grownBy (W.alloc (.cells #[.int .i64 q1, .int .i64 q2] 54)) (some g) := only_of_below hbA _
  generalize W.alloc (.cells #[.int .i64 q1, .int .i64 q2] 54) = W1 at *
  have hgB : g ≠ W.heap.size := fun e => by
    have := (World.ownsRow.lt hF.2.2.2.1 g (by simp [Value.ownBlock])).2
    omega
  have hl1 := World.block_lt_of_cell? _ _ hx1
  have hl2 := World.block_lt_of_cell? _ _ hx2
  have hl3 := World.block_lt_of_cell? _ _ hx3
  have hl4 := World.block_lt_of_cell? _ _ hz0
  simp only at hl1 hl2 hl3 hl4
  clear hF hp0 hbA ee
  go_loopw [11] (fun v11 wr => ∃ i : Nat, i ≤ c.length ∧ v11 = .int .i64 (i : Int) ∧ Hid (freeTo i c last (q1, q2) r = none) ∧ Below W1.heap.size W1 wr) (fun v11 _ => c.length - (intOf v11).toNat)
  case atStart => exact ⟨0, Nat.zero_le _, rfl, Lib.hid rfl, Below.refl _ _⟩
  case round =>
    obtain ⟨i, hi, rfl, HFR, hbr⟩ := hrel
    by_cases hlt : i < c.length
    · obtain ⟨p, hp⟩ : ∃ p, c[i]? = some p := ⟨_, List.getElem?_eq_getElem hlt⟩
      obtain ⟨x, hx⟩ : ∃ x, last[i]? = some x := ⟨_, List.getElem?_eq_getElem (by rw [HL.out]; exact hlt)⟩
      have hxo := HLO.out x (List.mem_of_getElem? hx)
      obtain ⟨hrb0, hrb1⟩ := restAt_bd hxo ⟨hr1, hr2⟩
      obtain ⟨b2, o2, c2, hv2, x2⟩ := Rd1.cell hc1 hp
      simp only [Value.slice.injEq, true_and] at hv2
      obtain ⟨rfl, rfl⟩ := hv2
      have y0 := (hbr.cell (p := ⟨W.heap.size, 0, none⟩) hl4).trans hz0
      have y1 := (hbr.cell (p := ⟨W.heap.size, 1, none⟩) hl4).trans hz1
      have y2 := (hbr.cell (p := ⟨pr, 0, none⟩) hl2).trans hx2
      have y3 := (hbr.cell (p := ⟨pm, 0, none⟩) hl3).trans hx3
      have hown := ownS_below hx4 hbr
      have y4 : wr.cell? ⟨g, i, none⟩ = some (.int .i64 (restAt r x)) := by
        rw [hown.cellAt _ (by omega), List.getElem?_map, restL_at hx]; rfl
      have x5 := kept_b hbr x2
      have hf0 := hown.frozenAt i
      have HIT := Lib.hid (fun (h1 : p = q2) (h2 : restAt r x ≤ q1) => freeTo_hit HFR.out hp hx hxo hq1 hr2 h1 h2 hlt)
      have MISS := Lib.hid (fun (h : ¬ (p = q2 ∧ restAt r x ≤ q1)) => freeTo_miss HFR.out hp hx hxo hq1 hr2 h)
      have hst := hown.stored i (.int .i64 (q1 + r))
      have ew : IntKind.i64.wrap (q1 + r) = q1 + r := IntWalk.i64_in _ (by omega)
      have HRS := Lib.hid (restL_set (r := r) (last := last) (j := i) hq1)
      clear hp hx hxo x2
      generalize restAt r x = z at *
      go_wp2_with fail
      by_cases hpq : p = q2
      · by_cases hz : z ≤ q1
        · have HF := Lib.hid (HIT.out hpq hz)
          have hpb : (p == q2) = true := by simpa using hpq
          have hzd : decide (z ≤ q1) = true := decide_eq_true hz
          clear hpq hz MISS HIT
          have HFW := Lib.hid (HFN.out.below hbr)
          clear hst
          go_quiet (fail)
          go_wp2
          go_ret2
          refine ⟨only_setCell (only_trans hgA (only_of_below (below_drewN hbr _) _)) (Or.inl rfl) _, Or.inl ⟨i, HF.out, rfl, ?_⟩⟩
          rw [HRS.out]
          exact (HFW.out.below (below_drewN (Below.refl _ _) _)).stored i _
        · have HF := Lib.hid (MISS.out fun hh => hz hh.2)
          have hpb : (p == q2) = true := by simpa using hpq
          have hzd : decide (z ≤ q1) = false := decide_eq_false hz
          clear hpq hz MISS HIT hst
          go_quiet (fail)
          go_wp2
          go_roundw
          case rel => exact ⟨i + 1, by omega, by go_num, HF, below_drewN hbr _⟩
          case measure => simp [intOf]; omega
      · have HF := Lib.hid (MISS.out fun hh => hpq hh.1)
        have hpb : (p == q2) = false := by simpa using hpq
        clear hpq MISS HIT hst
        go_quiet (fail)
        go_wp2
        go_roundw
        case rel => exact ⟨i + 1, by omega, by go_num, HF, below_drewN hbr _⟩
        case measure => simp [intOf]; omega
    · obtain rfl : i = c.length := by omega
      go_wp2
      go_ret2
      exact ⟨only_trans hgA (only_of_below hbr _), Or.inr ⟨HFR.out, rfl⟩⟩

theorem cell_at1 (w : World) (u : Value) (t : TypeId) : (w.alloc (.cells #[u] t)).cell? ⟨w.heap.size, 0, none⟩ = some u := World.cell?_alloc_mark w #[u] t (0, 0) 0
def FinderPost (w : World) (vc : Value) (n : Nat) (r : Int) (e : Ending) (w' : World) : Prop :=
  ∃ pc pr pm g, e = .returned (.func (.func 75) #[] #[.pointer (some ⟨pc, 0, none⟩), .pointer (some ⟨pm, 0, none⟩), .pointer (some ⟨pr, 0, none⟩)]) ∧
    Finder w' w.heap.size pc pr pm g vc r (List.replicate n 0) ∧ Below w.heap.size w w' ∧ w.heap.size ≤ g
set_option maxHeartbeats 2000000 in
theorem finder_any {w : World} {vc : Value} {c : List Int} (r : Int) (hc : Rd1 w vc c) (hl : c.length ≤ 1000000) :
    Calls Try.prog 55 #[vc, .int .i64 r] w (FinderPost w vc c.length r) := by
  obtain ⟨i0, hi, hz0, hz1, hz2⟩ := info_parts infoInt
  obtain ⟨a1, cap1, rfl⟩ := Rd.slice hc
  have hmf : ∀ (fn : Fn) (first cap : Array Value) (w : World), (Instr.makeFunc fn first cap).run Try.prog w = .ok (.func fn first cap) w := fun _ _ _ _ => rfl
  have hb2 : Below w.heap.size w ((w.alloc (.cells #[.slice a1 c.length cap1] 27)).alloc (.cells #[.int .i64 r] 3)) := ((Below.refl _ _).alloc (Nat.le_refl _) _).alloc (by simp) _
  have hs1 : (w.alloc (.cells #[.slice a1 c.length cap1] 27)).heap.size = w.heap.size + 1 := by show (w.heap.push _).size = _; simp
  have hc0 : ((w.alloc (.cells #[.slice a1 c.length cap1] 27)).alloc (.cells #[.int .i64 r] 3)).cell? ⟨w.heap.size, 0, none⟩ = some (.slice a1 c.length cap1) := Lib.cell?_alloc_some _ (cell_at1 _ _ _)
  have hc1 : ((w.alloc (.cells #[.slice a1 c.length cap1] 27)).alloc (.cells #[.int .i64 r] 3)).cell? ⟨w.heap.size + 1, 0, none⟩ = some (.int .i64 r) := by
    have h := cell_at1 (w.alloc (.cells #[.slice a1 c.length cap1] 27)) (.int .i64 r) 3
    rw [hs1] at h; exact h
  have hs2 : ((w.alloc (.cells #[.slice a1 c.length cap1] 27)).alloc (.cells #[.int .i64 r] 3)).heap.size = w.heap.size + 1 + 1 := by
    show ((w.alloc _).heap.push _).size = _
    simp
  go_enter Try.func55, Try.ntmps55
  obtain ⟨w3, hrun, hown, hgrow⟩ := run_make_full (P := Try.prog) (w := (w.alloc (.cells #[.slice a1 c.length cap1] 27)).alloc (.cells #[.int .i64 r] 3)) w.heap.size 27 3 i0 (.int .i64 0) 1 Try.underlying27 hi hz0 hz1 .i64 .i64 c.length (by rw [hz2]; omega) (by unfold maxLen; omega) hb2.size
  go_wp2_with fail
  go_ret
  rw [hs2] at hown
  have hlt := (World.ownsRow.lt hown (w.heap.size + 1 + 1) rfl).2
  have k0 := Lib.cell?_alloc_some (.cells #[.slice (some ⟨w.heap.size + 1 + 1, 0, none⟩) c.length c.length] 27) (cell_kept hgrow (by simp) hc0)
  have k1 := Lib.cell?_alloc_some (.cells #[.slice (some ⟨w.heap.size + 1 + 1, 0, none⟩) c.length c.length] 27) (cell_kept hgrow (by simp) hc1)
  have k2 := cell_at1 w3 (.slice (some ⟨w.heap.size + 1 + 1, 0, none⟩) c.length c.length) 27
  have hb3 := hb2.grown hgrow hb2.size (fun k hk => by cases hk)
  have ho3 := hown.alloc (.cells #[.slice (some ⟨w.heap.size + 1 + 1, 0, none⟩) c.length c.length] 27)
  rw [made_ints] at ho3
  refine ⟨w.heap.size, w.heap.size + 1, w3.heap.size, w.heap.size + 1 + 1, rfl, ?_, hb3.alloc hb3.size _, by omega⟩
  unfold Finder
  rw [List.length_replicate]
  exact ⟨k0, k1, k2, ho3, by omega, by omega, by omega⟩
end Go.Proofs.Ytpjkajephloipaa
