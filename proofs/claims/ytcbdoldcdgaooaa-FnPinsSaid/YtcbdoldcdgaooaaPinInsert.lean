/- The contract of slices.Insert of one pin into a row of pins of the call's own. No condition. Made by mk_implpin.py. -/
import Derived.Test.YtcbdoldcdgaooaaPinAdd
import Derived.Test.YtcbdoldcdgaooaaImplInsert
namespace Go.Proofs.Ytcbdoldcdgaooaa
open Go.ChangeShapes Go.WideShapes Go.ChangeAt Go.RowKit

def InsPostP (w : World) (B : Nat) (v : Value) (l : List (Int × Int)) (e : Ending) (w' : World) : Prop :=
  ∃ v', e = .returned v' ∧ w'.ownsRow B 32 2 v' l.length (flat2 l) ∧ w.grownBy w' v.ownBlock

set_option maxHeartbeats 1000000 in
set_option maxRecDepth 100000 in
/-- At the end. -/
theorem insertP_end {w : World} {B B' vb : Nat} {v : Value} {o : List (Int × Int)} {x : Int × Int} (hown : w.ownsRow B 32 2 v o.length (flat2 o)) (hB : B ≤ w.heap.size)
    (hx : w.ownsRow B' 32 2 (.slice (some ⟨vb, 0, none⟩) 1 1) 1 (flat2 [x])) (hl : o.length ≤ 1000) :
    Calls Try.prog 69 #[v, .int .i64 (o.length : Nat), .slice (some ⟨vb, 0, none⟩) 1 1] w (InsPostP w B v (o ++ [x])) := by
  obtain ⟨i0, hi, hz0, hz1, hz2⟩ := info_parts infoPin
  have HXO := Lib.hid (flat2_one [x])
  have hfx : (flat2 [x]).length = 1 * 2 := rfl
  have HFX := Lib.hid hfx; clear hfx
  have hxc := hx.cells (g := vb) rfl
  have HXC := Lib.hid hxc; clear hxc
  have hlen : Hid ((o ++ [x]).length = o.length + 1) := Lib.hid (by simp)
  have hfl : Hid (flat2 (o ++ [x]) = flat2 o ++ flat2 [x]) := Lib.hid (flat2_append _ _)
  clear hx
  by_cases h0 : v = .slice none 0 0
  · subst h0
    have hl0 : o.length = 0 := by
      rcases hown.2 with ⟨_, h⟩ | ⟨_, _, _, h, _⟩
      · exact h
      · cases h
    obtain rfl : o = [] := List.length_eq_zero_iff.1 hl0
    clear hl0 hl
    go_enter Try.func69, Try.ntmps69
    go_wp2_with (at_builtin; refine wpList_append_own _ rfl _ _ 24 rfl B 32 i0 _ 2 16 Try.underlying24 hi hz0 hz1 hz2 rfl (by decide) _ 0 (flat2 []) rfl hown ⟨vb, 0, none⟩ 1 1 (flat2 [x]) rfl HFX.out HXC.out HXO.out (by unfold maxLen; omega) (by omega) hB ?_)
    intro v' w1 hown1 hgrow _
    go_wp2
    go_ret
    exact ⟨v', rfl, hown1, hgrow⟩
  · obtain ⟨g, cap, rfl, hBg, hc1, hc2⟩ := ownS_form hown h0
    unfold maxLen at hc2
    clear h0
    by_cases hcap : cap = o.length
    · subst hcap
      go_enter Try.func69, Try.ntmps69
      go_wp2_with (at_builtin; refine wpList_append_own _ rfl _ _ 24 rfl B 32 i0 _ 2 16 Try.underlying24 hi hz0 hz1 hz2 rfl (by decide) _ o.length (flat2 o) rfl hown ⟨vb, 0, none⟩ 1 1 (flat2 [x]) rfl HFX.out HXC.out HXO.out (by unfold maxLen; omega) (by omega) hB ?_)
      intro v' w1 hown1 hgrow _
      go_wp2
      go_ret
      exact ⟨v', rfl, by rw [hlen.out, hfl.out]; exact hown1, hgrow⟩
    · go_enter Try.func69, Try.ntmps69
      go_wp2_with (at_builtin; refine wpList_append_own _ rfl _ _ 24 rfl B 32 i0 _ 2 16 Try.underlying24 hi hz0 hz1 hz2 rfl (by decide) _ o.length (flat2 o) rfl hown ⟨vb, 0, none⟩ 1 1 (flat2 [x]) rfl HFX.out HXC.out HXO.out (by unfold maxLen; omega) (by omega) hB ?_)
      intro v' w1 hown1 hgrow _
      go_wp2
      go_ret
      exact ⟨v', rfl, by rw [hlen.out, hfl.out]; exact hown1, hgrow⟩

set_option maxHeartbeats 2000000 in
set_option maxRecDepth 100000 in
/-- Ahead of the end, no room: a new row. -/
theorem insertP_grow {w : World} {B B' vb g : Nat} {o : List (Int × Int)} {x : Int × Int} {i : Nat} (hown : w.ownsRow B 32 2 (.slice (some ⟨g, 0, none⟩) o.length o.length) o.length (flat2 o)) (hB : B ≤ w.heap.size)
    (hx : w.ownsRow B' 32 2 (.slice (some ⟨vb, 0, none⟩) 1 1) 1 (flat2 [x])) (hl : o.length ≤ 1000) (hi : i < o.length) :
    Calls Try.prog 69 #[.slice (some ⟨g, 0, none⟩) o.length o.length, .int .i64 (i : Nat), .slice (some ⟨vb, 0, none⟩) 1 1] w (InsPostP w B (.slice (some ⟨g, 0, none⟩) o.length o.length) (o.take i ++ [x] ++ o.drop i)) := by
  obtain ⟨i0, hi0, hz0, hz1, hz2⟩ := info_parts infoPin
  have hcs := hown.cells (g := g) rfl
  have hvs := hx.cells (g := vb) rfl
  have hgw : g < w.heap.size := (hown.lt g rfl).2
  have hvw : vb < w.heap.size := (hx.lt vb rfl).2
  have hFl : (flat2 o).length = o.length * 2 := flat2_length o
  have hTl : ((flat2 o).take (i * 2)).length = i * 2 := by rw [List.length_take]; omega
  have hDl : ((flat2 o).drop (i * 2)).length = (o.length - i) * 2 := by rw [List.length_drop]; omega
  have hft : flat2 (o.take i) = (flat2 o).take (i * 2) := flat2_take o i (by omega)
  have hfd : flat2 (o.drop i) = (flat2 o).drop (i * 2) := flat2_drop o i (by omega)
  have HO1 := flat2_one o
  have HX1 := flat2_one [x]
  have hold : (Builtin.firstCells i0.size i (.slice (some ⟨g, 0, none⟩) i o.length)).run Try.prog w.drew = .ok ((flat2 o).take (i * 2)).toArray w.drew := by
    rw [hz1]
    exact run_firstCells_some w.drew 2 i ⟨g, 0, none⟩ i o.length _ hTl (fun j v hj => by
      rw [List.getElem?_take] at hj
      split at hj
      · exact hcs j v hj
      · cases hj)
  have hkk : (o.length : Int) + 1 - (i : Int) = ((o.length + 1 - i : Nat) : Int) := by omega
  have hik : i + (o.length + 1 - i) = o.length + 1 := by omega
  have hrz := fun ty => Lib.run_append_grow_zeros (P := Try.prog) w 24 3 ty 32 i0 _ .i64 .i64 Try.underlying24 Try.underlying3 hi0 hz0 (some ⟨g, 0, none⟩) i o.length _ hold (o.length + 1 - i) (by omega) (by rw [hz1]; decide) (by omega) (by omega) (by rw [hz2]; omega) (by rw [hz2, hik]; exact growslice_fits (by omega) (by omega))
  rw [hik, ← hkk] at hrz
  have hGn := grownCap_ge w (o.length + 1) o.length 32
  have hGm := grownCap_le_maxLen w (o.length + 1) o.length 32 (by unfold maxLen; omega)
  generalize grownCap w (o.length + 1) o.length 32 = G at *
  obtain ⟨ROW, hROW⟩ : ∃ ROW : Array Value, ((flat2 o).take (i * 2)).toArray ++ Builtin.zeroCells (Value.agg #[.int .i64 0, .int .i64 0]).cells (o.length + 1 - i) ++ Builtin.zeroCells (Value.agg #[.int .i64 0, .int .i64 0]).cells (G - (o.length + 1)) = ROW := ⟨_, rfl⟩
  rw [hROW] at hrz
  have hRs : ROW.size = G * 2 := by
    rw [← hROW]
    simp only [Array.size_append, List.size_toArray, hTl, Builtin.zeroCells, Array.size_map, Array.size_range]
    simp only [Value.cells, List.size_toArray, List.length_cons, List.length_nil]
    omega
  have hRt : ROW.toList.take (i * 2) = (flat2 o).take (i * 2) := by
    rw [← hROW]
    simp only [Array.toList_append, List.append_assoc]
    rw [List.take_left' hTl]
  have hblk : ∀ W : World, W.heap = (w.alloc (.cells ROW 32)).heap → W.heap[w.heap.size]? = some (.cells ROW 32 (0, 0)) := fun W hW => by rw [hW]; exact heap_alloc_new w _
  have hmin : Nat.min 1 (o.length + 1 - i) = 1 := by
    simp only [Nat.min_def]; rw [if_pos (by omega)]
  have hcpA : ∀ W : World, W.heap = (w.alloc (.cells ROW 32)).heap → ∀ ty dc, (Builtin.copy_ #[24, 24] ty #[.slice (some ⟨w.heap.size, i * 2, none⟩) (o.length + 1 - i) dc, .slice (some ⟨vb, 0, none⟩) 1 1]).run Try.prog W = .ok (goInt 1) (W.setRow w.heap.size (ROW.toList.take (i * 2) ++ flat2 [x] ++ ROW.toList.drop (i * 2 + (flat2 [x]).length)).toArray) := fun W hW ty dc => by
    have h := run_copy_rowS (P := Try.prog) W 24 24 ty 32 w.heap.size (i * 2) (o.length + 1 - i) dc ⟨vb, 0, none⟩ 1 1 ROW 32 (flat2 [x]) Try.underlying24 hi0 hz1 (hblk W hW) (by rw [hmin]; rfl)
      (fun j v hj => by
        have e : W.cell? ((⟨vb, 0, none⟩ : Addr).add j) = (w.alloc (.cells ROW 32)).cell? ((⟨vb, 0, none⟩ : Addr).add j) := by unfold World.cell?; rw [hW]
        rw [e]; exact Lib.cell?_alloc_some _ (hvs j v hj))
      (by rw [hRs]; have : (flat2 [x]).length = 2 := rfl; omega) HX1
    rw [hmin] at h; exact h
  obtain ⟨R1, hR1⟩ : ∃ R1 : Array Value, (ROW.toList.take (i * 2) ++ flat2 [x] ++ ROW.toList.drop (i * 2 + (flat2 [x]).length)).toArray = R1 := ⟨_, rfl⟩
  rw [hR1] at hcpA
  have hR1s : R1.size = G * 2 := by
    rw [← hR1]
    have : (flat2 [x]).length = 2 := rfl
    simp only [List.size_toArray, List.length_append, List.length_take, List.length_drop, Array.length_toList, hRs, this]; omega
  have hblk1 : ∀ W : World, W.heap = ((w.alloc (.cells ROW 32)).setRow w.heap.size R1).heap → W.heap[w.heap.size]? = some (.cells R1 32 (0, 0)) := fun W hW => by rw [hW]; exact setRow_heap _ _ ROW R1 _ _ (heap_alloc_new w _)
  have hmin2 : Nat.min (o.length - i) (o.length - i) = o.length - i := Nat.min_self _
  have hcpB : ∀ W : World, W.heap = ((w.alloc (.cells ROW 32)).setRow w.heap.size R1).heap → ∀ ty dl dc sl sc, dl = o.length - i → sl = o.length - i → (Builtin.copy_ #[24, 24] ty #[.slice (some ⟨w.heap.size, (i + 1) * 2, none⟩) dl dc, .slice (some ⟨g, i * 2, none⟩) sl sc]).run Try.prog W = .ok (goInt (o.length - i : Nat)) (W.setRow w.heap.size (R1.toList.take ((i + 1) * 2) ++ (flat2 o).drop (i * 2) ++ R1.toList.drop ((i + 1) * 2 + ((flat2 o).drop (i * 2)).length)).toArray) := fun W hW ty dl dc sl sc hdl hsl => by
    subst hdl; subst hsl
    have h := run_copy_rowS (P := Try.prog) W 24 24 ty 32 w.heap.size ((i + 1) * 2) (o.length - i) dc ⟨g, i * 2, none⟩ (o.length - i) sc R1 32 ((flat2 o).drop (i * 2)) Try.underlying24 hi0 hz1 (hblk1 W hW) (by rw [hmin2, hDl])
      (fun j v hj => by
        have e : W.cell? ⟨g, i * 2 + j, none⟩ = w.cell? ⟨g, i * 2 + j, none⟩ := World.cell?_of_block (by
          rw [hW, setRow_other _ _ _ _ (show g ≠ w.heap.size by omega), heap_alloc_old w _ hgw])
        rw [add_plain, e]
        rw [List.getElem?_drop] at hj
        have := hcs (i * 2 + j) v hj
        rw [add_plain] at this
        rw [Nat.zero_add] at this; exact this)
      (by rw [hR1s, hDl]; omega) (fun v hv => HO1 v (List.mem_of_mem_drop hv))
    rw [hmin2] at h; exact h
  obtain ⟨R2, hR2⟩ : ∃ R2 : Array Value, (R1.toList.take ((i + 1) * 2) ++ (flat2 o).drop (i * 2) ++ R1.toList.drop ((i + 1) * 2 + ((flat2 o).drop (i * 2)).length)).toArray = R2 := ⟨_, rfl⟩
  rw [hR2] at hcpB
  have hlay : R2.toList.take ((o.length + 1) * 2) = flat2 (o.take i ++ [x] ++ o.drop i) := by
    have h := lay2 (L := ROW.toList) (A := (flat2 o).take (i * 2)) (X := flat2 [x]) (C := (flat2 o).drop (i * 2)) (by rw [hTl]; exact hRt)
    have e2 : (flat2 [x]).length = 2 := rfl
    rw [hTl, hDl, e2] at h
    rw [flat2_append, flat2_append, hft, hfd, ← h, ← hR2, ← hR1, e2, hDl]
    simp only [show (i + 1) * 2 = i * 2 + 2 by omega, show (o.length + 1) * 2 = i * 2 + 2 + (o.length - i) * 2 by omega]
  have hR2s : R2.size = G * 2 := by
    rw [← hR2]
    simp only [List.size_toArray, List.length_append, List.length_take, List.length_drop, Array.length_toList, hR1s, hFl]; omega
  have hfin : ∀ W : World, W.heap = ((w.alloc (.cells ROW 32)).setRow w.heap.size R1).heap → W.os = w.os → W.tape = w.tape → W.output = w.output →
      (W.setRow w.heap.size R2).ownsRow B 32 2 (.slice (some ⟨w.heap.size, 0, none⟩) (o.length + 1) G) (o.take i ++ [x] ++ o.drop i).length (flat2 (o.take i ++ [x] ++ o.drop i)) ∧ w.grownBy (W.setRow w.heap.size R2) (some g) := fun W hW h1 h2 h3 => by
    have hlen : (o.take i ++ [x] ++ o.drop i).length = o.length + 1 := by
      simp only [List.length_append, List.length_take, List.length_drop, List.length_cons, List.length_nil]; omega
    refine ⟨⟨flat2_length _, Or.inr ⟨w.heap.size, G, R2, by rw [hlen], hB, setRow_heap W _ R1 R2 _ _ (hblk1 W hW), by omega, hGm, hR2s, by rw [hlen]; exact hlay⟩⟩, ⟨h1, h2, h3, ?_, fun k hk _ => ?_⟩⟩
    · simp [World.setRow, hW]
    · rw [setRow_other _ _ _ _ (by omega), hW, setRow_other _ _ _ _ (by omega), heap_alloc_old w _ hk]
  have HFIN := Lib.hid hfin
  have hG63 : G ≤ 9223372036854775807 := by unfold maxLen at hGm; omega
  have hGi : ¬ (G = i) := by omega
  have hGim : ¬ (G = i + 1) := by omega
  have hci : ¬ (o.length = i) := by omega
  have hz3 : ¬ ((i : Int) = (o.length : Int)) := by omega
  have hz4 : ((i : Int) == (o.length : Int)) = false := by simpa using hz3
  have hz5 : (o.length : Int) < (o.length : Int) + 1 := by omega
  have hw1 : IntKind.i64.wrap ((i : Int) + 1) = (i : Int) + 1 := by rw [IntKind.wrap_i64]; omega
  have hb1 : (0 : Int) ≤ (i : Int) + 1 := by omega
  have htn : ((i : Int) + 1).toNat = i + 1 := by omega
  have hb3 : (i : Int) + 1 ≤ (o.length : Int) + 1 := by omega
  have hb4 : (i : Int) ≤ (o.length : Int) := by omega
  have HA := Lib.hid hcpA; have HB := Lib.hid hcpB; have HZ := Lib.hid hrz
  clear hcpA hcpB hrz hfin hlay hR2 hR2s hR1 hR1s hblk hblk1 hmin hmin2 hRt hRs hROW hik hkk hold hft hfd hTl hDl hFl HO1 HX1 hcs hvs hz0 hz1 hz2 hi0 hown hx hGm
  have hcA := HA.out (w.alloc (.cells ROW 32)).drew rfl
  have hcB := fun ty => HB.out (((w.alloc (.cells ROW 32)).drew.setRow w.heap.size R1).drew) rfl ty (o.length - i) (G - (i + 1)) (o.length - i) (o.length - i) rfl rfl
  generalize o.take i ++ [x] ++ o.drop i = L at HFIN ⊢
  go_enter Try.func69, Try.ntmps69
  go_wp2_with (at_builtin; refine Lib.wpList_append_run _ rfl _ _ _ _ rfl _ _ rfl rfl _ _ (HZ.out _) ?_)
  go_region
  go_wp2
  go_ret
  obtain ⟨k1, k2⟩ := HFIN.out (((w.alloc (.cells ROW 32)).drew.setRow w.heap.size R1).drew) rfl rfl rfl rfl
  exact ⟨_, rfl, k1, k2⟩

set_option maxHeartbeats 2000000 in
set_option maxRecDepth 100000 in
/-- Ahead of the end, with room: in place. -/
theorem insertP_shift {w : World} {B B' vb g cap : Nat} {o : List (Int × Int)} {x : Int × Int} {i : Nat} (hown : w.ownsRow B 32 2 (.slice (some ⟨g, 0, none⟩) o.length cap) o.length (flat2 o))
    (hx : w.ownsRow B' 32 2 (.slice (some ⟨vb, 0, none⟩) 1 1) 1 (flat2 [x])) (hne : vb ≠ g) (hl : o.length ≤ 1000) (hi : i < o.length) (hroom : o.length + 1 ≤ cap) :
    Calls Try.prog 69 #[.slice (some ⟨g, 0, none⟩) o.length cap, .int .i64 (i : Nat), .slice (some ⟨vb, 0, none⟩) 1 1] w (InsPostP w B (.slice (some ⟨g, 0, none⟩) o.length cap) (o.take i ++ [x] ++ o.drop i)) := by
  obtain ⟨i0, hi0, hz0, hz1, hz2⟩ := info_parts infoPin
  have hcs := hown.cells (g := g) rfl
  have hvs := hx.cells (g := vb) rfl
  have hvf := hx.frozenAt
  obtain ⟨cur, hBg, hg, hcm, hcs2, htk⟩ : ∃ cur : Array Value, B ≤ g ∧ w.heap[g]? = some (.cells cur 32 (0, 0)) ∧ cap ≤ maxLen ∧ cur.size = cap * 2 ∧ cur.toList.take (o.length * 2) = flat2 o := by
    rcases hown.2 with ⟨h0, _⟩ | ⟨g', cap', cur, hv, hB, hg, h1, h2, h3, h4⟩
    · cases h0
    · simp only [Value.slice.injEq, Option.some.injEq, Addr.mk.injEq, and_true, true_and] at hv
      obtain ⟨rfl, rfl⟩ := hv
      exact ⟨cur, hB, hg, h2, h3, h4⟩
  obtain ⟨curv, hgv, hcv⟩ : ∃ curv : Array Value, w.heap[vb]? = some (.cells curv 32 (0, 0)) ∧ curv.size = 2 := by
    rcases hx.2 with ⟨h0, _⟩ | ⟨g', cap', curv, hv, hB, hg, h1, h2, h3, h4⟩
    · cases h0
    · simp only [Value.slice.injEq, Option.some.injEq, Addr.mk.injEq, and_true, true_and] at hv
      obtain ⟨rfl, rfl⟩ := hv
      exact ⟨curv, hg, by rw [h3]⟩
  have hFl : (flat2 o).length = o.length * 2 := flat2_length o
  have hTl : ((flat2 o).take (i * 2)).length = i * 2 := by rw [List.length_take]; omega
  have hDl : ((flat2 o).drop (i * 2)).length = (o.length - i) * 2 := by rw [List.length_drop]; omega
  have hft : flat2 (o.take i) = (flat2 o).take (i * 2) := flat2_take o i (by omega)
  have hfd : flat2 (o.drop i) = (flat2 o).drop (i * 2) := flat2_drop o i (by omega)
  have HO1 := flat2_one o
  have HX1 := flat2_one [x]
  have hsa : w.shape? vb = some (32, 2) := by unfold World.shape?; rw [hgv]; simp [hcv]
  have hsb : w.shape? g = some (32, cap * 2) := by unfold World.shape?; rw [hg]; simp [hcs2]
  have hov : ∀ lb cb, (callFunc 111 #[.slice (some ⟨vb, 0, none⟩) 1 1, .slice (some ⟨g, (i + 1) * 2, none⟩) lb cb]).run Try.prog w = .ok (.value (.bool false)) w := fun lb cb => by
    rw [run_callFunc_extern Try.func111 (by kernel_rfl) (by kernel_rfl) (by kernel_rfl) (e := Extern.SlicesOverlaps.overlaps #[24, 24] #[4]) (by kernel_rfl),
      Lib.run_overlaps_apart w 24 4 32 Try.underlying24 2 Try.sizeOf32 ⟨vb, 0, none⟩ ⟨g, (i + 1) * 2, none⟩ 1 1 lb cb hne 32 32 2 (cap * 2) hsa hsb (by omega) (hvf _) (hvf _)]
    rfl
  have hcurl : cur.toList.length = cap * 2 := by rw [Array.length_toList, hcs2]
  have hmin1 : Nat.min (o.length + 1 - i) (o.length - i) = o.length - i := by
    simp only [Nat.min_def]; rw [if_neg (by omega)]
  have hmin2 : Nat.min 1 (o.length + 1 - i) = 1 := by
    simp only [Nat.min_def]; rw [if_pos (by omega)]
  have hcpB : ∀ ty dc sc, (Builtin.copy_ #[24, 24] ty #[.slice (some ⟨g, (i + 1) * 2, none⟩) (o.length - i) dc, .slice (some ⟨g, i * 2, none⟩) (o.length + 1 - i) sc]).run Try.prog w.drew = .ok (goInt (o.length - i : Nat)) (w.drew.setRow g (cur.toList.take ((i + 1) * 2) ++ (flat2 o).drop (i * 2) ++ cur.toList.drop ((i + 1) * 2 + ((flat2 o).drop (i * 2)).length)).toArray) := fun ty dc sc => by
    have h := run_copy_rowS (P := Try.prog) w.drew 24 24 ty 32 g ((i + 1) * 2) (o.length - i) dc ⟨g, i * 2, none⟩ (o.length + 1 - i) sc cur 32 ((flat2 o).drop (i * 2)) Try.underlying24 hi0 hz1 hg (by rw [hmin1, hDl])
      (fun j v hj => by
        rw [add_plain]
        rw [List.getElem?_drop] at hj
        have := hcs (i * 2 + j) v hj
        rw [add_plain, Nat.zero_add] at this
        exact this)
      (by rw [hcs2, hDl]; omega) (fun v hv => HO1 v (List.mem_of_mem_drop hv))
    rw [hmin1] at h; exact h
  obtain ⟨R1, hR1⟩ : ∃ R1 : Array Value, (cur.toList.take ((i + 1) * 2) ++ (flat2 o).drop (i * 2) ++ cur.toList.drop ((i + 1) * 2 + ((flat2 o).drop (i * 2)).length)).toArray = R1 := ⟨_, rfl⟩
  rw [hR1] at hcpB
  have hR1s : R1.size = cap * 2 := by
    rw [← hR1]
    simp only [List.size_toArray, List.length_append, List.length_take, List.length_drop, hcurl, hFl]; omega
  have hblk1 : ∀ W : World, W.heap = (w.setRow g R1).heap → W.heap[g]? = some (.cells R1 32 (0, 0)) := fun W hW => by rw [hW]; exact setRow_heap _ _ cur R1 _ _ hg
  have hcpA : ∀ W : World, W.heap = (w.setRow g R1).heap → ∀ ty dc, (Builtin.copy_ #[24, 24] ty #[.slice (some ⟨g, i * 2, none⟩) (o.length + 1 - i) dc, .slice (some ⟨vb, 0, none⟩) 1 1]).run Try.prog W = .ok (goInt 1) (W.setRow g (R1.toList.take (i * 2) ++ flat2 [x] ++ R1.toList.drop (i * 2 + (flat2 [x]).length)).toArray) := fun W hW ty dc => by
    have h := run_copy_rowS (P := Try.prog) W 24 24 ty 32 g (i * 2) (o.length + 1 - i) dc ⟨vb, 0, none⟩ 1 1 R1 32 (flat2 [x]) Try.underlying24 hi0 hz1 (hblk1 W hW) (by rw [hmin2]; rfl)
      (fun j v hj => by
        have e : W.cell? ⟨vb, 0 + j, none⟩ = w.cell? ⟨vb, 0 + j, none⟩ := World.cell?_of_block (by
          rw [hW, setRow_other _ _ _ _ hne])
        have := hvs j v hj
        rw [add_plain] at this ⊢
        rw [e]; exact this)
      (by rw [hR1s]; have : (flat2 [x]).length = 2 := rfl; omega) HX1
    rw [hmin2] at h; exact h
  obtain ⟨R2, hR2⟩ : ∃ R2 : Array Value, (R1.toList.take (i * 2) ++ flat2 [x] ++ R1.toList.drop (i * 2 + (flat2 [x]).length)).toArray = R2 := ⟨_, rfl⟩
  rw [hR2] at hcpA
  have hlay : R2.toList.take ((o.length + 1) * 2) = flat2 (o.take i ++ [x] ++ o.drop i) := by
    have hA : cur.toList.take (i * 2) = (flat2 o).take (i * 2) := by
      rw [← htk, List.take_take, Nat.min_eq_left (by omega)]
    have e2 : (flat2 [x]).length = 2 := rfl
    have h := lay2' (L := cur.toList) (A := (flat2 o).take (i * 2)) (X := flat2 [x]) (C := (flat2 o).drop (i * 2)) (by rw [hTl]; exact hA) (by rw [hTl, hDl, e2, hcurl]; omega)
    rw [hTl, hDl, e2] at h
    rw [flat2_append, flat2_append, hft, hfd, ← h, ← hR2, ← hR1, e2, hDl]
    simp only [show (i + 1) * 2 = i * 2 + 2 by omega, show (o.length + 1) * 2 = i * 2 + 2 + (o.length - i) * 2 by omega]
  have hR2s : R2.size = cap * 2 := by
    rw [← hR2]
    have e2 : (flat2 [x]).length = 2 := rfl
    simp only [List.size_toArray, List.length_append, List.length_take, List.length_drop, Array.length_toList, hR1s, e2]; omega
  have hfin : ∀ W : World, W.heap = (w.setRow g R1).heap → W.os = w.os → W.tape = w.tape → W.output = w.output →
      (W.setRow g R2).ownsRow B 32 2 (.slice (some ⟨g, 0, none⟩) (o.length + 1) cap) (o.take i ++ [x] ++ o.drop i).length (flat2 (o.take i ++ [x] ++ o.drop i)) ∧ w.grownBy (W.setRow g R2) (some g) := fun W hW h1 h2 h3 => by
    have hlen : (o.take i ++ [x] ++ o.drop i).length = o.length + 1 := by
      simp only [List.length_append, List.length_take, List.length_drop, List.length_cons, List.length_nil]; omega
    refine ⟨⟨flat2_length _, Or.inr ⟨g, cap, R2, by rw [hlen], hBg, setRow_heap W _ R1 R2 _ _ (hblk1 W hW), by omega, hcm, hR2s, by rw [hlen]; exact hlay⟩⟩, ⟨h1, h2, h3, ?_, fun k hk hkne => ?_⟩⟩
    · simp [World.setRow, hW]
    · have hkg : k ≠ g := fun e => hkne (by rw [e])
      rw [setRow_other _ _ _ _ hkg, hW, setRow_other _ _ _ _ hkg]
  have HFIN := Lib.hid hfin
  have hc63 : cap ≤ 9223372036854775807 := by unfold maxLen at hcm; omega
  have hci : ¬ (cap = i) := by omega
  have hci1 : ¬ (cap = i + 1) := by omega
  have hz3 : ¬ ((i : Int) = (o.length : Int)) := by omega
  have hz4 : ((i : Int) == (o.length : Int)) = false := by simpa using hz3
  have hz5 : (o.length : Int) + 1 ≤ (cap : Int) := by omega
  have hw1 : IntKind.i64.wrap ((i : Int) + 1) = (i : Int) + 1 := by rw [IntKind.wrap_i64]; omega
  have hb1 : (0 : Int) ≤ (i : Int) + 1 := by omega
  have htn : ((i : Int) + 1).toNat = i + 1 := by omega
  have hb3 : (i : Int) + 1 ≤ (o.length : Int) + 1 := by omega
  have hb4 : (i : Int) ≤ (o.length : Int) := by omega
  have hb5 : (i : Int) ≤ (o.length : Int) + 1 := by omega
  have hcA := hcpA (w.drew.setRow g R1) rfl
  clear hcpA hfin hlay hR2 hR2s hR1 hR1s hblk1 hmin1 hmin2 hft hfd hTl hDl hFl HO1 HX1 hcs hvs hz0 hz1 hz2 hi0 hown hx hcm hsa hsb hcurl hvf hg hgv hcs2 hcv htk
  generalize o.take i ++ [x] ++ o.drop i = L at HFIN ⊢
  go_enter Try.func69, Try.ntmps69
  go_wp2_with (simp only [hov])
  go_region
  go_wp2
  go_ret
  obtain ⟨k1, k2⟩ := HFIN.out (w.drew.setRow g R1) rfl rfl rfl rfl
  exact ⟨_, rfl, k1, k2⟩

theorem insertP_any {w : World} {B B' vb : Nat} {v : Value} {o : List (Int × Int)} {x : Int × Int} {i : Nat} (hown : w.ownsRow B 32 2 v o.length (flat2 o)) (hB : B ≤ w.heap.size)
    (hx : w.ownsRow B' 32 2 (.slice (some ⟨vb, 0, none⟩) 1 1) 1 (flat2 [x])) (hne : v.ownBlock ≠ some vb) (hl : o.length ≤ 1000) (hi : i ≤ o.length) :
    Calls Try.prog 69 #[v, .int .i64 (i : Nat), .slice (some ⟨vb, 0, none⟩) 1 1] w (InsPostP w B v (o.take i ++ [x] ++ o.drop i)) := by
  rcases Nat.eq_or_lt_of_le hi with rfl | hlt
  · have e : o.take o.length ++ [x] ++ o.drop o.length = o ++ [x] := by rw [List.take_length, List.drop_length, List.append_nil]
    rw [e]
    exact insertP_end hown hB hx hl
  · obtain ⟨g, cap, rfl, _, hc1, _⟩ := ownS_pos hown (by omega)
    have hvg : vb ≠ g := fun e => hne (by rw [e]; rfl)
    rcases Nat.eq_or_lt_of_le hc1 with rfl | hc
    · exact insertP_grow hown hB hx hl hlt
    · exact insertP_shift hown hx hvg hl hlt hc

end Go.Proofs.Ytcbdoldcdgaooaa
