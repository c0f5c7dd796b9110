/- The contracts of chapter 17's program, further: rows of scales, slices.MinFunc. No condition. Made by gen_scale.py. -/
import Derived.Test.YthggdckldcfakaaImplScale
import Derived.Maps.AppendAt
import Derived.Test.YthggdckldcfakaaRdCap
namespace Go.Proofs.Ythggdckldcfakaa
open Go.ChangeShapes Go.WideShapes Go.ChangeAt Go.RowKit

theorem infoScale : (Try.prog.info? 55).map (fun i => (i.zero, i.size, i.bytes)) = some (some (.agg #[.int .i64 0, .nilFunc]), 2, 16) := by kernel_rfl
/-- The cells of a row of scales: their roots and the blocks of their functions. -/
def flatQ (l : List (Nat × Nat)) : List Value := l.flatMap fun p => [.int .i64 (p.1 : Int), hasV p.2]
theorem flatQ_length (l : List (Nat × Nat)) : (flatQ l).length = l.length * 2 := by
  induction l with
  | nil => rfl
  | cons p l ih => simp only [flatQ, List.flatMap_cons, List.length_append] at ih ⊢; rw [ih]; simp; omega
theorem flatQ_append (a b : List (Nat × Nat)) : flatQ (a ++ b) = flatQ a ++ flatQ b := by simp [flatQ]
theorem flatQ_at : ∀ (l : List (Nat × Nat)) (k : Nat) (p : Nat × Nat), l[k]? = some p → (flatQ l)[k * 2]? = some (.int .i64 (p.1 : Int)) ∧ (flatQ l)[k * 2 + 1]? = some (hasV p.2)
  | [], k, p, h => by simp at h
  | q :: r, 0, p, h => by
    have e : q = p := by simpa using h
    subst e
    have e2 : flatQ (q :: r) = .int .i64 (q.1 : Int) :: hasV q.2 :: flatQ r := by simp [flatQ]
    rw [e2]; exact ⟨rfl, rfl⟩
  | q :: r, k + 1, p, h => by
    have ih := flatQ_at r k p (by simpa using h)
    have e : flatQ (q :: r) = .int .i64 (q.1 : Int) :: hasV q.2 :: flatQ r := by simp [flatQ]
    rw [e, show (k + 1) * 2 = k * 2 + 1 + 1 by omega]
    simpa using ih
/-- A row of all twelve scales. -/
def RdQ (w : World) (v : Value) (l : List (Nat × Nat)) : Prop := l.length = 12 ∧ Rd 2 w v l.length (flatQ l) ∧ ∀ (i : Nat) (p : Nat × Nat), l[i]? = some p → p.1 = i ∧ ScAt w p.2 i
theorem RdQ.below {w w' : World} {v : Value} {l : List (Nat × Nat)} (h : RdQ w v l) (hb : Below w.heap.size w w') : RdQ w' v l :=
  ⟨h.1, Rd.below h.2.1 hb, fun i p hi => ⟨(h.2.2 i p hi).1, (h.2.2 i p hi).2.below hb⟩⟩
theorem RdQ.cells {w : World} {v : Value} {l : List (Nat × Nat)} (h : RdQ w v l) {k : Nat} (hk : k < 12) :
    ∃ b off cap q, v = .slice (some ⟨b, off, none⟩) 12 cap ∧ w.cell? ⟨b, off + k * 2, none⟩ = some (.int .i64 (k : Int)) ∧ w.cell? ⟨b, off + k * 2 + 1, none⟩ = some (hasV q) ∧ ScAt w q k := by
  have hlt : k < l.length := by rw [h.1]; exact hk
  obtain ⟨b, off, cap, rfl, hc⟩ := Rd.pos h.2.1 (by omega)
  have hp : l[k]? = some l[k] := List.getElem?_eq_getElem hlt
  obtain ⟨h1, h2⟩ := flatQ_at l k _ hp
  obtain ⟨e, hs⟩ := h.2.2 k _ hp
  refine ⟨b, off, cap, l[k].2, by rw [h.1], ?_, ?_, hs⟩
  · rw [hc _ (by omega), h1, e]
  · rw [Nat.add_assoc, hc _ (by omega), h2]

set_option maxHeartbeats 2000000 in
theorem scales_any (w : World) :
    Calls Try.prog 41 #[] w fun e w' => ∃ v l, e = .returned v ∧ RdQ w' v l ∧ Below w.heap.size w w' := by
  obtain ⟨i0, hi, hz0, hz1, hz2⟩ := info_parts infoScale
  go_enter Try.func41, Try.ntmps41
  go_wp2_with fail
  go_loopw [1, 3] (fun v1 v3 wr => ∃ (n : Nat) (l : List (Nat × Nat)), n ≤ 12 ∧ v3 = .int .i64 (n : Int) ∧ l.length = n ∧ wr.ownsRow w.heap.size 55 2 v1 l.length (flatQ l) ∧ Hid (∀ (i : Nat) (p : Nat × Nat), l[i]? = some p → p.1 = i ∧ ScAt wr p.2 i ∧ v1.ownBlock ≠ some p.2) ∧ Below w.heap.size w wr) (fun _ v3 _ => 12 - (intOf v3).toNat)
  case atStart => exact ⟨0, [], by omega, rfl, rfl, World.ownsRow_nil _ _ _ _, Lib.hid (fun i p hi => by simp at hi), Below.refl _ _⟩
  case round =>
    obtain ⟨n, l, hn, rfl, hl, hown, HI, hbr⟩ := hrel
    replace hl := Lib.hid hl
    by_cases hlt : n < 12
    · go_wp2_with fail
      refine (majOf_any hlt).mono ?_
      rintro e w2 ⟨q, rfl, hq, hqs, hb2⟩
      have hO2 := ownS_below hown hb2
      have hbr2 := bstep hbr hb2
      have hq' := Lib.hid hq
      clear hq
      go_wp2_with (at_builtin; refine wpList_append_own_at _ rfl _ _ 52 rfl w.heap.size 55 i0 (.agg #[.int .i64 0, .nilFunc]) 2 16 Try.underlying52 hi hz0 hz1 hz2 rfl (by decide) _ l.length _ rfl (hO2.alloc _) ⟨w2.heap.size, 0, none⟩ 1 1 [.int .i64 (n : Int), hasV q] rfl rfl ?c1 ?c2 ?c3 ?c4 ?c5 ?_)
      try (case c1 => first | exact World.news_of_block (heap_alloc_new w2 _) | exact fun _ _ h => h)
      case c2 => simp [Value.oneCell', hasV]
      case c3 => have := hl.out; unfold maxLen; omega
      case c4 => have := hl.out; omega
      case c5 => have := hbr2.size; simp; omega
      intro v' w4 hown4 hgrow _ hat
      have hb5 : Below w.heap.size w w4 := (hbr2.alloc hbr2.size _).grown hgrow (by have := hbr2.size; simp; omega) (fun g hg => (hO2.lt g hg).1)
      have hown5 : w4.ownsRow w.heap.size 55 2 v' (l ++ [(n, q)]).length (flatQ (l ++ [(n, q)])) := by
        rw [flatQ_append, List.length_append]; exact hown4
      have hqlt : q < w2.heap.size := World.block_lt_of_cell? _ _ hq'.out
      try rw [size_alloc] at hat
      have HI2 : Hid (∀ (i : Nat) (p : Nat × Nat), (l ++ [(n, q)])[i]? = some p → p.1 = i ∧ ScAt w4 p.2 i ∧ v'.ownBlock ≠ some p.2) := Lib.hid (fun i p hip => by
        have key : ∀ c r, ScAt w2 c r → c < w2.heap.size → some c ≠ Value.ownBlock u1 → ScAt w4 c r ∧ v'.ownBlock ≠ some c := fun c r hc hlt hne => by
          refine ⟨keptF hgrow hne (kept_b ((Below.refl w2.heap.size w2).alloc (Nat.le_refl _) _) hc), fun e => ?_⟩
          rcases hat with h | h
          · rw [h] at e; exact hne e.symm
          · rw [h] at e
            have := Option.some.inj e
            omega
        by_cases hi : i < l.length
        · rw [List.getElem?_append_left hi] at hip
          obtain ⟨a1, a2, a3⟩ := HI.out i p hip
          exact ⟨a1, key _ _ (a2.below hb2) (World.block_lt_of_cell? _ _ (a2.below hb2)) (fun e => a3 e.symm)⟩
        · rw [List.getElem?_append_right (by omega)] at hip
          have h0 : i - l.length = 0 := by
            have := (List.getElem?_eq_some_iff.1 hip).1
            rw [List.length_singleton] at this; omega
          rw [h0] at hip
          obtain rfl : (n, q) = p := by simpa using hip
          have hin : n = i := by have := hl.out; omega
          subst hin
          exact ⟨rfl, key _ _ hq'.out hqlt (fun e => by have := (hown.lt q e.symm).2; omega)⟩)
      have hl2 : (l ++ [(n, q)]).length = n + 1 := by rw [List.length_append, hl.out]; rfl
      clear hown4 hgrow hat hO2 hbr2 hown hbr hb2 hqs hqlt HI
      go_wp2
      go_roundw
      case rel => exact ⟨n + 1, _, by omega, by go_num, hl2, hown5, HI2, hb5⟩
      case measure => simp [intOf]; omega
    · obtain rfl : n = 12 := by omega
      go_wp2
      go_ret
      exact ⟨_, l, rfl, ⟨hl.out, Rd.of_own hown, fun i p hip => ⟨(HI.out i p hip).1, (HI.out i p hip).2.1⟩⟩, hbr⟩

set_option maxHeartbeats 2000000 in
theorem wrongIn_any {w : World} {v : Value} {q r : Nat} {l : List (Int × Int)} (hs : ScAt w q r) (h : Rd2 w v l) (ht : tuneB l = true) :
    Calls Try.prog 42 #[.agg #[.int .i64 (r : Int), hasV q], v] w fun e w' => e = .returned (.int .i64 ((wrongN l (majN r) : Nat) : Int)) ∧ Gr w w' := by
  obtain ⟨a1, cap1, rfl⟩ := Rd.slice h
  have HP := Lib.hid (tuneB_true.1 ht)
  have h40 := HP.out.1
  have hX := boxF_new w (.int .i64 (r : Int)) (hasV q) 55
  have hg0 := gr_alloc17 w (.cells #[.int .i64 (r : Int), hasV q] 55)
  have hsA := hs.below hg0.below
  have hRA := Rd.below h hg0.below
  clear ht hs
  have HSA := Lib.hid hsA
  clear hsA
  unfold hasV at *
  go_enter Try.func42, Try.ntmps42
  go_wp2_with fail
  generalize w.alloc (.cells #[.int .i64 (r : Int), .func (.func 58) #[] #[.pointer (some ⟨q, 0, none⟩)]] 55) = W at *
  obtain ⟨bx, hbx⟩ : ∃ b, b = w.heap.size := ⟨_, rfl⟩
  rw [← hbx] at hX
  simp only [← hbx]
  clear hbx
  go_loopw [5, 10] (fun v5 v10 wr => ∃ j : Nat, j ≤ l.length ∧ v10 = .int .i64 j ∧ v5 = .int .i64 ((wrongN (l.take j) (majN r) : Nat) : Int) ∧ Gr W wr) (fun _ v10 _ => l.length - (intOf v10).toNat)
  case atStart => exact ⟨0, Nat.zero_le _, rfl, rfl, gr_same17 rfl⟩
  case round =>
    obtain ⟨j, hj, rfl, rfl, hgr⟩ := hrel
    by_cases hlt : j < l.length
    · have hbr := hgr.below
      obtain ⟨p, hp⟩ : ∃ p, l[j]? = some p := ⟨_, List.getElem?_eq_getElem hlt⟩
      have hpr := (HP.out.2 j p hp).2.1
      obtain ⟨b1, o1, c1, hv1, x1, y1⟩ := Rd2.cells (Rd.below hRA hbr) hp
      simp only [Value.slice.injEq, true_and] at hv1
      obtain ⟨rfl, rfl⟩ := hv1
      have HQ := Lib.hid hp
      clear hp
      have HWI := Lib.hid (wrong_in (m := majN r) HQ.out)
      have HWO := Lib.hid (wrong_out (m := majN r) HQ.out)
      have hwl : wrongN (l.take j) (majN r) ≤ j := Nat.le_trans (wrong_le _ _) (by rw [List.length_take]; omega)
      have hgA := gr_trans17 hgr (gr_alloc17 wr (.cells #[.int .i64 p.1, .int .i64 p.2] 37))
      have HSB := Lib.hid (HSA.out.below hgA.below)
      have hc1 := (hX.below hgA.below).2.1.2
      have hpz : 0 ≤ p.2 := hpr.1
      generalize wrongN (l.take j) (majN r) = y at *
      go_upto_region 5 with fail
      have z1 : (wr.alloc (.cells #[.int .i64 p.1, .int .i64 p.2] 37)).cell? ⟨wr.heap.size, 1, none⟩ = some (.int .i64 p.2) := cell0 _ _ _ _
      generalize wr.alloc (.cells #[.int .i64 p.1, .int .i64 p.2] 37) = W3 at *
      obtain ⟨by_, hby⟩ : ∃ b, b = wr.heap.size := ⟨_, rfl⟩
      rw [← hby] at z1
      simp only [← hby]
      clear hby x1 y1 hgr hbr
      go_wp2_with fail
      refine (hasP_any HSB.out p hpz).mono ?_
      rintro e w5 ⟨rfl, hg5⟩
      have hg6 := gr_trans17 hgA hg5
      clear hgA hg5 hc1 z1
      cases hb : (majN r).testBit (stepN p) with
      | true =>
        have HX := Lib.hid (HWI.out hb)
        clear HWI HWO hb
        go_wp2
        go_roundw
        case rel => exact ⟨j + 1, by omega, by go_num, by rw [HX.out], hg6⟩
        case measure => simp [intOf]; omega
      | false =>
        have HX := Lib.hid (HWO.out hb)
        clear HWI HWO hb
        go_wp2
        go_roundw
        case rel => exact ⟨j + 1, by omega, by go_num, by rw [HX.out]; go_num, hg6⟩
        case measure => simp [intOf]; omega
    · obtain rfl : j = l.length := by omega
      rw [List.take_length] at *
      go_wp2
      go_ret
      exact ⟨rfl, gr_trans17 hg0 hgr⟩
end Go.Proofs.Ythggdckldcfakaa
