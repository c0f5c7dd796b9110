/- The program's ClosestPins: it answers as the model's. No condition. -/
import Derived.Test.YtpdjceafjdlknaaImplPairs
import Derived.Test.YtpdjceafjdlknaaPairsMath
namespace Go.Proofs.Ytpdjceafjdlknaa
open Go.ChangeShapes Go.WideShapes Go.ChangeAt Go.RowKit

theorem nearL_le {s n : Int} {l : List (Int × Int)} {ll : List (List Int)} {j : Nat} {p q : Int × Int} {g : Int} (h : NearL s l ll (j + 1) (min n (gapG s p.2 q.2))) (hg : gapM p.2 q.2 s = gapG s p.2 q.2) (e : g = min n (gapM p.2 q.2 s)) : NearL s l ll (j + 1) g := by
  rw [e, hg]; exact h

set_option maxHeartbeats 4000000 in
set_option maxRecDepth 100000 in
theorem iclose_any {w : World} {v : Value} {l : List (Int × Int)} (s t : Int) (h : Rd2 w v l) :
    Calls Try.prog 15 #[.agg #[.int .i64 s, .int .i64 t, v]] w fun e w' => e = .returned (.int .i64 (closM s t l)) ∧ Below w.heap.size w w' := by
  obtain ⟨a1, cap1, rfl⟩ := Rd.slice h
  obtain ⟨W, hW⟩ : ∃ W, W = w.alloc (.cells #[.int .i64 s, .int .i64 t, .slice a1 l.length cap1] 26) := ⟨_, rfl⟩
  have hX : Box W w.heap.size s t (.slice a1 l.length cap1) := by rw [hW]; exact box_new _ _ _ _ _
  have hB : Below w.heap.size w W := by rw [hW]; exact (Below.refl _ _).alloc (Nat.le_refl _) _
  obtain ⟨-, k0, k1, k2⟩ := id hX
  rw [hW] at k0 k1 k2
  by_cases tc : cylB s t l = true
  · have TC := Lib.hid tc
    have HC := Lib.hid (cylB_true.1 tc)
    have HL := Lib.hid (show closM s t l = closN s l from if_pos tc)
    have HCL := Lib.hid (fun n (k : NearL s l (tooN s 1000 l l.length) (tooN s 1000 l l.length).length n) => closN_eq (nearL_closest HC.out k))
    have HM := Lib.hid (pairs_len HC.out 1000)
    have HT : Hid (∀ {j : Nat}, j < (tooN s 1000 l l.length).length → ∃ (i k : Nat) (p q : Int × Int), (tooN s 1000 l l.length)[j]? = some [(i : Int), (k : Int)] ∧ i < k ∧ k < l.length ∧ l[i]? = some p ∧ l[k]? = some q ∧ p.1 = q.1) := Lib.hid pair_at
    clear tc
    go_enter Try.func15, Try.ntmps15
    go_wp2_with fail
    rw [← hW]
    clear hW k0 k1 k2
    obtain ⟨bx, hbx⟩ : ∃ b, b = w.heap.size := ⟨_, rfl⟩
    rw [← hbx] at hX
    simp only [← hbx]
    clear hbx
    refine (icyl_yes (Rd.below h hB) TC.out).mono ?_
    rintro e w1 ⟨rfl, hb1⟩
    have hX1 := hX.below hb1
    have g1 := bstep hB hb1
    clear hX hB hb1
    obtain ⟨-, k0, k1, k2⟩ := id hX1
    go_wp2_with fail
    clear k0 k1 k2
    refine (pairs_any s t HC.out (Rd.below h g1)).mono ?_
    rintro e w2 ⟨v2, us, rfl, hO, hb2⟩
    have hR := hO.rd
    obtain ⟨a3, c3, rfl⟩ := hR.slice
    have g2 := bstep g1 hb2
    have hX2 := hX1.below hb2
    clear hO hb2 g1 hX1
    generalize tooN s 1000 l l.length = ll at *
    have hm := HM.out
    go_wp2_with fail
    go_loopw [3, 14] (fun v3 v14 wr => ∃ (j : Nat) (n : Int), j ≤ ll.length ∧ v14 = .int .i64 (j : Int) ∧ v3 = .int .i64 n ∧ Hid (NearL s l ll j n) ∧ Below w2.heap.size w2 wr) (fun _ v14 _ => ll.length - (intOf v14).toNat)
    case atStart => exact ⟨0, s, Nat.zero_le _, rfl, rfl, Lib.hid (nearL_0 s l ll), Below.refl _ _⟩
    case round =>
      obtain ⟨j, n, hj, rfl, rfl, HN, hbr⟩ := hrel
      obtain ⟨-, k0, k1, k2⟩ := hX2.below hbr
      have hwr := bstep g2 hbr
      by_cases hlt : j < ll.length
      · obtain ⟨i, k, p, q, hx, hik, hkl, hp, hq, he⟩ := HT.out hlt
        obtain ⟨b3, o3, c4, u, -, hv3, x3, hu⟩ := (hR.below hbr).cell hx
        simp only [Value.slice.injEq, true_and] at hv3
        obtain ⟨rfl, rfl⟩ := hv3
        obtain ⟨a5, c5, rfl⟩ := Rd.slice hu
        have HG := Lib.hid (cyl_gap HC.out hp hq)
        have HS := Lib.hid (nearL_next HN.out hx hik hp hq he)
        have HGO : Hid (Calls Try.prog 45 #[.agg #[.int .i64 s, .int .i64 t, .slice a1 l.length cap1], .slice a5 [(i : Int), (k : Int)].length c5] wr fun e w' => e = .returned (.int .i64 (gapM p.2 q.2 s)) ∧ Below wr.heap.size wr w') := Lib.hid (gapof_any (Rd.below h hwr) hu hp hq)
        clear hx hp hq he hu
        go_wp2_with fail
        refine HGO.out.mono ?_
        rintro e w3 ⟨rfl, hb3⟩
        have hb4 := bstep hbr hb3
        clear HGO hb3 x3 k0 k1 k2 hbr
        by_cases hg : gapM p.2 q.2 s < n
        · have HNN := Lib.hid (nearL_le HS.out HG.out (g := gapM p.2 q.2 s) (by omega))
          generalize gapM p.2 q.2 s = n2 at *
          go_wp2
          go_roundw
          case rel => exact ⟨j + 1, n2, by omega, by go_num, rfl, HNN, hb4⟩
          case measure => simp [intOf]; omega
        · have HNN := Lib.hid (nearL_le HS.out HG.out (g := n) (by omega))
          go_wp2
          go_roundw
          case rel => exact ⟨j + 1, n, by omega, by go_num, rfl, HNN, hb4⟩
          case measure => simp [intOf]; omega
      · obtain rfl : j = ll.length := by omega
        have HE := Lib.hid (HCL.out n HN.out)
        go_wp2
        go_ret
        exact ⟨by rw [HL.out, HE.out]; rfl, hwr⟩
  · have TC := Lib.hid (show cylB s t l = false by simpa using tc)
    have HL := Lib.hid (show closM s t l = -1 from if_neg tc)
    clear tc
    go_enter Try.func15, Try.ntmps15
    go_wp2_with fail
    rw [← hW]
    clear hW k0 k1 k2
    refine (icyl_no (Rd.below h hB) TC.out).mono ?_
    rintro e w1 ⟨rfl, hb1⟩
    have g1 := bstep hB hb1
    clear hX hB hb1
    go_wp2
    go_ret
    exact ⟨by rw [HL.out]; rfl, g1⟩
end Go.Proofs.Ytpdjceafjdlknaa
