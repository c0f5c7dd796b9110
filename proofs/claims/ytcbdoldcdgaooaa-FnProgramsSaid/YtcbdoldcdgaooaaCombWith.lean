/- The contracts of the program's combWith and LeastComb (as they stand since stage 9). No condition. -/
import Derived.Test.YtcbdoldcdgaooaaImplNeed
import Derived.Test.YtcbdoldcdgaooaaImplRepeat
import Derived.Test.YtcbdoldcdgaooaaImplComb
import Derived.Test.YtcbdoldcdgaooaaAppInts
import Derived.Test.YtcbdoldcdgaooaaRestSpec
namespace Go.Proofs.Ytcbdoldcdgaooaa
open Go.ChangeShapes Go.WideShapes Go.ChangeAt Go.RowKit

noncomputable def withL (n : List Int) : List Int × Bool := if combB (leastL n) = true then (leastL n, true) else ([], false)
theorem withL_yes {n : List Int} (h : combB (leastL n) = true) : withL n = (leastL n, true) := if_pos h
theorem withL_no {n : List Int} (h : ¬ combB (leastL n) = true) : withL n = ([], false) := if_neg h
theorem leastM_with (r : Int) (t : List (Int × Int)) : leastM r t = withL (needM r t) := rfl

set_option maxHeartbeats 4000000 in
set_option maxRecDepth 100000 in
theorem combwith_any {w : World} {v : Value} {n : List Int} (hB : ∀ x ∈ n, 0 ≤ x ∧ x ≤ 40) (hn : n.length ≤ 61) (h : Rd1 w v n) :
    Calls Try.prog 87 #[v] w (NewIntsB w (withL n).1 (withL n).2) := by
  have HY := Lib.hid (fun h => withL_yes (n := n) h)
  have HN := Lib.hid (fun h => withL_no (n := n) h)
  have HB := Lib.hid hB
  have HH := Lib.hid h
  obtain ⟨an, capn, rfl⟩ := Rd.slice h
  have HCL : Hid (∀ p, p ≤ n.length → (combTo p n).length ≤ 2440) := Lib.hid fun p hp => by
    have h1 := combTo_le (n := n) (m := 40) (fun x hx => (hB x hx).2) p
    have : p * 40 ≤ 61 * 40 := Nat.mul_le_mul_right _ (by omega)
    omega
  clear hB h
  go_enter Try.func87, Try.ntmps87
  go_wp2_with fail
  go_loopw [4, 9] (fun v4 v9 wr => ∃ p : Nat, p ≤ n.length ∧ v9 = .int .i64 (p : Int) ∧ wr.ownsRow w.heap.size 3 1 v4 (combTo p n).length ((combTo p n).map intV) ∧ Below w.heap.size w wr) (fun _ v9 _ => n.length - (intOf v9).toNat)
  case atStart => exact ⟨0, Nat.zero_le _, rfl, World.ownsRow_nil _ _ _ _, Below.refl _ _⟩
  case round =>
    obtain ⟨p, hp, rfl, hown, hbr⟩ := hrel
    by_cases hlt : p < n.length
    · obtain ⟨x, hx⟩ : ∃ x, n[p]? = some x := ⟨_, List.getElem?_eq_getElem hlt⟩
      obtain ⟨hx0, hx40⟩ := HB.out x (List.mem_of_getElem? hx)
      obtain ⟨m, rfl⟩ := Int.eq_ofNat_of_zero_le hx0
      have HC := Lib.hid (combTo_succ p n)
      have hgd : n.getD p 0 = (m : Int) := by rw [List.getD_eq_getElem?_getD, hx]; rfl
      rw [hgd, Int.toNat_natCast] at HC
      have hcl := HCL.out p (by omega)
      obtain ⟨b1, o1, c1, hv1, x1⟩ := Rd1.cell (Rd.below HH.out hbr) hx
      simp only [Value.slice.injEq, true_and] at hv1
      obtain ⟨rfl, rfl⟩ := hv1
      have hbA : Below w.heap.size w (wr.alloc (.cells #[.int .i64 (p : Int)] 3)) := hbr.alloc hbr.size _
      have hoA := hown.alloc (.cells #[.int .i64 (p : Int)] 3)
      have hcA : (wr.alloc (.cells #[.int .i64 (p : Int)] 3)).cell? ⟨wr.heap.size, 0, none⟩ = some (.int .i64 (p : Int)) := World.cell?_alloc_mark wr #[.int .i64 (p : Int)] 3 (0, 0) 0
      clear hx hgd hown hbr
      go_wp2_with fail
      refine (repeat_any (p : Int) (by omega) hcA).mono ?_
      rintro e w2 ⟨v2, rfl, ho2, hb2⟩
      have hbB := bstep hbA hb2
      have hoB := ownS_below hoA hb2
      have hlB := List.length_replicate (n := m) (a := (p : Int))
      obtain ⟨v', w4, e4, ho4, hg4, hbl4⟩ := append_rdI hoB (Rd.of_own ho2) (by omega) hbB.size
      have hb4 := hbB.grown hg4 hbB.size (fun x hx => (hoB.lt x hx).1)
      have ho5 : Hid (w4.ownsRow w.heap.size 3 1 v' (combTo (p + 1) n).length ((combTo (p + 1) n).map intV)) := Lib.hid (by
        rw [HC.out, List.length_append]; exact ho4)
      rw [List.length_replicate] at ho2
      obtain ⟨a2, c2, rfl⟩ := ownS_slice ho2
      clear hoA hbA hcA ho2 hb2 hbB hoB hlB hg4 hbl4 ho4 x1
      go_wp2_with (at_builtin; refine wpList_append_eq rfl _ _ _ rfl _ _ _ rfl rfl e4 ?_)
      go_roundw
      case rel => exact ⟨p + 1, by omega, by go_num, ho5.out, hb4⟩
      case measure => simp [intOf]; omega
    · obtain rfl : p = n.length := by omega
      have HR := Lib.hid (Rd.of_own hown : Rd1 wr u4 (leastL n))
      obtain ⟨a6, c6, rfl⟩ := ownS_slice hown
      by_cases hc : combB (leastL n) = true
      · have HC := Lib.hid hc
        have HM := Lib.hid (HY.out hc)
        clear hc
        go_wp2_with fail
        refine (icomb_yes HR.out HC.out).mono ?_
        rintro e w2 ⟨rfl, hb2⟩
        have ho2 := ownS_below hown hb2
        have g2 := bstep hbr hb2
        go_wp2
        go_ret2
        rw [HM.out]
        exact ⟨_, rfl, ho2, g2⟩
      · have HC := Lib.hid (show combB (leastL n) = false by simpa using hc)
        have HM := Lib.hid (HN.out hc)
        clear hc
        go_wp2_with fail
        refine (icomb_no HR.out HC.out).mono ?_
        rintro e w2 ⟨rfl, hb2⟩
        have g2 := bstep hbr hb2
        go_wp2
        go_ret2
        rw [HM.out]
        exact ⟨_, rfl, World.ownsRow_nil _ _ _ _, g2⟩

end Go.Proofs.Ytcbdoldcdgaooaa
