/- The contract of the program's LeastComb. No condition. -/
import Derived.Test.YtbhljfeilcllaaaImplNeed
import Derived.Test.YtbhljfeilcllaaaImplRepeat
import Derived.Test.YtbhljfeilcllaaaImplComb
import Derived.Test.YtbhljfeilcllaaaAppInts
import Derived.Test.YtbhljfeilcllaaaRestSpec
namespace Go.Proofs.Ytbhljfeilcllaaa
open Go.ChangeShapes Go.WideShapes Go.ChangeAt Go.RowKit

set_option maxHeartbeats 4000000 in
set_option maxRecDepth 100000 in
theorem ileast_any {w : World} {v : Value} {t : List (Int × Int)} (r : Int) (h : Rc2 w v t) :
    Calls Try.prog 13 #[v, .int .i64 r] w (NewIntsB w (leastM r t).1 (leastM r t).2) := by
  have HY := Lib.hid (fun h => leastM_yes (r := r) (t := t) h)
  have HN := Lib.hid (fun h => leastM_no (r := r) (t := t) h)
  have HB := Lib.hid (needM_le r t)
  have HLL := Lib.hid (leastL_le r t)
  have hnl := needM_len r t
  go_enter Try.func13, Try.ntmps13
  go_wp2_with fail
  refine (ineeded_any r h).mono ?_
  rintro e w1 ⟨vn, rfl, hon1, g1⟩
  generalize needM r t = n at *
  obtain ⟨an, capn, rfl⟩ := ownS_slice hon1
  have HCL : Hid (∀ p, p ≤ n.length → (combTo p n).length ≤ 2440) := Lib.hid fun p hp => by
    have h1 := combTo_le (n := n) (m := 40) (fun x hx => (HB.out x hx).2) p
    have : p * 40 ≤ 61 * 40 := Nat.mul_le_mul_right _ (by omega)
    omega
  go_wp2_with fail
  go_loopw [6, 13] (fun v6 v13 wr => ∃ p : Nat, p ≤ n.length ∧ v13 = .int .i64 (p : Int) ∧ wr.ownsRow w.heap.size 3 1 v6 (combTo p n).length ((combTo p n).map intV) ∧ wr.ownsRow w.heap.size 3 1 (.slice an n.length capn) n.length (n.map intV) ∧ Hid (∀ g, (Value.slice an n.length capn).ownBlock = some g → v6.ownBlock ≠ some g) ∧ Below w.heap.size w wr) (fun _ v13 _ => n.length - (intOf v13).toNat)
  case atStart => exact ⟨0, Nat.zero_le _, rfl, World.ownsRow_nil _ _ _ _, hon1, Lib.hid (fun g hg e => by simp [Value.ownBlock] at e), g1⟩
  case round =>
    obtain ⟨p, hp, rfl, hown, hon, HAP, hbr⟩ := hrel
    clear hon1 g1
    by_cases hlt : p < n.length
    · obtain ⟨x, hx⟩ : ∃ x, n[p]? = some x := ⟨_, List.getElem?_eq_getElem hlt⟩
      obtain ⟨hx0, hx40⟩ := HB.out x (List.mem_of_getElem? hx)
      obtain ⟨m, rfl⟩ := Int.eq_ofNat_of_zero_le hx0
      have HC := Lib.hid (combTo_succ p n)
      have hgd : n.getD p 0 = (m : Int) := by rw [List.getD_eq_getElem?_getD, hx]; rfl
      rw [hgd, Int.toNat_natCast] at HC
      have hcl := HCL.out p (by omega)
      obtain ⟨b1, o1, c1, hv1, x1⟩ := Rd1.cell (Rd.of_own hon : Rd1 wr _ n) hx
      simp only [Value.slice.injEq, true_and] at hv1
      obtain ⟨rfl, rfl⟩ := hv1
      have hbA : Below w.heap.size w (wr.alloc (.cells #[.int .i64 (p : Int)] 3)) := hbr.alloc hbr.size _
      have hoA := hown.alloc (.cells #[.int .i64 (p : Int)] 3)
      have hnA := hon.alloc (.cells #[.int .i64 (p : Int)] 3)
      have hcA : (wr.alloc (.cells #[.int .i64 (p : Int)] 3)).cell? ⟨wr.heap.size, 0, none⟩ = some (.int .i64 (p : Int)) := World.cell?_alloc_mark wr #[.int .i64 (p : Int)] 3 (0, 0) 0
      clear hx hgd hown hon hbr
      go_wp2_with fail
      refine (repeat_any (p : Int) (by omega) hcA).mono ?_
      rintro e w2 ⟨v2, rfl, ho2, hb2⟩
      have hbB := bstep hbA hb2
      have hoB := ownS_below hoA hb2
      have hnB := ownS_below hnA hb2
      have hlB := List.length_replicate (n := m) (a := (p : Int))
      obtain ⟨v', w4, e4, ho4, hg4, hbl4⟩ := append_rdI hoB (Rd.of_own ho2) (by omega) hbB.size
      have hn4 := hnB.kept hg4 (by
        cases hb : (Value.slice (some ⟨b1, o1, none⟩) n.length capn).ownBlock with
        | none => exact Or.inl rfl
        | some g => exact Or.inr fun e => HAP.out g hb e.symm)
      have hb4 := hbB.grown hg4 hbB.size (fun x hx => (hoB.lt x hx).1)
      have HAP4 : Hid (∀ g, (Value.slice (some ⟨b1, o1, none⟩) n.length capn).ownBlock = some g → v'.ownBlock ≠ some g) := Lib.hid fun g hg e => by
        rcases hbl4 with h | h
        · exact HAP.out g hg (h ▸ e)
        · rw [h] at e
          obtain rfl := Option.some.inj e
          have := (World.ownsRow.lt hnB _ hg).2
          omega
      have ho5 : Hid (w4.ownsRow w.heap.size 3 1 v' (combTo (p + 1) n).length ((combTo (p + 1) n).map intV)) := Lib.hid (by
        rw [HC.out, List.length_append]; exact ho4)
      have HN4 := Lib.hid hn4
      rw [List.length_replicate] at ho2
      obtain ⟨a2, c2, rfl⟩ := ownS_slice ho2
      clear hoA hnA hbA hcA ho2 hb2 hbB hoB hnB hlB hg4 hbl4 ho4 hn4 x1
      go_wp2_with (at_builtin; refine wpList_append_eq rfl _ _ _ rfl _ _ _ rfl rfl e4 ?_)
      go_roundw
      case rel => exact ⟨p + 1, by omega, by go_num, ho5.out, HN4.out, HAP4, hb4⟩
      case measure => simp [intOf]; omega
    · obtain rfl : p = n.length := by omega
      have HR := Lib.hid (Rd.of_own hown : Rd1 wr u6 (leastL n))
      obtain ⟨a6, c6, rfl⟩ := ownS_slice hown
      by_cases hc : combB (leastL n) = true
      · have HC := Lib.hid hc
        have HM := Lib.hid (HY.out hc)
        clear hc
        go_wp2_with fail
        refine (icomb_yes HR.out HC.out).mono ?_
        rintro e w2 ⟨rfl, hb2⟩
        have ho2 := ownS_below hown hb2
        have g2 := bstep hbr hb2
        go_wp2
        go_ret2
        rw [HM.out]
        exact ⟨_, rfl, ho2, g2⟩
      · have HC := Lib.hid (show combB (leastL n) = false by simpa using hc)
        have HM := Lib.hid (HN.out hc)
        clear hc
        go_wp2_with fail
        refine (icomb_no HR.out HC.out).mono ?_
        rintro e w2 ⟨rfl, hb2⟩
        have g2 := bstep hbr hb2
        go_wp2
        go_ret2
        rw [HM.out]
        exact ⟨_, rfl, World.ownsRow_nil _ _ _ _, g2⟩
end Go.Proofs.Ytbhljfeilcllaaa
