/- The walk of FnExactCombFor: THE PROGRAM'S OWN CONTRACT IS A PREMISE (hI). Made by mk_exact.py. -/
import Derived.Test.YtkciolegfonabaaCombForSpec
import Derived.Test.YtkciolegfonabaaNestOps
import Derived.Test.YtkciolegfonabaaIntsArg
import Derived.Test.YtkciolegfonabaaWalkKit
namespace Go.Proofs.Ytkciolegfonabaa
open Go.ChangeShapes Go.WideShapes Go.ChangeAt Go.RowKit

theorem combforT {w : World} {v : Value} {ll : List (List (Int × Int))} (h : RdT w v ll) : Calls Try.prog 45 #[v] w (NewIntsB w (forM ll).1 (forM ll).2) := by
  obtain ⟨us, k⟩ := h; exact combfor_any k
set_option maxHeartbeats 8000000 in
set_option maxRecDepth 100000 in
theorem exactfor_walk {w : World} {qll : Value} {ll : List (List (Int × Int))}  (hI : ∀ (W : World) (U0 : Value), RdT W U0 ll → bulkN ll ≤ 1048576 → Calls Try.prog 35 #[U0] W (NewIntsB W (forM ll).1 (forM ll).2)) (hll : RdT w qll ll) :
    Calls Try.prog 10 #[qll] w fun e w' => e = .returned (.bool true) ∧ Below w.heap.size w w' := by
  obtain ⟨ad_ll, cap_ll, rfl⟩ := hll.slice
  by_cases hsll : bulkN ll ≤ 1048576
  · skip
    have HI := Lib.hid (fun (W : World) (U0 : Value) (pll : RdT W U0 ll) => hI W U0 pll hsll)
    have HS := Lib.hid (fun (W : World) (U0 : Value) (pll : RdT W U0 ll) => combforT pll)
    clear hI
    have hbd : (forM ll).1.length ≤ 1048576 := Nat.le_trans (forM_len ll) (by omega)
    generalize (forM ll).1 = R at *
    generalize (forM ll).2 = tb at *
    go_enter Try.func10, Try.ntmps10
    go_wp2_with fail
    refine (szT_yes hsll hll).mono ?_
    rintro e w0 ⟨x0, hx0, rfl, rfl⟩
    obtain ⟨hqll, hrll⟩ := bulk_parts hsll
    have g0 := Below.refl w.heap.size w
    go_wp2_with fail
    refine (toT_any (RdT.below hll g0) hsll).mono ?_
    rintro e w_1 ⟨vPll, rfl, hPll0, hb1⟩
    have szPll := Nat.le_refl w_1.heap.size
    have gbPll := g0
    have g1 := bstep g0 hb1
    clear hb1 
    go_wp2_with fail
    refine (HS.out _ _ hPll0.rd).mono ?_
    rintro e w_2 ⟨vS, rfl, hS0, hb2⟩
    have apSPll : ∀ g, vS.ownBlock = some g → g < w.heap.size ∨ _ ≤ g := fun g hg => Or.inr (Nat.le_trans szPll (World.ownsRow.lt hS0 g hg).1)
    have gbS := g1
    have hPll2 := hPll0.below hb2
    replace szPll := Nat.le_trans szPll hb2.size
    have g2 := bstep g1 hb2
    clear hb2 hPll0
    clear hPll2
    go_wp2_with fail
    refine (toT_any (RdT.below hll g2) hsll).mono ?_
    rintro e w_3 ⟨vXll, rfl, hXll0, hb3⟩
    have szXll := Nat.le_refl w_3.heap.size
    have apSXll : ∀ g, vS.ownBlock = some g → g < _ ∨ w_3.heap.size ≤ g := fun g hg => Or.inl (World.ownsRow.lt hS0 g hg).2
    have gbXll := g2
    have hS3 := ownS_below hS0 hb3
    have g3 := bstep g2 hb3
    clear hb3 hS0
    go_wp2_with fail
    refine (HI.out _ _ hXll0.rd).mono ?_
    rintro e w_4 ⟨vI, rfl, hI0, hb4⟩
    have apSI := apartS hS3 hI0
    have apIS := apartS' hS3 hI0
    have apIXll : ∀ g, vI.ownBlock = some g → g < w_2.heap.size ∨ _ ≤ g := fun g hg => Or.inr (Nat.le_trans szXll (World.ownsRow.lt hI0 g hg).1)
    have gbI := g3
    have hS4 := ownS_below hS3 hb4
    have hXll4 := hXll0.below hb4
    replace szXll := Nat.le_trans szXll hb4.size
    have g4 := bstep g3 hb4
    clear hb4 hS3 hXll0
    go_wp2_with fail
    refine (eqInts_same (Rd.of_own hI0) (Rd.of_own hS4)).mono ?_
    rintro e w_5 ⟨rfl, hb5⟩
    have hS5 := ownS_below hS4 hb5
    have hXll5 := hXll4.below hb5
    replace szXll := Nat.le_trans szXll hb5.size
    have hI5 := ownS_below hI0 hb5
    have g5 := bstep g4 hb5
    clear hb5 hS4 hXll4 hI0
    go_wp2_with fail
    refine (toT_any (RdT.below hll g5) hsll).mono ?_
    rintro e w_6 ⟨vT, rfl, hT0, hb6⟩
    have szT := Nat.le_refl w_6.heap.size
    have apST : ∀ g, vS.ownBlock = some g → g < _ ∨ w_6.heap.size ≤ g := fun g hg => Or.inl (World.ownsRow.lt hS5 g hg).2
    have apIT : ∀ g, vI.ownBlock = some g → g < _ ∨ w_6.heap.size ≤ g := fun g hg => Or.inl (World.ownsRow.lt hI5 g hg).2
    have gbT := g5
    have hS6 := ownS_below hS5 hb6
    have hXll6 := hXll5.below hb6
    replace szXll := Nat.le_trans szXll hb6.size
    have hI6 := ownS_below hI5 hb6
    have g6 := bstep g5 hb6
    clear hb6 hS5 hXll5 hI5
    go_wp2_with fail
    refine (eqT_same hXll6.rd hT0.rd).mono ?_
    rintro e w_7 ⟨rfl, hb7⟩
    have hS7 := ownS_below hS6 hb7
    have hXll7 := hXll6.below hb7
    replace szXll := Nat.le_trans szXll hb7.size
    have hI7 := ownS_below hI6 hb7
    have hT7 := hT0.below hb7
    replace szT := Nat.le_trans szT hb7.size
    have g7 := bstep g6 hb7
    clear hb7 hS6 hXll6 hI6 hT0
    clear hT7
    go_wp2_with fail
    refine (markT_any (1) (by omega) hXll7 (by omega)).mono ?_
    rintro e w_8 ⟨rfl, hk8⟩
    have hS8 := own_band hS7 hk8 apSXll
    have hI8 := own_band hI7 hk8 apIXll
    have g8 := Band.below g7 hk8 gbXll.size g7.size
    clear hk8 hXll7 hS7 hI7
    go_wp2_with fail
    refine (eqInts_same (Rd.of_own hI8) (Rd.of_own hS8)).mono ?_
    rintro e w_9 ⟨rfl, hb9⟩
    have hS9 := ownS_below hS8 hb9
    have hI9 := ownS_below hI8 hb9
    have g9 := bstep g8 hb9
    clear hb9 hS8 hI8
    go_wp2_with fail
    refine (markInts_any 1 (by omega) hI9).mono ?_
    rintro e w_10 ⟨rfl, hg10, ys, hy10, hmk10⟩
    have hS10 := World.ownsRow.kept hS9 hg10 apSI
    have g10 := g9.grown hg10 g9.size (fun k hk => Nat.le_trans gbI.size (hI9.lt k hk).1)
    have HMK := Lib.hid hmk10
    clear hmk10
    clear hg10 hI9 hS9
    go_wp2_with fail
    refine (heldInts_any 1 (by omega) (Rd.of_own hy10) HMK.out).mono ?_
    rintro e w_11 ⟨rfl, hb11⟩
    have hS11 := ownS_below hS10 hb11
    have hI11 := ownS_below hy10 hb11
    have g11 := bstep g10 hb11
    clear hb11 hS10 hy10
    go_wp2_with fail
    refine (toT_any (RdT.below hll g11) hsll).mono ?_
    rintro e w_12 ⟨vKll, rfl, hKll0, hb12⟩
    have szKll := Nat.le_refl w_12.heap.size
    have apSKll : ∀ g, vS.ownBlock = some g → g < _ ∨ w_12.heap.size ≤ g := fun g hg => Or.inl (World.ownsRow.lt hS11 g hg).2
    have apIKll : ∀ g, vI.ownBlock = some g → g < _ ∨ w_12.heap.size ≤ g := fun g hg => Or.inl (World.ownsRow.lt hI11 g hg).2
    have gbKll := g11
    have hS12 := ownS_below hS11 hb12
    have hI12 := ownS_below hI11 hb12
    have g12 := bstep g11 hb12
    clear hb12 hS11 hI11
    go_wp2_with fail
    refine (HI.out _ _ hKll0.rd).mono ?_
    rintro e w_13 ⟨vH, rfl, hH0, hb13⟩
    have apSH := apartS hS12 hH0
    have apHS := apartS' hS12 hH0
    have apIH := apartS hI12 hH0
    have apHI := apartS' hI12 hH0
    have apHKll : ∀ g, vH.ownBlock = some g → g < w_11.heap.size ∨ _ ≤ g := fun g hg => Or.inr (Nat.le_trans szKll (World.ownsRow.lt hH0 g hg).1)
    have gbH := g12
    have hS13 := ownS_below hS12 hb13
    have hI13 := ownS_below hI12 hb13
    have hKll13 := hKll0.below hb13
    replace szKll := Nat.le_trans szKll hb13.size
    have g13 := bstep g12 hb13
    clear hb13 hS12 hI12 hKll0
    clear hKll13
    go_wp2_with fail
    refine (eqInts_same (Rd.of_own hH0) (Rd.of_own hS13)).mono ?_
    rintro e w_14 ⟨rfl, hb14⟩
    have hS14 := ownS_below hS13 hb14
    have hI14 := ownS_below hI13 hb14
    have hH14 := ownS_below hH0 hb14
    have g14 := bstep g13 hb14
    clear hb14 hS13 hI13 hH0
    clear hH14
    clear hS14
    go_wp2_with fail
    refine (heldInts_any 1 (by omega) (Rd.of_own hI14) HMK.out).mono ?_
    rintro e w_15 ⟨rfl, hb15⟩
    have hI15 := ownS_below hI14 hb15
    have g15 := bstep g14 hb15
    clear hb15 hI14
    go_wp2
    go_ret
    exact ⟨rfl, g15⟩
  · go_enter Try.func10, Try.ntmps10
    go_wp2_with fail
    refine (szT_no hsll hll).mono ?_
    rintro e w0 ⟨rfl, rfl⟩
    go_wp2
    go_ret
    exact ⟨rfl, Below.refl _ _⟩

end Go.Proofs.Ytkciolegfonabaa
