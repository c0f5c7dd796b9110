/- The walks of chapter 9's exact laws: THE PROGRAM'S OWN CONTRACT IS A PREMISE (hI). Made by mk_exact.py. -/
import Derived.Test.YtdmjfdigaiokfaaMostSpec
import Derived.Test.YtdmjfdigaiokfaaNestOps
import Derived.Test.YtdmjfdigaiokfaaIntsArg
import Derived.Test.YtdmjfdigaiokfaaWalkKit
import Derived.Test.YtdmjfdigaiokfaaRdCapN
namespace Go.Proofs.Ytdmjfdigaiokfaa
open Go.ChangeShapes Go.WideShapes Go.ChangeAt Go.RowKit

theorem forallT {w : World} {v vc : Value} {ll : List (List (Int × Int))} {c : List Int} (r : Int) (h : RdT w v ll) (hc : Rd1 w vc c) : Calls Try.prog 20 #[v, vc, .int .i64 r] w fun e w' => e = .returned (.int .i64 (allI r ll c)) ∧ Below w.heap.size w w' := by
  obtain ⟨us, k⟩ := h; exact forall_any r k hc
theorem comballT {w : World} {v vc : Value} {ll : List (List (Int × Int))} {c : List Int} (r : Int) (h : RdT w v ll) (hc : Rd1 w vc c) : Calls Try.prog 25 #[v, vc, .int .i64 r] w (NewIntsB w (combAll r ll c).1 (combAll r ll c).2) := by
  obtain ⟨us, k⟩ := h; exact comball_any r k hc
theorem extraT {w : World} {v vc : Value} {ll : List (List (Int × Int))} {c : List Int} (k r : Int) (h : RdT w v ll) (hc : Rd1 w vc c) : Calls Try.prog 30 #[v, vc, .int .i64 k, .int .i64 r] w fun e w' => e = .returned (.int .i64 (extraI r ll c k)) ∧ Below w.heap.size w w' := by
  obtain ⟨us, q⟩ := h; exact extra_any k r q hc
theorem mostT {w : World} {v : Value} {ll : List (List (Int × Int))} (r teeth : Int) (h : RdT w v ll) : Calls Try.prog 29 #[v, .int .i64 r, .int .i64 teeth] w (NewIntsB w (mostM r ll teeth).1 (mostM r ll teeth).2) := by
  obtain ⟨us, k⟩ := h; exact most_any r teeth k
theorem combAll_len (r : Int) (ll : List (List (Int × Int))) (c : List Int) : (combAll r ll c).1.length ≤ 2440 := by
  unfold combAll; split
  · split
    · rename_i S hS
      have := combTo_le (n := needSL r ll S ll.length) (m := 40) (fun x hx => (needSL_le (allO_some hS).1 x hx).2) 61
      simpa using this
    · simp
  · simp
theorem mostTo_len (r : Int) (ll : List (List (Int × Int))) (teeth : Int) : ∀ k, (mostTo r ll teeth k).1.length ≤ 8
  | 0 => by simp [mostTo]
  | k + 1 => by
    have ih := mostTo_len r ll teeth k
    have hb := bitsTo_len (k + 1) 8
    rw [mostTo_succ]; unfold mostStep
    split
    · exact ih
    · split
      · exact hb
      · exact ih
theorem mostM_len (r : Int) (ll : List (List (Int × Int))) (teeth : Int) : (mostM r ll teeth).1.length ≤ 8 := by
  unfold mostM; split
  · exact mostTo_len r ll teeth _
  · simp
set_option maxHeartbeats 8000000 in
set_option maxRecDepth 100000 in
theorem exactall_walk {w : World} {qll qc : Value} {ll : List (List (Int × Int))} {c : List Int} (r : Int) (hI : ∀ (W : World) (U0 U1 : Value), RcT W U0 ll → Rd1 W U1 c → bulkN ll ≤ 1048576 → c.length ≤ 1048576 → Calls Try.prog 14 #[U0, U1, .int .i64 r] W (fun e w' => e = .returned (.int .i64 (allI r ll c)) ∧ Below W.heap.size W w')) (hll : RdT w qll ll) (hc : Rd1 w qc c) :
    Calls Try.prog 4 #[qll, qc, .int .i64 r] w fun e w' => e = .returned (.bool true) ∧ Below w.heap.size w w' := by
  obtain ⟨ad_ll, cap_ll, rfl⟩ := hll.slice
  obtain ⟨ad_c, cap_c, rfl⟩ := Rd.slice hc
  have hmc := hc.2.1
  unfold maxLen at hmc
  by_cases hsc : c.length ≤ 1048576
  · skip
    by_cases hsll : bulkN ll ≤ 1048576
    · skip
      have HI := Lib.hid (fun (W : World) (U0 U1 : Value) (pll : RcT W U0 ll) (pc : Rd1 W U1 c) => hI W U0 U1 pll pc hsll hsc)
      have HS := Lib.hid (fun (W : World) (U0 U1 : Value) (pll : RdT W U0 ll) (pc : Rd1 W U1 c) => forallT r pll pc)
      clear hI
      generalize (allI r ll c) = r0 at *
      go_enter Try.func4, Try.ntmps4
      go_wp2_with fail
      refine (szT_yes hsll hll).mono ?_
      rintro e w0 ⟨x0, hx0, rfl, rfl⟩
      obtain ⟨hqll, hrll⟩ := bulk_parts hsll
      have g0 := Below.refl w.heap.size w
      go_wp2_with fail
      refine (toT_any (RdT.below hll g0) hsll).mono ?_
      rintro e w_1 ⟨vPll, rfl, hPll0, hb1⟩
      have szPll := Nat.le_refl w_1.heap.size
      have gbPll := g0
      have g1 := bstep g0 hb1
      clear hb1 
      go_wp2_with fail
      refine (toInts_any (Rd.below hc g1) hsc).mono ?_
      rintro e w_2 ⟨vPc, rfl, hPc0, hb2⟩
      have apPcPll : ∀ g, vPc.ownBlock = some g → g < w.heap.size ∨ _ ≤ g := fun g hg => Or.inr (Nat.le_trans szPll (World.ownsRow.lt hPc0 g hg).1)
      have gbPc := g1
      have hPll2 := hPll0.below hb2
      replace szPll := Nat.le_trans szPll hb2.size
      have g2 := bstep g1 hb2
      clear hb2 hPll0
      go_wp2_with fail
      refine (HS.out _ _ _ hPll2.rd (Rd.of_own hPc0)).mono ?_
      rintro e w_3 ⟨rfl, hb3⟩
      have hPll3 := hPll2.below hb3
      replace szPll := Nat.le_trans szPll hb3.size
      have hPc3 := ownS_below hPc0 hb3
      have g3 := bstep g2 hb3
      clear hb3 hPll2 hPc0
      clear hPll3
      clear hPc3
      go_wp2_with fail
      refine (toT_any (RdT.below hll g3) hsll).mono ?_
      rintro e w_4 ⟨vXll, rfl, hXll0, hb4⟩
      have szXll := Nat.le_refl w_4.heap.size
      have gbXll := g3
      have g4 := bstep g3 hb4
      clear hb4 
      go_wp2_with fail
      refine (toInts_any (Rd.below hc g4) hsc).mono ?_
      rintro e w_5 ⟨vXc, rfl, hXc0, hb5⟩
      have apXcXll : ∀ g, vXc.ownBlock = some g → g < w_3.heap.size ∨ _ ≤ g := fun g hg => Or.inr (Nat.le_trans szXll (World.ownsRow.lt hXc0 g hg).1)
      have gbXc := g4
      have hXll5 := hXll0.below hb5
      replace szXll := Nat.le_trans szXll hb5.size
      have g5 := bstep g4 hb5
      clear hb5 hXll0
      go_wp2_with fail
      refine (HI.out _ _ _ hXll5.rc (Rd.of_own hXc0)).mono ?_
      rintro e w_6 ⟨rfl, hb6⟩
      have hXll6 := hXll5.below hb6
      replace szXll := Nat.le_trans szXll hb6.size
      have hXc6 := ownS_below hXc0 hb6
      have g6 := bstep g5 hb6
      clear hb6 hXll5 hXc0
      go_wp2_with fail
      refine (toT_any (RdT.below hll g6) hsll).mono ?_
      rintro e w_7 ⟨vT, rfl, hT0, hb7⟩
      have szT := Nat.le_refl w_7.heap.size
      have apXcT : ∀ g, vXc.ownBlock = some g → g < _ ∨ w_7.heap.size ≤ g := fun g hg => Or.inl (World.ownsRow.lt hXc6 g hg).2
      have gbT := g6
      have hXll7 := hXll6.below hb7
      replace szXll := Nat.le_trans szXll hb7.size
      have hXc7 := ownS_below hXc6 hb7
      have g7 := bstep g6 hb7
      clear hb7 hXll6 hXc6
      go_wp2_with fail
      refine (eqT_same hXll7.rd hT0.rd).mono ?_
      rintro e w_8 ⟨rfl, hb8⟩
      have hXll8 := hXll7.below hb8
      replace szXll := Nat.le_trans szXll hb8.size
      have hXc8 := ownS_below hXc7 hb8
      have hT8 := hT0.below hb8
      replace szT := Nat.le_trans szT hb8.size
      have g8 := bstep g7 hb8
      clear hb8 hXll7 hXc7 hT0
      clear hT8
      go_wp2_with fail
      refine (toInts_any (Rd.below hc g8) hsc).mono ?_
      rintro e w_9 ⟨vT, rfl, hT0, hb9⟩
      have apTXll : ∀ g, vT.ownBlock = some g → g < w_3.heap.size ∨ _ ≤ g := fun g hg => Or.inr (Nat.le_trans szXll (World.ownsRow.lt hT0 g hg).1)
      have apXcT := apartS hXc8 hT0
      have apTXc := apartS' hXc8 hT0
      have gbT := g8
      have hXll9 := hXll8.below hb9
      replace szXll := Nat.le_trans szXll hb9.size
      have hXc9 := ownS_below hXc8 hb9
      have g9 := bstep g8 hb9
      clear hb9 hXll8 hXc8
      go_wp2_with fail
      refine (eqInts_same (Rd.of_own hXc9) (Rd.of_own hT0)).mono ?_
      rintro e w_10 ⟨rfl, hb10⟩
      have hXll10 := hXll9.below hb10
      replace szXll := Nat.le_trans szXll hb10.size
      have hXc10 := ownS_below hXc9 hb10
      have hT10 := ownS_below hT0 hb10
      have g10 := bstep g9 hb10
      clear hb10 hXll9 hXc9 hT0
      clear hT10
      go_wp2
      go_ret
      exact ⟨rfl, g10⟩
    · go_enter Try.func4, Try.ntmps4
      go_wp2_with fail
      refine (szT_no hsll hll).mono ?_
      rintro e w0 ⟨rfl, rfl⟩
      go_wp2
      go_ret
      exact ⟨rfl, Below.refl _ _⟩
  · go_enter Try.func4, Try.ntmps4
    go_wp2
    go_ret
    exact ⟨rfl, Below.refl _ _⟩

set_option maxHeartbeats 8000000 in
set_option maxRecDepth 100000 in
theorem exactcomball_walk {w : World} {qll qc : Value} {ll : List (List (Int × Int))} {c : List Int} (r : Int) (hI : ∀ (W : World) (U0 U1 : Value), RcT W U0 ll → Rd1 W U1 c → bulkN ll ≤ 1048576 → c.length ≤ 1048576 → Calls Try.prog 17 #[U0, U1, .int .i64 r] W (NewIntsB W (combAll r ll c).1 (combAll r ll c).2)) (hll : RdT w qll ll) (hc : Rd1 w qc c) :
    Calls Try.prog 5 #[qll, qc, .int .i64 r] w fun e w' => e = .returned (.bool true) ∧ Below w.heap.size w w' := by
  obtain ⟨ad_ll, cap_ll, rfl⟩ := hll.slice
  obtain ⟨ad_c, cap_c, rfl⟩ := Rd.slice hc
  have hmc := hc.2.1
  unfold maxLen at hmc
  by_cases hsc : c.length ≤ 1048576
  · skip
    by_cases hsll : bulkN ll ≤ 1048576
    · skip
      have HI := Lib.hid (fun (W : World) (U0 U1 : Value) (pll : RcT W U0 ll) (pc : Rd1 W U1 c) => hI W U0 U1 pll pc hsll hsc)
      have HS := Lib.hid (fun (W : World) (U0 U1 : Value) (pll : RdT W U0 ll) (pc : Rd1 W U1 c) => comballT r pll pc)
      clear hI
      have hbd : (combAll r ll c).1.length ≤ 1048576 := Nat.le_trans (combAll_len r ll c) (by omega)
      generalize (combAll r ll c).1 = R at *
      generalize (combAll r ll c).2 = tb at *
      go_enter Try.func5, Try.ntmps5
      go_wp2_with fail
      refine (szT_yes hsll hll).mono ?_
      rintro e w0 ⟨x0, hx0, rfl, rfl⟩
      obtain ⟨hqll, hrll⟩ := bulk_parts hsll
      have g0 := Below.refl w.heap.size w
      go_wp2_with fail
      refine (toT_any (RdT.below hll g0) hsll).mono ?_
      rintro e w_1 ⟨vPll, rfl, hPll0, hb1⟩
      have szPll := Nat.le_refl w_1.heap.size
      have gbPll := g0
      have g1 := bstep g0 hb1
      clear hb1 
      go_wp2_with fail
      refine (toInts_any (Rd.below hc g1) hsc).mono ?_
      rintro e w_2 ⟨vPc, rfl, hPc0, hb2⟩
      have apPcPll : ∀ g, vPc.ownBlock = some g → g < w.heap.size ∨ _ ≤ g := fun g hg => Or.inr (Nat.le_trans szPll (World.ownsRow.lt hPc0 g hg).1)
      have gbPc := g1
      have hPll2 := hPll0.below hb2
      replace szPll := Nat.le_trans szPll hb2.size
      have g2 := bstep g1 hb2
      clear hb2 hPll0
      go_wp2_with fail
      refine (HS.out _ _ _ hPll2.rd (Rd.of_own hPc0)).mono ?_
      rintro e w_3 ⟨vS, rfl, hS0, hb3⟩
      have apSPll : ∀ g, vS.ownBlock = some g → g < w.heap.size ∨ _ ≤ g := fun g hg => Or.inr (Nat.le_trans szPll (World.ownsRow.lt hS0 g hg).1)
      have apPcS := apartS hPc0 hS0
      have apSPc := apartS' hPc0 hS0
      have gbS := g2
      have hPll3 := hPll2.below hb3
      replace szPll := Nat.le_trans szPll hb3.size
      have hPc3 := ownS_below hPc0 hb3
      have g3 := bstep g2 hb3
      clear hb3 hPll2 hPc0
      clear hPll3
      clear hPc3
      go_wp2_with fail
      refine (toT_any (RdT.below hll g3) hsll).mono ?_
      rintro e w_4 ⟨vXll, rfl, hXll0, hb4⟩
      have szXll := Nat.le_refl w_4.heap.size
      have apSXll : ∀ g, vS.ownBlock = some g → g < _ ∨ w_4.heap.size ≤ g := fun g hg => Or.inl (World.ownsRow.lt hS0 g hg).2
      have gbXll := g3
      have hS4 := ownS_below hS0 hb4
      have g4 := bstep g3 hb4
      clear hb4 hS0
      go_wp2_with fail
      refine (toInts_any (Rd.below hc g4) hsc).mono ?_
      rintro e w_5 ⟨vXc, rfl, hXc0, hb5⟩
      have apSXc := apartS hS4 hXc0
      have apXcS := apartS' hS4 hXc0
      have apXcXll : ∀ g, vXc.ownBlock = some g → g < w_3.heap.size ∨ _ ≤ g := fun g hg => Or.inr (Nat.le_trans szXll (World.ownsRow.lt hXc0 g hg).1)
      have gbXc := g4
      have hS5 := ownS_below hS4 hb5
      have hXll5 := hXll0.below hb5
      replace szXll := Nat.le_trans szXll hb5.size
      have g5 := bstep g4 hb5
      clear hb5 hS4 hXll0
      go_wp2_with fail
      refine (HI.out _ _ _ hXll5.rc (Rd.of_own hXc0)).mono ?_
      rintro e w_6 ⟨vI, rfl, hI0, hb6⟩
      have apSI := apartS hS5 hI0
      have apIS := apartS' hS5 hI0
      have apIXll : ∀ g, vI.ownBlock = some g → g < w_3.heap.size ∨ _ ≤ g := fun g hg => Or.inr (Nat.le_trans szXll (World.ownsRow.lt hI0 g hg).1)
      have apXcI := apartS hXc0 hI0
      have apIXc := apartS' hXc0 hI0
      have gbI := g5
      have hS6 := ownS_below hS5 hb6
      have hXll6 := hXll5.below hb6
      replace szXll := Nat.le_trans szXll hb6.size
      have hXc6 := ownS_below hXc0 hb6
      have g6 := bstep g5 hb6
      clear hb6 hS5 hXll5 hXc0
      go_wp2_with fail
      refine (eqInts_same (Rd.of_own hI0) (Rd.of_own hS6)).mono ?_
      rintro e w_7 ⟨rfl, hb7⟩
      have hS7 := ownS_below hS6 hb7
      have hXll7 := hXll6.below hb7
      replace szXll := Nat.le_trans szXll hb7.size
      have hXc7 := ownS_below hXc6 hb7
      have hI7 := ownS_below hI0 hb7
      have g7 := bstep g6 hb7
      clear hb7 hS6 hXll6 hXc6 hI0
      go_wp2_with fail
      refine (toT_any (RdT.below hll g7) hsll).mono ?_
      rintro e w_8 ⟨vT, rfl, hT0, hb8⟩
      have szT := Nat.le_refl w_8.heap.size
      have apST : ∀ g, vS.ownBlock = some g → g < _ ∨ w_8.heap.size ≤ g := fun g hg => Or.inl (World.ownsRow.lt hS7 g hg).2
      have apXcT : ∀ g, vXc.ownBlock = some g → g < _ ∨ w_8.heap.size ≤ g := fun g hg => Or.inl (World.ownsRow.lt hXc7 g hg).2
      have apIT : ∀ g, vI.ownBlock = some g → g < _ ∨ w_8.heap.size ≤ g := fun g hg => Or.inl (World.ownsRow.lt hI7 g hg).2
      have gbT := g7
      have hS8 := ownS_below hS7 hb8
      have hXll8 := hXll7.below hb8
      replace szXll := Nat.le_trans szXll hb8.size
      have hXc8 := ownS_below hXc7 hb8
      have hI8 := ownS_below hI7 hb8
      have g8 := bstep g7 hb8
      clear hb8 hS7 hXll7 hXc7 hI7
      go_wp2_with fail
      refine (eqT_same hXll8.rd hT0.rd).mono ?_
      rintro e w_9 ⟨rfl, hb9⟩
      have hS9 := ownS_below hS8 hb9
      have hXll9 := hXll8.below hb9
      replace szXll := Nat.le_trans szXll hb9.size
      have hXc9 := ownS_below hXc8 hb9
      have hI9 := ownS_below hI8 hb9
      have hT9 := hT0.below hb9
      replace szT := Nat.le_trans szT hb9.size
      have g9 := bstep g8 hb9
      clear hb9 hS8 hXll8 hXc8 hI8 hT0
      clear hT9
      go_wp2_with fail
      refine (toInts_any (Rd.below hc g9) hsc).mono ?_
      rintro e w_10 ⟨vT, rfl, hT0, hb10⟩
      have apST := apartS hS9 hT0
      have apTS := apartS' hS9 hT0
      have apTXll : ∀ g, vT.ownBlock = some g → g < w_3.heap.size ∨ _ ≤ g := fun g hg => Or.inr (Nat.le_trans szXll (World.ownsRow.lt hT0 g hg).1)
      have apXcT := apartS hXc9 hT0
      have apTXc := apartS' hXc9 hT0
      have apIT := apartS hI9 hT0
      have apTI := apartS' hI9 hT0
      have gbT := g9
      have hS10 := ownS_below hS9 hb10
      have hXll10 := hXll9.below hb10
      replace szXll := Nat.le_trans szXll hb10.size
      have hXc10 := ownS_below hXc9 hb10
      have hI10 := ownS_below hI9 hb10
      have g10 := bstep g9 hb10
      clear hb10 hS9 hXll9 hXc9 hI9
      go_wp2_with fail
      refine (eqInts_same (Rd.of_own hXc10) (Rd.of_own hT0)).mono ?_
      rintro e w_11 ⟨rfl, hb11⟩
      have hS11 := ownS_below hS10 hb11
      have hXll11 := hXll10.below hb11
      replace szXll := Nat.le_trans szXll hb11.size
      have hXc11 := ownS_below hXc10 hb11
      have hI11 := ownS_below hI10 hb11
      have hT11 := ownS_below hT0 hb11
      have g11 := bstep g10 hb11
      clear hb11 hS10 hXll10 hXc10 hI10 hT0
      clear hT11
      go_wp2_with fail
      refine (markT_any (1) (by omega) hXll11 (by omega)).mono ?_
      rintro e w_12 ⟨rfl, hk12⟩
      have hS12 := own_band hS11 hk12 apSXll
      have hXc12 := own_band hXc11 hk12 apXcXll
      have hI12 := own_band hI11 hk12 apIXll
      have g12 := Band.below g11 hk12 gbXll.size g11.size
      clear hk12 hXll11 hS11 hXc11 hI11
      go_wp2_with fail
      refine (markInts_any (1 + lensN ll * 2) (by omega) hXc12).mono ?_
      rintro e w_13 ⟨rfl, hg13, _⟩
      have hS13 := World.ownsRow.kept hS12 hg13 apSXc
      have hI13 := World.ownsRow.kept hI12 hg13 apIXc
      have g13 := g12.grown hg13 g12.size (fun k hk => Nat.le_trans gbXc.size (hXc12.lt k hk).1)
      clear hg13 hXc12 hS12 hI12
      go_wp2_with fail
      refine (eqInts_same (Rd.of_own hI13) (Rd.of_own hS13)).mono ?_
      rintro e w_14 ⟨rfl, hb14⟩
      have hS14 := ownS_below hS13 hb14
      have hI14 := ownS_below hI13 hb14
      have g14 := bstep g13 hb14
      clear hb14 hS13 hI13
      go_wp2_with fail
      refine (markInts_any 1 (by omega) hI14).mono ?_
      rintro e w_15 ⟨rfl, hg15, ys, hy15, hmk15⟩
      have hS15 := World.ownsRow.kept hS14 hg15 apSI
      have g15 := g14.grown hg15 g14.size (fun k hk => Nat.le_trans gbI.size (hI14.lt k hk).1)
      have HMK := Lib.hid hmk15
      clear hmk15
      clear hg15 hI14 hS14
      go_wp2_with fail
      refine (heldInts_any 1 (by omega) (Rd.of_own hy15) HMK.out).mono ?_
      rintro e w_16 ⟨rfl, hb16⟩
      have hS16 := ownS_below hS15 hb16
      have hI16 := ownS_below hy15 hb16
      have g16 := bstep g15 hb16
      clear hb16 hS15 hy15
      go_wp2_with fail
      refine (toT_any (RdT.below hll g16) hsll).mono ?_
      rintro e w_17 ⟨vKll, rfl, hKll0, hb17⟩
      have szKll := Nat.le_refl w_17.heap.size
      have apSKll : ∀ g, vS.ownBlock = some g → g < _ ∨ w_17.heap.size ≤ g := fun g hg => Or.inl (World.ownsRow.lt hS16 g hg).2
      have apIKll : ∀ g, vI.ownBlock = some g → g < _ ∨ w_17.heap.size ≤ g := fun g hg => Or.inl (World.ownsRow.lt hI16 g hg).2
      have gbKll := g16
      have hS17 := ownS_below hS16 hb17
      have hI17 := ownS_below hI16 hb17
      have g17 := bstep g16 hb17
      clear hb17 hS16 hI16
      go_wp2_with fail
      refine (toInts_any (Rd.below hc g17) hsc).mono ?_
      rintro e w_18 ⟨vKc, rfl, hKc0, hb18⟩
      have apSKc := apartS hS17 hKc0
      have apKcS := apartS' hS17 hKc0
      have apIKc := apartS hI17 hKc0
      have apKcI := apartS' hI17 hKc0
      have apKcKll : ∀ g, vKc.ownBlock = some g → g < w_16.heap.size ∨ _ ≤ g := fun g hg => Or.inr (Nat.le_trans szKll (World.ownsRow.lt hKc0 g hg).1)
      have gbKc := g17
      have hS18 := ownS_below hS17 hb18
      have hI18 := ownS_below hI17 hb18
      have hKll18 := hKll0.below hb18
      replace szKll := Nat.le_trans szKll hb18.size
      have g18 := bstep g17 hb18
      clear hb18 hS17 hI17 hKll0
      go_wp2_with fail
      refine (HI.out _ _ _ hKll18.rc (Rd.of_own hKc0)).mono ?_
      rintro e w_19 ⟨vH, rfl, hH0, hb19⟩
      have apSH := apartS hS18 hH0
      have apHS := apartS' hS18 hH0
      have apIH := apartS hI18 hH0
      have apHI := apartS' hI18 hH0
      have apHKll : ∀ g, vH.ownBlock = some g → g < w_16.heap.size ∨ _ ≤ g := fun g hg => Or.inr (Nat.le_trans szKll (World.ownsRow.lt hH0 g hg).1)
      have apKcH := apartS hKc0 hH0
      have apHKc := apartS' hKc0 hH0
      have gbH := g18
      have hS19 := ownS_below hS18 hb19
      have hI19 := ownS_below hI18 hb19
      have hKll19 := hKll18.below hb19
      replace szKll := Nat.le_trans szKll hb19.size
      have hKc19 := ownS_below hKc0 hb19
      have g19 := bstep g18 hb19
      clear hb19 hS18 hI18 hKll18 hKc0
      clear hKll19
      clear hKc19
      go_wp2_with fail
      refine (eqInts_same (Rd.of_own hH0) (Rd.of_own hS19)).mono ?_
      rintro e w_20 ⟨rfl, hb20⟩
      have hS20 := ownS_below hS19 hb20
      have hI20 := ownS_below hI19 hb20
      have hH20 := ownS_below hH0 hb20
      have g20 := bstep g19 hb20
      clear hb20 hS19 hI19 hH0
      clear hH20
      clear hS20
      go_wp2_with fail
      refine (heldInts_any 1 (by omega) (Rd.of_own hI20) HMK.out).mono ?_
      rintro e w_21 ⟨rfl, hb21⟩
      have hI21 := ownS_below hI20 hb21
      have g21 := bstep g20 hb21
      clear hb21 hI20
      go_wp2
      go_ret
      exact ⟨rfl, g21⟩
    · go_enter Try.func5, Try.ntmps5
      go_wp2_with fail
      refine (szT_no hsll hll).mono ?_
      rintro e w0 ⟨rfl, rfl⟩
      go_wp2
      go_ret
      exact ⟨rfl, Below.refl _ _⟩
  · go_enter Try.func5, Try.ntmps5
    go_wp2
    go_ret
    exact ⟨rfl, Below.refl _ _⟩

set_option maxHeartbeats 8000000 in
set_option maxRecDepth 100000 in
theorem exactextra_walk {w : World} {qll qc : Value} {ll : List (List (Int × Int))} {c : List Int} (k : Int) (r : Int) (hI : ∀ (W : World) (U0 U1 : Value), RcT W U0 ll → Rd1 W U1 c → bulkN ll ≤ 1048576 → c.length ≤ 1048576 → Calls Try.prog 15 #[U0, U1, .int .i64 k, .int .i64 r] W (fun e w' => e = .returned (.int .i64 (extraI r ll c k)) ∧ Below W.heap.size W w')) (hll : RdT w qll ll) (hc : Rd1 w qc c) :
    Calls Try.prog 7 #[qll, qc, .int .i64 k, .int .i64 r] w fun e w' => e = .returned (.bool true) ∧ Below w.heap.size w w' := by
  obtain ⟨ad_ll, cap_ll, rfl⟩ := hll.slice
  obtain ⟨ad_c, cap_c, rfl⟩ := Rd.slice hc
  have hmc := hc.2.1
  unfold maxLen at hmc
  by_cases hsc : c.length ≤ 1048576
  · skip
    by_cases hsll : bulkN ll ≤ 1048576
    · skip
      have HI := Lib.hid (fun (W : World) (U0 U1 : Value) (pll : RcT W U0 ll) (pc : Rd1 W U1 c) => hI W U0 U1 pll pc hsll hsc)
      have HS := Lib.hid (fun (W : World) (U0 U1 : Value) (pll : RdT W U0 ll) (pc : Rd1 W U1 c) => extraT k r pll pc)
      clear hI
      generalize (extraI r ll c k) = r0 at *
      go_enter Try.func7, Try.ntmps7
      go_wp2_with fail
      refine (szT_yes hsll hll).mono ?_
      rintro e w0 ⟨x0, hx0, rfl, rfl⟩
      obtain ⟨hqll, hrll⟩ := bulk_parts hsll
      have g0 := Below.refl w.heap.size w
      go_wp2_with fail
      refine (toT_any (RdT.below hll g0) hsll).mono ?_
      rintro e w_1 ⟨vPll, rfl, hPll0, hb1⟩
      have szPll := Nat.le_refl w_1.heap.size
      have gbPll := g0
      have g1 := bstep g0 hb1
      clear hb1 
      go_wp2_with fail
      refine (toInts_any (Rd.below hc g1) hsc).mono ?_
      rintro e w_2 ⟨vPc, rfl, hPc0, hb2⟩
      have apPcPll : ∀ g, vPc.ownBlock = some g → g < w.heap.size ∨ _ ≤ g := fun g hg => Or.inr (Nat.le_trans szPll (World.ownsRow.lt hPc0 g hg).1)
      have gbPc := g1
      have hPll2 := hPll0.below hb2
      replace szPll := Nat.le_trans szPll hb2.size
      have g2 := bstep g1 hb2
      clear hb2 hPll0
      go_wp2_with fail
      refine (HS.out _ _ _ hPll2.rd (Rd.of_own hPc0)).mono ?_
      rintro e w_3 ⟨rfl, hb3⟩
      have hPll3 := hPll2.below hb3
      replace szPll := Nat.le_trans szPll hb3.size
      have hPc3 := ownS_below hPc0 hb3
      have g3 := bstep g2 hb3
      clear hb3 hPll2 hPc0
      clear hPll3
      clear hPc3
      go_wp2_with fail
      refine (toT_any (RdT.below hll g3) hsll).mono ?_
      rintro e w_4 ⟨vXll, rfl, hXll0, hb4⟩
      have szXll := Nat.le_refl w_4.heap.size
      have gbXll := g3
      have g4 := bstep g3 hb4
      clear hb4 
      go_wp2_with fail
      refine (toInts_any (Rd.below hc g4) hsc).mono ?_
      rintro e w_5 ⟨vXc, rfl, hXc0, hb5⟩
      have apXcXll : ∀ g, vXc.ownBlock = some g → g < w_3.heap.size ∨ _ ≤ g := fun g hg => Or.inr (Nat.le_trans szXll (World.ownsRow.lt hXc0 g hg).1)
      have gbXc := g4
      have hXll5 := hXll0.below hb5
      replace szXll := Nat.le_trans szXll hb5.size
      have g5 := bstep g4 hb5
      clear hb5 hXll0
      go_wp2_with fail
      refine (HI.out _ _ _ hXll5.rc (Rd.of_own hXc0)).mono ?_
      rintro e w_6 ⟨rfl, hb6⟩
      have hXll6 := hXll5.below hb6
      replace szXll := Nat.le_trans szXll hb6.size
      have hXc6 := ownS_below hXc0 hb6
      have g6 := bstep g5 hb6
      clear hb6 hXll5 hXc0
      go_wp2_with fail
      refine (toT_any (RdT.below hll g6) hsll).mono ?_
      rintro e w_7 ⟨vT, rfl, hT0, hb7⟩
      have szT := Nat.le_refl w_7.heap.size
      have apXcT : ∀ g, vXc.ownBlock = some g → g < _ ∨ w_7.heap.size ≤ g := fun g hg => Or.inl (World.ownsRow.lt hXc6 g hg).2
      have gbT := g6
      have hXll7 := hXll6.below hb7
      replace szXll := Nat.le_trans szXll hb7.size
      have hXc7 := ownS_below hXc6 hb7
      have g7 := bstep g6 hb7
      clear hb7 hXll6 hXc6
      go_wp2_with fail
      refine (eqT_same hXll7.rd hT0.rd).mono ?_
      rintro e w_8 ⟨rfl, hb8⟩
      have hXll8 := hXll7.below hb8
      replace szXll := Nat.le_trans szXll hb8.size
      have hXc8 := ownS_below hXc7 hb8
      have hT8 := hT0.below hb8
      replace szT := Nat.le_trans szT hb8.size
      have g8 := bstep g7 hb8
      clear hb8 hXll7 hXc7 hT0
      clear hT8
      go_wp2_with fail
      refine (toInts_any (Rd.below hc g8) hsc).mono ?_
      rintro e w_9 ⟨vT, rfl, hT0, hb9⟩
      have apTXll : ∀ g, vT.ownBlock = some g → g < w_3.heap.size ∨ _ ≤ g := fun g hg => Or.inr (Nat.le_trans szXll (World.ownsRow.lt hT0 g hg).1)
      have apXcT := apartS hXc8 hT0
      have apTXc := apartS' hXc8 hT0
      have gbT := g8
      have hXll9 := hXll8.below hb9
      replace szXll := Nat.le_trans szXll hb9.size
      have hXc9 := ownS_below hXc8 hb9
      have g9 := bstep g8 hb9
      clear hb9 hXll8 hXc8
      go_wp2_with fail
      refine (eqInts_same (Rd.of_own hXc9) (Rd.of_own hT0)).mono ?_
      rintro e w_10 ⟨rfl, hb10⟩
      have hXll10 := hXll9.below hb10
      replace szXll := Nat.le_trans szXll hb10.size
      have hXc10 := ownS_below hXc9 hb10
      have hT10 := ownS_below hT0 hb10
      have g10 := bstep g9 hb10
      clear hb10 hXll9 hXc9 hT0
      clear hT10
      go_wp2
      go_ret
      exact ⟨rfl, g10⟩
    · go_enter Try.func7, Try.ntmps7
      go_wp2_with fail
      refine (szT_no hsll hll).mono ?_
      rintro e w0 ⟨rfl, rfl⟩
      go_wp2
      go_ret
      exact ⟨rfl, Below.refl _ _⟩
  · go_enter Try.func7, Try.ntmps7
    go_wp2
    go_ret
    exact ⟨rfl, Below.refl _ _⟩

set_option maxHeartbeats 8000000 in
set_option maxRecDepth 100000 in
theorem exactmost_walk {w : World} {qll : Value} {ll : List (List (Int × Int))} (r : Int) (teeth : Int) (hI : ∀ (W : World) (U0 : Value), RcT W U0 ll → bulkN ll ≤ 1048576 → Calls Try.prog 13 #[U0, .int .i64 r, .int .i64 teeth] W (NewIntsB W (mostM r ll teeth).1 (mostM r ll teeth).2)) (hll : RdT w qll ll) :
    Calls Try.prog 6 #[qll, .int .i64 r, .int .i64 teeth] w fun e w' => e = .returned (.bool true) ∧ Below w.heap.size w w' := by
  obtain ⟨ad_ll, cap_ll, rfl⟩ := hll.slice
  by_cases hsll : bulkN ll ≤ 1048576
  · skip
    have HI := Lib.hid (fun (W : World) (U0 : Value) (pll : RcT W U0 ll) => hI W U0 pll hsll)
    have HS := Lib.hid (fun (W : World) (U0 : Value) (pll : RdT W U0 ll) => mostT r teeth pll)
    clear hI
    have hbd : (mostM r ll teeth).1.length ≤ 1048576 := Nat.le_trans (mostM_len r ll teeth) (by omega)
    generalize (mostM r ll teeth).1 = R at *
    generalize (mostM r ll teeth).2 = tb at *
    go_enter Try.func6, Try.ntmps6
    go_wp2_with fail
    refine (szT_yes hsll hll).mono ?_
    rintro e w0 ⟨x0, hx0, rfl, rfl⟩
    obtain ⟨hqll, hrll⟩ := bulk_parts hsll
    have g0 := Below.refl w.heap.size w
    go_wp2_with fail
    refine (toT_any (RdT.below hll g0) hsll).mono ?_
    rintro e w_1 ⟨vPll, rfl, hPll0, hb1⟩
    have szPll := Nat.le_refl w_1.heap.size
    have gbPll := g0
    have g1 := bstep g0 hb1
    clear hb1 
    go_wp2_with fail
    refine (HS.out _ _ hPll0.rd).mono ?_
    rintro e w_2 ⟨vS, rfl, hS0, hb2⟩
    have apSPll : ∀ g, vS.ownBlock = some g → g < w.heap.size ∨ _ ≤ g := fun g hg => Or.inr (Nat.le_trans szPll (World.ownsRow.lt hS0 g hg).1)
    have gbS := g1
    have hPll2 := hPll0.below hb2
    replace szPll := Nat.le_trans szPll hb2.size
    have g2 := bstep g1 hb2
    clear hb2 hPll0
    clear hPll2
    go_wp2_with fail
    refine (toT_any (RdT.below hll g2) hsll).mono ?_
    rintro e w_3 ⟨vXll, rfl, hXll0, hb3⟩
    have szXll := Nat.le_refl w_3.heap.size
    have apSXll : ∀ g, vS.ownBlock = some g → g < _ ∨ w_3.heap.size ≤ g := fun g hg => Or.inl (World.ownsRow.lt hS0 g hg).2
    have gbXll := g2
    have hS3 := ownS_below hS0 hb3
    have g3 := bstep g2 hb3
    clear hb3 hS0
    go_wp2_with fail
    refine (HI.out _ _ hXll0.rc).mono ?_
    rintro e w_4 ⟨vI, rfl, hI0, hb4⟩
    have apSI := apartS hS3 hI0
    have apIS := apartS' hS3 hI0
    have apIXll : ∀ g, vI.ownBlock = some g → g < w_2.heap.size ∨ _ ≤ g := fun g hg => Or.inr (Nat.le_trans szXll (World.ownsRow.lt hI0 g hg).1)
    have gbI := g3
    have hS4 := ownS_below hS3 hb4
    have hXll4 := hXll0.below hb4
    replace szXll := Nat.le_trans szXll hb4.size
    have g4 := bstep g3 hb4
    clear hb4 hS3 hXll0
    go_wp2_with fail
    refine (eqInts_same (Rd.of_own hI0) (Rd.of_own hS4)).mono ?_
    rintro e w_5 ⟨rfl, hb5⟩
    have hS5 := ownS_below hS4 hb5
    have hXll5 := hXll4.below hb5
    replace szXll := Nat.le_trans szXll hb5.size
    have hI5 := ownS_below hI0 hb5
    have g5 := bstep g4 hb5
    clear hb5 hS4 hXll4 hI0
    go_wp2_with fail
    refine (toT_any (RdT.below hll g5) hsll).mono ?_
    rintro e w_6 ⟨vT, rfl, hT0, hb6⟩
    have szT := Nat.le_refl w_6.heap.size
    have apST : ∀ g, vS.ownBlock = some g → g < _ ∨ w_6.heap.size ≤ g := fun g hg => Or.inl (World.ownsRow.lt hS5 g hg).2
    have apIT : ∀ g, vI.ownBlock = some g → g < _ ∨ w_6.heap.size ≤ g := fun g hg => Or.inl (World.ownsRow.lt hI5 g hg).2
    have gbT := g5
    have hS6 := ownS_below hS5 hb6
    have hXll6 := hXll5.below hb6
    replace szXll := Nat.le_trans szXll hb6.size
    have hI6 := ownS_below hI5 hb6
    have g6 := bstep g5 hb6
    clear hb6 hS5 hXll5 hI5
    go_wp2_with fail
    refine (eqT_same hXll6.rd hT0.rd).mono ?_
    rintro e w_7 ⟨rfl, hb7⟩
    have hS7 := ownS_below hS6 hb7
    have hXll7 := hXll6.below hb7
    replace szXll := Nat.le_trans szXll hb7.size
    have hI7 := ownS_below hI6 hb7
    have hT7 := hT0.below hb7
    replace szT := Nat.le_trans szT hb7.size
    have g7 := bstep g6 hb7
    clear hb7 hS6 hXll6 hI6 hT0
    clear hT7
    go_wp2_with fail
    refine (markT_any (1) (by omega) hXll7 (by omega)).mono ?_
    rintro e w_8 ⟨rfl, hk8⟩
    have hS8 := own_band hS7 hk8 apSXll
    have hI8 := own_band hI7 hk8 apIXll
    have g8 := Band.below g7 hk8 gbXll.size g7.size
    clear hk8 hXll7 hS7 hI7
    go_wp2_with fail
    refine (eqInts_same (Rd.of_own hI8) (Rd.of_own hS8)).mono ?_
    rintro e w_9 ⟨rfl, hb9⟩
    have hS9 := ownS_below hS8 hb9
    have hI9 := ownS_below hI8 hb9
    have g9 := bstep g8 hb9
    clear hb9 hS8 hI8
    go_wp2_with fail
    refine (markInts_any 1 (by omega) hI9).mono ?_
    rintro e w_10 ⟨rfl, hg10, ys, hy10, hmk10⟩
    have hS10 := World.ownsRow.kept hS9 hg10 apSI
    have g10 := g9.grown hg10 g9.size (fun k hk => Nat.le_trans gbI.size (hI9.lt k hk).1)
    have HMK := Lib.hid hmk10
    clear hmk10
    clear hg10 hI9 hS9
    go_wp2_with fail
    refine (heldInts_any 1 (by omega) (Rd.of_own hy10) HMK.out).mono ?_
    rintro e w_11 ⟨rfl, hb11⟩
    have hS11 := ownS_below hS10 hb11
    have hI11 := ownS_below hy10 hb11
    have g11 := bstep g10 hb11
    clear hb11 hS10 hy10
    go_wp2_with fail
    refine (toT_any (RdT.below hll g11) hsll).mono ?_
    rintro e w_12 ⟨vKll, rfl, hKll0, hb12⟩
    have szKll := Nat.le_refl w_12.heap.size
    have apSKll : ∀ g, vS.ownBlock = some g → g < _ ∨ w_12.heap.size ≤ g := fun g hg => Or.inl (World.ownsRow.lt hS11 g hg).2
    have apIKll : ∀ g, vI.ownBlock = some g → g < _ ∨ w_12.heap.size ≤ g := fun g hg => Or.inl (World.ownsRow.lt hI11 g hg).2
    have gbKll := g11
    have hS12 := ownS_below hS11 hb12
    have hI12 := ownS_below hI11 hb12
    have g12 := bstep g11 hb12
    clear hb12 hS11 hI11
    go_wp2_with fail
    refine (HI.out _ _ hKll0.rc).mono ?_
    rintro e w_13 ⟨vH, rfl, hH0, hb13⟩
    have apSH := apartS hS12 hH0
    have apHS := apartS' hS12 hH0
    have apIH := apartS hI12 hH0
    have apHI := apartS' hI12 hH0
    have apHKll : ∀ g, vH.ownBlock = some g → g < w_11.heap.size ∨ _ ≤ g := fun g hg => Or.inr (Nat.le_trans szKll (World.ownsRow.lt hH0 g hg).1)
    have gbH := g12
    have hS13 := ownS_below hS12 hb13
    have hI13 := ownS_below hI12 hb13
    have hKll13 := hKll0.below hb13
    replace szKll := Nat.le_trans szKll hb13.size
    have g13 := bstep g12 hb13
    clear hb13 hS12 hI12 hKll0
    clear hKll13
    go_wp2_with fail
    refine (eqInts_same (Rd.of_own hH0) (Rd.of_own hS13)).mono ?_
    rintro e w_14 ⟨rfl, hb14⟩
    have hS14 := ownS_below hS13 hb14
    have hI14 := ownS_below hI13 hb14
    have hH14 := ownS_below hH0 hb14
    have g14 := bstep g13 hb14
    clear hb14 hS13 hI13 hH0
    clear hH14
    clear hS14
    go_wp2_with fail
    refine (heldInts_any 1 (by omega) (Rd.of_own hI14) HMK.out).mono ?_
    rintro e w_15 ⟨rfl, hb15⟩
    have hI15 := ownS_below hI14 hb15
    have g15 := bstep g14 hb15
    clear hb15 hI14
    go_wp2
    go_ret
    exact ⟨rfl, g15⟩
  · go_enter Try.func6, Try.ntmps6
    go_wp2_with fail
    refine (szT_no hsll hll).mono ?_
    rintro e w0 ⟨rfl, rfl⟩
    go_wp2
    go_ret
    exact ⟨rfl, Below.refl _ _⟩

end Go.Proofs.Ytdmjfdigaiokfaa
