/- The walks of chapter 9's exact laws: THE PROGRAM'S OWN CONTRACT IS A PREMISE (hI). Made by mk_exact.py. -/
import Derived.Test.YtcbdoldcdgaooaaMostSpec
import Derived.Test.YtcbdoldcdgaooaaNestOps
import Derived.Test.YtcbdoldcdgaooaaIntsArg
import Derived.Test.YtcbdoldcdgaooaaWalkKit
import Derived.Test.YtcbdoldcdgaooaaRdCapN
namespace Go.Proofs.Ytcbdoldcdgaooaa
open Go.ChangeShapes Go.WideShapes Go.ChangeAt Go.RowKit

theorem forallT {w : World} {v vc : Value} {ll : List (List (Int × Int))} {c : List Int} (r : Int) (h : RdT w v ll) (hc : Rd1 w vc c) : Calls Try.prog 91 #[v, vc, .int .i64 r] w fun e w' => e = .returned (.int .i64 (allI r ll c)) ∧ Below w.heap.size w w' := by
  obtain ⟨us, k⟩ := h; exact forall_any r k hc
theorem extraT {w : World} {v vc : Value} {ll : List (List (Int × Int))} {c : List Int} (k r : Int) (h : RdT w v ll) (hc : Rd1 w vc c) : Calls Try.prog 40 #[v, vc, .int .i64 k, .int .i64 r] w fun e w' => e = .returned (.int .i64 (extraI r ll c k)) ∧ Below w.heap.size w w' := by
  obtain ⟨us, q⟩ := h; exact extra_any k r q hc
theorem combAll_len (r : Int) (ll : List (List (Int × Int))) (c : List Int) : (combAll r ll c).1.length ≤ 2440 := by
  unfold combAll; split
  · split
    · rename_i S hS
      have := combTo_le (n := needSL r ll S ll.length) (m := 40) (fun x hx => (needSL_le (allO_some hS).1 x hx).2) 61
      simpa using this
    · simp
  · simp
theorem mostTo_len (r : Int) (ll : List (List (Int × Int))) (teeth : Int) : ∀ k, (mostTo r ll teeth k).1.length ≤ 8
  | 0 => by simp [mostTo]
  | k + 1 => by
    have ih := mostTo_len r ll teeth k
    have hb := bitsTo_len (k + 1) 8
    rw [mostTo_succ]; unfold mostStep
    split
    · exact ih
    · split
      · exact hb
      · exact ih
theorem mostM_len (r : Int) (ll : List (List (Int × Int))) (teeth : Int) : (mostM r ll teeth).1.length ≤ 8 := by
  unfold mostM; split
  · exact mostTo_len r ll teeth _
  · simp
set_option maxHeartbeats 8000000 in
set_option maxRecDepth 100000 in
theorem exactextra_walk {w : World} {qll qc : Value} {ll : List (List (Int × Int))} {c : List Int} (k : Int) (r : Int) (hI : ∀ (W : World) (U0 U1 : Value), RcT W U0 ll → Rd1 W U1 c → bulkN ll ≤ 1048576 → c.length ≤ 1048576 → Calls Try.prog 36 #[U0, U1, .int .i64 k, .int .i64 r] W (fun e w' => e = .returned (.int .i64 (extraI r ll c k)) ∧ Below W.heap.size W w')) (hll : RdT w qll ll) (hc : Rd1 w qc c) :
    Calls Try.prog 6 #[qll, qc, .int .i64 k, .int .i64 r] w fun e w' => e = .returned (.bool true) ∧ Below w.heap.size w w' := by
  obtain ⟨ad_ll, cap_ll, rfl⟩ := hll.slice
  obtain ⟨ad_c, cap_c, rfl⟩ := Rd.slice hc
  have hmc := hc.2.1
  unfold maxLen at hmc
  by_cases hsc : c.length ≤ 1048576
  · skip
    by_cases hsll : bulkN ll ≤ 1048576
    · skip
      have HI := Lib.hid (fun (W : World) (U0 U1 : Value) (pll : RcT W U0 ll) (pc : Rd1 W U1 c) => hI W U0 U1 pll pc hsll hsc)
      have HS := Lib.hid (fun (W : World) (U0 U1 : Value) (pll : RdT W U0 ll) (pc : Rd1 W U1 c) => extraT k r pll pc)
      clear hI
      generalize (extraI r ll c k) = r0 at *
      go_enter Try.func6, Try.ntmps6
      go_wp2_with fail
      refine (szT_yes hsll hll).mono ?_
      rintro e w0 ⟨x0, hx0, rfl, rfl⟩
      obtain ⟨hqll, hrll⟩ := bulk_parts hsll
      have g0 := Below.refl w.heap.size w
      go_wp2_with fail
      refine (toT_any (RdT.below hll g0) hsll).mono ?_
      rintro e w_1 ⟨vPll, rfl, hPll0, hb1⟩
      have szPll := Nat.le_refl w_1.heap.size
      have gbPll := g0
      have g1 := bstep g0 hb1
      clear hb1 
      go_wp2_with fail
      refine (toInts_any (Rd.below hc g1) hsc).mono ?_
      rintro e w_2 ⟨vPc, rfl, hPc0, hb2⟩
      have apPcPll : ∀ g, vPc.ownBlock = some g → g < w.heap.size ∨ _ ≤ g := fun g hg => Or.inr (Nat.le_trans szPll (World.ownsRow.lt hPc0 g hg).1)
      have gbPc := g1
      have hPll2 := hPll0.below hb2
      replace szPll := Nat.le_trans szPll hb2.size
      have g2 := bstep g1 hb2
      clear hb2 hPll0
      go_wp2_with fail
      refine (HS.out _ _ _ hPll2.rd (Rd.of_own hPc0)).mono ?_
      rintro e w_3 ⟨rfl, hb3⟩
      have hPll3 := hPll2.below hb3
      replace szPll := Nat.le_trans szPll hb3.size
      have hPc3 := ownS_below hPc0 hb3
      have g3 := bstep g2 hb3
      clear hb3 hPll2 hPc0
      clear hPll3
      clear hPc3
      go_wp2_with fail
      refine (toT_any (RdT.below hll g3) hsll).mono ?_
      rintro e w_4 ⟨vXll, rfl, hXll0, hb4⟩
      have szXll := Nat.le_refl w_4.heap.size
      have gbXll := g3
      have g4 := bstep g3 hb4
      clear hb4 
      go_wp2_with fail
      refine (toInts_any (Rd.below hc g4) hsc).mono ?_
      rintro e w_5 ⟨vXc, rfl, hXc0, hb5⟩
      have apXcXll : ∀ g, vXc.ownBlock = some g → g < w_3.heap.size ∨ _ ≤ g := fun g hg => Or.inr (Nat.le_trans szXll (World.ownsRow.lt hXc0 g hg).1)
      have gbXc := g4
      have hXll5 := hXll0.below hb5
      replace szXll := Nat.le_trans szXll hb5.size
      have g5 := bstep g4 hb5
      clear hb5 hXll0
      go_wp2_with fail
      refine (HI.out _ _ _ hXll5.rc (Rd.of_own hXc0)).mono ?_
      rintro e w_6 ⟨rfl, hb6⟩
      have hXll6 := hXll5.below hb6
      replace szXll := Nat.le_trans szXll hb6.size
      have hXc6 := ownS_below hXc0 hb6
      have g6 := bstep g5 hb6
      clear hb6 hXll5 hXc0
      go_wp2_with fail
      refine (toT_any (RdT.below hll g6) hsll).mono ?_
      rintro e w_7 ⟨vT, rfl, hT0, hb7⟩
      have szT := Nat.le_refl w_7.heap.size
      have apXcT : ∀ g, vXc.ownBlock = some g → g < _ ∨ w_7.heap.size ≤ g := fun g hg => Or.inl (World.ownsRow.lt hXc6 g hg).2
      have gbT := g6
      have hXll7 := hXll6.below hb7
      replace szXll := Nat.le_trans szXll hb7.size
      have hXc7 := ownS_below hXc6 hb7
      have g7 := bstep g6 hb7
      clear hb7 hXll6 hXc6
      go_wp2_with fail
      refine (eqT_same hXll7.rd hT0.rd).mono ?_
      rintro e w_8 ⟨rfl, hb8⟩
      have hXll8 := hXll7.below hb8
      replace szXll := Nat.le_trans szXll hb8.size
      have hXc8 := ownS_below hXc7 hb8
      have hT8 := hT0.below hb8
      replace szT := Nat.le_trans szT hb8.size
      have g8 := bstep g7 hb8
      clear hb8 hXll7 hXc7 hT0
      clear hT8
      go_wp2_with fail
      refine (toInts_any (Rd.below hc g8) hsc).mono ?_
      rintro e w_9 ⟨vT, rfl, hT0, hb9⟩
      have apTXll : ∀ g, vT.ownBlock = some g → g < w_3.heap.size ∨ _ ≤ g := fun g hg => Or.inr (Nat.le_trans szXll (World.ownsRow.lt hT0 g hg).1)
      have apXcT := apartS hXc8 hT0
      have apTXc := apartS' hXc8 hT0
      have gbT := g8
      have hXll9 := hXll8.below hb9
      replace szXll := Nat.le_trans szXll hb9.size
      have hXc9 := ownS_below hXc8 hb9
      have g9 := bstep g8 hb9
      clear hb9 hXll8 hXc8
      go_wp2_with fail
      refine (eqInts_same (Rd.of_own hXc9) (Rd.of_own hT0)).mono ?_
      rintro e w_10 ⟨rfl, hb10⟩
      have hXll10 := hXll9.below hb10
      replace szXll := Nat.le_trans szXll hb10.size
      have hXc10 := ownS_below hXc9 hb10
      have hT10 := ownS_below hT0 hb10
      have g10 := bstep g9 hb10
      clear hb10 hXll9 hXc9 hT0
      clear hT10
      go_wp2
      go_ret
      exact ⟨rfl, g10⟩
    · go_enter Try.func6, Try.ntmps6
      go_wp2_with fail
      refine (szT_no hsll hll).mono ?_
      rintro e w0 ⟨rfl, rfl⟩
      go_wp2
      go_ret
      exact ⟨rfl, Below.refl _ _⟩
  · go_enter Try.func6, Try.ntmps6
    go_wp2
    go_ret
    exact ⟨rfl, Below.refl _ _⟩

end Go.Proofs.Ytcbdoldcdgaooaa
