/- The walk of the law FnPins: THE PROGRAM'S OWN CONTRACTS ARE PREMISES. Made by mk_pinswalk.py. -/
import Derived.Test.YtcbdoldcdgaooaaPinsKit
import Derived.Test.YtcbdoldcdgaooaaWalkKit
import Derived.Test.YtcbdoldcdgaooaaTurnBySpec
import Derived.Test.YtcbdoldcdgaooaaPinsAtSpec
import Derived.Test.YtcbdoldcdgaooaaAddPinSpec
import Derived.Test.YtcbdoldcdgaooaaPullSpec
import Derived.Test.YtcbdoldcdgaooaaCylOfSpec
import Derived.Test.YtcbdoldcdgaooaaPinsSample
namespace Go.Proofs.Ytcbdoldcdgaooaa
open Go.ChangeShapes Go.WideShapes Go.ChangeAt Go.RowKit

set_option maxHeartbeats 8000000 in
set_option maxRecDepth 1000000 in
theorem pins_walk {w : World} {v : Value} {n : Nat}
    (hT : ∀ (W : World) (U : Value) (s t d : Int) (l : List (Int × Int)), RdC W U l → l.length ≤ 1048576 → Calls Try.prog 14 #[.agg #[.int .i64 s, .int .i64 t, U], .int .i64 d] W (NewCyl W s t (turnM s t l d)))
    (hK : ∀ (W : World) (U : Value) (s t : Int) (l : List (Int × Int)), RdC W U l → l.length ≤ 1048576 → Calls Try.prog 15 #[.agg #[.int .i64 s, .int .i64 t, U]] W (fun e w' => e = .returned (.bool (cylB s t l)) ∧ Below W.heap.size W w'))
    (hP : ∀ (W : World) (U : Value) (s t d : Int) (l : List (Int × Int)), RdC W U l → l.length ≤ 1048576 → Calls Try.prog 16 #[.agg #[.int .i64 s, .int .i64 t, U], .int .i64 d] W (NewInts W (pinsM s t l d)))
    (hA : ∀ (W : World) (U : Value) (s t : Int) (x : Int × Int) (l : List (Int × Int)), RdC W U l → l.length ≤ 1048576 → Calls Try.prog 18 #[.agg #[.int .i64 s, .int .i64 t, U], .agg #[.int .i64 x.1, .int .i64 x.2]] W (NewCylB W s t (addP s t l x).1 (addP s t l x).2))
    (hU : ∀ (W : World) (U : Value) (s t d : Int) (l : List (Int × Int)), RdC W U l → l.length ≤ 1048576 → Calls Try.prog 20 #[.agg #[.int .i64 s, .int .i64 t, U], .int .i64 d] W (NewCylB W s t (pullP s t l d).1 (pullP s t l d).2))
    (hO : ∀ (W : World) (U0 U1 : Value) (tn : List (Int × Int)) (c : List Int) (sa ra : Int), Rd2 W U0 tn → Rd1 W U1 c → tn.length ≤ 1048576 → c.length ≤ 1048576 → Calls Try.prog 21 #[U0, U1, .int .i64 sa, .int .i64 ra] W (NewCylB W (ofM tn c sa ra).1.1 (ofM tn c sa ra).1.2.1 (ofM tn c sa ra).1.2.2 (ofM tn c sa ra).2))
    (hC : Code w w.heap.size v n) :
    Calls Try.prog 3 #[v] w fun e w' => e = .returned (.bool true) ∧ Below w.heap.size w w' := by
  by_cases hbig : 1048576 < n
  · go_enter Try.func3, Try.ntmps3
    go_wp2_with fail
    refine (big_yes hC hbig).mono ?_
    rintro e w1 ⟨rfl, rfl⟩
    go_wp2
    go_ret
    exact ⟨rfl, Below.refl _ _⟩
  · have PR := Lib.hid (And.intro hT (And.intro hK (And.intro hP (And.intro hA (And.intro hU hO)))))
    clear hT hK hP hA hU hO
    go_enter Try.func3, Try.ntmps3
    go_wp2_with fail
    refine (big_no hC hbig).mono ?_
    rintro e w0 ⟨rfl, rfl⟩
    go_wp2_with fail
    refine (drawcyl_any hC).mono ?_
    rintro e w1 ⟨s, t, l, vC, hD, rfl, hC_0, g_0⟩
    obtain ⟨hs4, ht1, hl9, hcyl⟩ := hD
    obtain ⟨hT, hK, hP, hA, hU, hO⟩ := PR.out
    clear PR
    have hcB := cylB_true.2 hcyl
    have HT := Lib.hid (show ∀ (W : World) (U : Value) (d : Int), (-1000000 ≤ d ∧ d ≤ 1000000) → RdC W U l → Calls Try.prog 14 #[.agg #[.int .i64 s, .int .i64 t, U], .int .i64 d] W (fun e w' => ∃ v, e = .returned (.agg #[.int .i64 s, .int .i64 t, v]) ∧ w'.ownsRow W.heap.size 32 2 v l.length (flat2 (turnL s d l)) ∧ Below W.heap.size W w') from fun W U d hd h => by
      have := hT W U s t d l h (by omega)
      rw [show turnM s t l d = turnL s d l from if_pos ⟨hcB, hd⟩] at this
      unfold NewCyl at this
      rw [turn_len hcyl] at this
      exact this)
    have HB := Lib.hid (show ∀ (W : World) (U : Value) (d : Int), (0 ≤ d ∧ d ≤ 255) → RdC W U (turnL s d l) → Calls Try.prog 14 #[.agg #[.int .i64 s, .int .i64 t, U], .int .i64 (-d)] W (fun e w' => ∃ v, e = .returned (.agg #[.int .i64 s, .int .i64 t, v]) ∧ w'.ownsRow W.heap.size 32 2 v l.length (flat2 l) ∧ Below W.heap.size W w') from fun W U d hd h => by
      have := hT W U s t (-d) _ h (by rw [turn_len hcyl]; omega)
      rw [show turnM s t (turnL s d l) (-d) = l from (if_pos ⟨cylB_true.2 (turn_cyl d hcyl), by omega⟩).trans (turn_back hcyl)] at this
      exact this)
    have HF := Lib.hid (show ∀ (W : World) (U : Value), RdC W U l → Calls Try.prog 14 #[.agg #[.int .i64 s, .int .i64 t, U], .int .i64 (3 * s)] W (fun e w' => ∃ v, e = .returned (.agg #[.int .i64 s, .int .i64 t, v]) ∧ w'.ownsRow W.heap.size 32 2 v l.length (flat2 l) ∧ Below W.heap.size W w') from fun W U h => by
      have := hT W U s t (3 * s) l h (by omega)
      rw [show turnM s t l (3 * s) = l from (if_pos ⟨hcB, by omega⟩).trans (turn_full 3 hcyl)] at this
      exact this)
    have HK := Lib.hid (show ∀ (W : World) (U : Value) (q : List (Int × Int)), CylP s t q → RdC W U q → Calls Try.prog 15 #[.agg #[.int .i64 s, .int .i64 t, U]] W (fun e w' => e = .returned (.bool true) ∧ Below W.heap.size W w') from fun W U q hq h => by
      have := hK W U s t q h (by have := hq.2.2.1; omega)
      rw [cylB_true.2 hq] at this
      exact this)
    have HP := Lib.hid (show ∀ (W : World) (U : Value) (q : List (Int × Int)) (a : Int), CylP s t q → (-1000000 ≤ a ∧ a ≤ 1000000) → RdC W U q → Calls Try.prog 16 #[.agg #[.int .i64 s, .int .i64 t, U], .int .i64 a] W (NewInts W (pinsL q (a % s))) from fun W U q a hq ha h => by
      have := hP W U s t a q h (by have := hq.2.2.1; omega)
      rw [show pinsM s t q a = pinsL q (a % s) from if_pos ⟨cylB_true.2 hq, ha⟩] at this
      exact this)
    have HA := Lib.hid (fun (W : World) (U : Value) (x : Int × Int) (h : RdC W U l) => hA W U s t x l h (by omega))
    have HU := Lib.hid (fun (W : World) (U : Value) (d : Int) (q : List (Int × Int)) (hq : q.length ≤ 100) (h : RdC W U q) => hU W U s t d q h (by omega))
    have HOZ := Lib.hid (show ∀ (W : World) (U0 U1 : Value), Rd2 W U0 [(1, 5), (3, 5)] → Rd1 W U1 [2, 0] → Calls Try.prog 21 #[U0, U1, .int .i64 8, .int .i64 3] W (fun e w' => ∃ v, e = .returned (.tuple #[.agg #[.int .i64 8, .int .i64 3, v], .bool true]) ∧ w'.ownsRow W.heap.size 32 2 v 2 (flat2 [(2, 1), (0, 3)]) ∧ Below W.heap.size W w') from fun W U0 U1 h0 h1 => by
      have := hO W U0 U1 _ _ 8 3 h0 h1 (by decide) (by decide)
      rw [sample_of] at this
      exact this)
    have HCY := Lib.hid hcyl
    clear hT hK hP hA hU hO hcB hcyl
    obtain ⟨aC, cpC, rfl⟩ := ownS_slice hC_0
    have hbA1 : Below w1.heap.size w1 (w1.alloc (.cells #[.int .i64 s, .int .i64 t, .slice aC l.length cpC] 26)) := (Below.refl _ _).alloc (Nat.le_refl _) _
    have bBC_0 : Box (w1.alloc (.cells #[.int .i64 s, .int .i64 t, .slice aC l.length cpC] 26)) w1.heap.size s t (.slice aC l.length cpC) := box_new _ _ _ _ _
    have apCBC : (.slice aC l.length cpC : Value).ownBlock ≠ some w1.heap.size := fun e => Nat.lt_irrefl _ (hC_0.lt _ e).2
    have hC_2 := ownS_below hC_0 hbA1
    have g_2 := bstep g_0 hbA1
    clear hbA1 hC_0 g_0
    obtain ⟨-, mBC0, mBC1, mBC2⟩ := id bBC_0
    go_wp2_with fail
    clear mBC0 mBC1 mBC2
    generalize (w1.alloc (.cells #[.int .i64 s, .int .i64 t, .slice aC l.length cpC] 26)) = w_3 at *
    refine (atP_any 0 (by omega) (hC.below g_2) (by omega)).mono ?_
    rintro e wz ⟨d, hd0, hd1, rfl, rfl⟩
    have en : IntKind.i64.wrap (-d) = -d := IntWalk.i64_in _ (by omega)
    have em : IntKind.i64.wrap (3 * s) = 3 * s := IntWalk.i64_in _ (by omega)
    obtain ⟨-, mBC0, mBC1, mBC2⟩ := id bBC_0
    go_wp2_with fail
    clear mBC0 mBC1 mBC2
    refine (HT.out _ _ d (by omega) (RdC.of_own hC_2)).mono ?_
    rintro e w_4 ⟨vT, rfl, hT_0, hb4⟩
    obtain ⟨aT, cpT, rfl⟩ := ownS_slice hT_0
    have apTBC := ob_of_lt hT_0 bBC_0.1
    have apCT := apartS hC_2 hT_0
    have apTC := apartS' hC_2 hT_0
    have bBC_5 := bBC_0.below hb4
    have hC_5 := ownS_below hC_2 hb4
    have g_5 := bstep g_2 hb4
    clear hb4 bBC_0 hC_2 g_2
    have hbA6 : Below w_4.heap.size w_4 (w_4.alloc (.cells #[.int .i64 s, .int .i64 t, .slice aT l.length cpT] 26)) := (Below.refl _ _).alloc (Nat.le_refl _) _
    have bBT_0 : Box (w_4.alloc (.cells #[.int .i64 s, .int .i64 t, .slice aT l.length cpT] 26)) w_4.heap.size s t (.slice aT l.length cpT) := box_new _ _ _ _ _
    have apCBT : (.slice aC l.length cpC : Value).ownBlock ≠ some w_4.heap.size := fun e => Nat.lt_irrefl _ (hC_5.lt _ e).2
    have apTBT : (.slice aT l.length cpT : Value).ownBlock ≠ some w_4.heap.size := fun e => Nat.lt_irrefl _ (hT_0.lt _ e).2
    have bBC_7 := bBC_5.below hbA6
    have hC_7 := ownS_below hC_5 hbA6
    have hT_7 := ownS_below hT_0 hbA6
    have g_7 := bstep g_5 hbA6
    clear hbA6 bBC_5 hC_5 hT_0 g_5
    obtain ⟨-, mBC0, mBC1, mBC2⟩ := id bBC_7
    obtain ⟨-, mBT0, mBT1, mBT2⟩ := id bBT_0
    go_wp2_with fail
    clear mBC0 mBC1 mBC2 mBT0 mBT1 mBT2
    generalize (w_4.alloc (.cells #[.int .i64 s, .int .i64 t, .slice aT l.length cpT] 26)) = w_8 at *
    refine (HB.out _ _ d (by omega) (RdC.of_own (l := turnL s d l) (by rw [turn_len HCY.out]; exact hT_7))).mono ?_
    rintro e w_9 ⟨vB, rfl, hB_0, hb9⟩
    obtain ⟨aB, cpB, rfl⟩ := ownS_slice hB_0
    have apBBC := ob_of_lt hB_0 bBC_7.1
    have apBBT := ob_of_lt hB_0 bBT_0.1
    have apCB := apartS hC_7 hB_0
    have apBC := apartS' hC_7 hB_0
    have apTB := apartS hT_7 hB_0
    have apBT := apartS' hT_7 hB_0
    have bBC_10 := bBC_7.below hb9
    have bBT_10 := bBT_0.below hb9
    have hC_10 := ownS_below hC_7 hb9
    have hT_10 := ownS_below hT_7 hb9
    have g_10 := bstep g_7 hb9
    clear hb9 bBC_7 bBT_0 hC_7 hT_7 g_7
    have hbA11 : Below w_9.heap.size w_9 (w_9.alloc (.cells #[.int .i64 s, .int .i64 t, .slice aB l.length cpB] 26)) := (Below.refl _ _).alloc (Nat.le_refl _) _
    have bBB_0 : Box (w_9.alloc (.cells #[.int .i64 s, .int .i64 t, .slice aB l.length cpB] 26)) w_9.heap.size s t (.slice aB l.length cpB) := box_new _ _ _ _ _
    have apCBB : (.slice aC l.length cpC : Value).ownBlock ≠ some w_9.heap.size := fun e => Nat.lt_irrefl _ (hC_10.lt _ e).2
    have apTBB : (.slice aT l.length cpT : Value).ownBlock ≠ some w_9.heap.size := fun e => Nat.lt_irrefl _ (hT_10.lt _ e).2
    have apBBB : (.slice aB l.length cpB : Value).ownBlock ≠ some w_9.heap.size := fun e => Nat.lt_irrefl _ (hB_0.lt _ e).2
    have bBC_12 := bBC_10.below hbA11
    have bBT_12 := bBT_10.below hbA11
    have hC_12 := ownS_below hC_10 hbA11
    have hT_12 := ownS_below hT_10 hbA11
    have hB_12 := ownS_below hB_0 hbA11
    have g_12 := bstep g_10 hbA11
    clear hbA11 bBC_10 bBT_10 hC_10 hT_10 hB_0 g_10
    obtain ⟨-, mBC0, mBC1, mBC2⟩ := id bBC_12
    obtain ⟨-, mBT0, mBT1, mBT2⟩ := id bBT_12
    obtain ⟨-, mBB0, mBB1, mBB2⟩ := id bBB_0
    go_wp2_with fail
    clear mBC0 mBC1 mBC2 mBT0 mBT1 mBT2 mBB0 mBB1 mBB2
    generalize (w_9.alloc (.cells #[.int .i64 s, .int .i64 t, .slice aB l.length cpB] 26)) = w_13 at *
    refine (HF.out _ _ (RdC.of_own hC_12)).mono ?_
    rintro e w_14 ⟨vF, rfl, hF_0, hb14⟩
    obtain ⟨aF, cpF, rfl⟩ := ownS_slice hF_0
    have apFBC := ob_of_lt hF_0 bBC_12.1
    have apFBT := ob_of_lt hF_0 bBT_12.1
    have apFBB := ob_of_lt hF_0 bBB_0.1
    have apCF := apartS hC_12 hF_0
    have apFC := apartS' hC_12 hF_0
    have apTF := apartS hT_12 hF_0
    have apFT := apartS' hT_12 hF_0
    have apBF := apartS hB_12 hF_0
    have apFB := apartS' hB_12 hF_0
    have bBC_15 := bBC_12.below hb14
    have bBT_15 := bBT_12.below hb14
    have bBB_15 := bBB_0.below hb14
    have hC_15 := ownS_below hC_12 hb14
    have hT_15 := ownS_below hT_12 hb14
    have hB_15 := ownS_below hB_12 hb14
    have g_15 := bstep g_12 hb14
    clear hb14 bBC_12 bBT_12 bBB_0 hC_12 hT_12 hB_12 g_12
    have hbA16 : Below w_14.heap.size w_14 (w_14.alloc (.cells #[.int .i64 s, .int .i64 t, .slice aF l.length cpF] 26)) := (Below.refl _ _).alloc (Nat.le_refl _) _
    have bBF_0 : Box (w_14.alloc (.cells #[.int .i64 s, .int .i64 t, .slice aF l.length cpF] 26)) w_14.heap.size s t (.slice aF l.length cpF) := box_new _ _ _ _ _
    have apCBF : (.slice aC l.length cpC : Value).ownBlock ≠ some w_14.heap.size := fun e => Nat.lt_irrefl _ (hC_15.lt _ e).2
    have apTBF : (.slice aT l.length cpT : Value).ownBlock ≠ some w_14.heap.size := fun e => Nat.lt_irrefl _ (hT_15.lt _ e).2
    have apBBF : (.slice aB l.length cpB : Value).ownBlock ≠ some w_14.heap.size := fun e => Nat.lt_irrefl _ (hB_15.lt _ e).2
    have apFBF : (.slice aF l.length cpF : Value).ownBlock ≠ some w_14.heap.size := fun e => Nat.lt_irrefl _ (hF_0.lt _ e).2
    have bBC_17 := bBC_15.below hbA16
    have bBT_17 := bBT_15.below hbA16
    have bBB_17 := bBB_15.below hbA16
    have hC_17 := ownS_below hC_15 hbA16
    have hT_17 := ownS_below hT_15 hbA16
    have hB_17 := ownS_below hB_15 hbA16
    have hF_17 := ownS_below hF_0 hbA16
    have g_17 := bstep g_15 hbA16
    clear hbA16 bBC_15 bBT_15 bBB_15 hC_15 hT_15 hB_15 hF_0 g_15
    obtain ⟨-, mBC0, mBC1, mBC2⟩ := id bBC_17
    obtain ⟨-, mBT0, mBT1, mBT2⟩ := id bBT_17
    obtain ⟨-, mBB0, mBB1, mBB2⟩ := id bBB_17
    obtain ⟨-, mBF0, mBF1, mBF2⟩ := id bBF_0
    go_wp2_with fail
    clear mBC0 mBC1 mBC2 mBT0 mBT1 mBT2 mBB0 mBB1 mBB2 mBF0 mBF1 mBF2
    generalize (w_14.alloc (.cells #[.int .i64 s, .int .i64 t, .slice aF l.length cpF] 26)) = w_18 at *
    refine (HK.out _ _ _ (turn_cyl d HCY.out) (RdC.of_own (l := turnL s d l) (by rw [turn_len HCY.out]; exact hT_17))).mono ?_
    rintro e w_19 ⟨rfl, hb19⟩
    have bBC_20 := bBC_17.below hb19
    have bBT_20 := bBT_17.below hb19
    have bBB_20 := bBB_17.below hb19
    have bBF_20 := bBF_0.below hb19
    have hC_20 := ownS_below hC_17 hb19
    have hT_20 := ownS_below hT_17 hb19
    have hB_20 := ownS_below hB_17 hb19
    have hF_20 := ownS_below hF_17 hb19
    have g_20 := bstep g_17 hb19
    clear hb19 bBC_17 bBT_17 bBB_17 bBF_0 hC_17 hT_17 hB_17 hF_17 g_17
    obtain ⟨-, mBC0, mBC1, mBC2⟩ := id bBC_20
    obtain ⟨-, mBT0, mBT1, mBT2⟩ := id bBT_20
    obtain ⟨-, mBB0, mBB1, mBB2⟩ := id bBB_20
    obtain ⟨-, mBF0, mBF1, mBF2⟩ := id bBF_20
    go_wp2_with fail
    clear mBC0 mBC1 mBC2 mBT0 mBT1 mBT2 mBB0 mBB1 mBB2 mBF0 mBF1 mBF2
    obtain ⟨hbC, hbT, hbB, hbF⟩ : _ ∧ _ ∧ _ ∧ _ := ⟨bBC_20, bBT_20, bBB_20, bBF_20⟩
    clear bBC_20 bBT_20 bBB_20 bBF_20
    go_loopw [8] (fun v8 wr => ∃ k : Nat, k ≤ l.length ∧ v8 = .int .i64 k ∧ Below w_19.heap.size w_19 wr) (fun v8 _ => l.length - (intOf v8).toNat)
    case atStart => exact ⟨0, Nat.zero_le _, rfl, Below.refl _ _⟩
    case round =>
      obtain ⟨k, hk, rfl, hbr⟩ := hrel
      obtain ⟨-, m0, m1, m2⟩ := hbC.below hbr
      obtain ⟨-, m3, m4, m5⟩ := hbB.below hbr
      obtain ⟨-, m6, m7, m8⟩ := hbF.below hbr
      by_cases hlt : k < l.length
      · obtain ⟨p, hp⟩ : ∃ p, l[k]? = some p := ⟨_, List.getElem?_eq_getElem hlt⟩
        obtain ⟨b1, o1, c1, hv1, x1, y1⟩ := Rd2.cells (Rd.of_own (ownS_below hC_20 hbr)) hp
        simp only [Value.slice.injEq, true_and] at hv1
        obtain ⟨rfl, rfl⟩ := hv1
        obtain ⟨b2, o2, c2, hv2, x2, y2⟩ := Rd2.cells (Rd.of_own (ownS_below hB_20 hbr)) hp
        simp only [Value.slice.injEq, true_and] at hv2
        obtain ⟨rfl, rfl⟩ := hv2
        obtain ⟨b3, o3, c3, hv3, x3, y3⟩ := Rd2.cells (Rd.of_own (ownS_below hF_20 hbr)) hp
        simp only [Value.slice.injEq, true_and] at hv3
        obtain ⟨rfl, rfl⟩ := hv3
        have hne := neq_noP (show p = p from rfl)
        go_wp2_with fail
        go_quiet (fail)
        clear x1 y1 x2 y2 x3 y3 m0 m1 m2 m3 m4 m5 m6 m7 m8
        go_wp2
        go_roundw
        case rel => exact ⟨k + 1, by omega, by go_num, below_drewN hbr _⟩
        case measure => simp [intOf]; omega
      · obtain rfl : k = l.length := by omega
        go_wp2_with fail
        clear m0 m1 m2 m3 m4 m5 m6 m7 m8
        have bC_0 := hbC.below hbr
        have bT_0 := hbT.below hbr
        have hC_9 := ownS_below hC_20 hbr
        have hT_9 := ownS_below hT_20 hbr
        have gA := bstep g_20 hbr
        clear hbC hbT hbB hbF hbr hC_20 hT_20 hB_20 hF_20 g_20 apCBC apTBC apCT apTC apCBT apTBT apBBC apBBT apCB apBC apTB apBT apCBB apTBB apBBB apFBC apFBT apFBB apCF apFC apTF apFT apBF apFB apCBF apTBF apBBF apFBF
        obtain ⟨wA, hwA⟩ : ∃ x, x = wr := ⟨_, rfl⟩
        subst hwA
        go_loopw [9, 10] (fun v9 v10 wr => ∃ a : Nat, (a : Int) ≤ s ∧ v10 = .int .i64 (a : Int) ∧ v9 = .int .i64 ((angSum a l : Nat) : Int) ∧ Below wA.heap.size wA wr) (fun _ v10 _ => (s - intOf v10).toNat)
        case atStart => exact ⟨0, by omega, rfl, by rw [angSum_zero]; rfl, Below.refl _ _⟩
        case round =>
          obtain ⟨a, ha, rfl, rfl, hbr⟩ := hrel
          by_cases hlt : (a : Int) < s
          · have hmod : (a : Int) % s = a := Int.emod_eq_of_lt (by omega) hlt
            have HPa := Lib.hid (show ∀ (W : World) (U : Value), RdC W U l → Calls Try.prog 16 #[.agg #[.int .i64 s, .int .i64 t, U], .int .i64 (a : Int)] W (NewInts W (pinsL l (a : Int))) from fun W U h => by
              have := HP.out W U l (a : Int) HCY.out (by omega) h
              rw [hmod] at this; exact this)
            have HPb := Lib.hid (show ∀ (W : World) (U : Value), RdC W U (turnL s d l) → Calls Try.prog 16 #[.agg #[.int .i64 s, .int .i64 t, U], .int .i64 ((a : Int) + d)] W (NewInts W (pinsL l (a : Int))) from fun W U h => by
              have := HP.out W U _ ((a : Int) + d) (turn_cyl d HCY.out) (by omega) h
              rw [pins_turn HCY.out (by omega)] at this; exact this)
            have HPc := Lib.hid (show ∀ (W : World) (U : Value), RdC W U l → Calls Try.prog 16 #[.agg #[.int .i64 s, .int .i64 t, U], .int .i64 ((a : Int) - s)] W (NewInts W (pinsL l (a : Int))) from fun W U h => by
              have := HP.out W U l ((a : Int) - s) HCY.out (by omega) h
              rw [Int.sub_emod_right, hmod] at this; exact this)
            have hpl := pinsL_len l (a : Int)
            have hal := angSum_le a l
            have hsu := angSum_succ a l
            have HSU := Lib.hid hsu
            have ew1 : IntKind.i64.wrap (((angSum a l : Nat) : Int) + ((pinsL l (a : Int)).length : Int)) = ((angSum a l : Nat) : Int) + ((pinsL l (a : Int)).length : Int) := IntWalk.i64_in _ (by omega)
            have ew2 : IntKind.i64.wrap ((a : Int) + d) = (a : Int) + d := IntWalk.i64_in _ (by omega)
            have ew3 : IntKind.i64.wrap ((a : Int) - s) = (a : Int) - s := IntWalk.i64_in _ (by omega)
            clear hsu
            have bC_1 := bC_0.below hbr
            have bT_1 := bT_0.below hbr
            have hC_1 := ownS_below hC_9 hbr
            have hT_1 := ownS_below hT_9 hbr
            obtain ⟨-, mBC0, mBC1, mBC2⟩ := id bC_1
            obtain ⟨-, mBT0, mBT1, mBT2⟩ := id bT_1
            go_wp2_with fail
            clear mBC0 mBC1 mBC2 mBT0 mBT1 mBT2
            refine (HPa.out _ _ (RdC.of_own hC_1)).mono ?_
            rintro e w_41 ⟨vL, rfl, hL_0, hb41⟩
            obtain ⟨aL, cpL, rfl⟩ := ownS_slice hL_0
            have apLBC := ob_of_lt hL_0 bC_1.1
            have apLBT := ob_of_lt hL_0 bT_1.1
            have apCL := apartS hC_1 hL_0
            have apLC := apartS' hC_1 hL_0
            have apTL := apartS hT_1 hL_0
            have apLT := apartS' hT_1 hL_0
            have bBC_42 := bC_1.below hb41
            have bBT_42 := bT_1.below hb41
            have hC_42 := ownS_below hC_1 hb41
            have hT_42 := ownS_below hT_1 hb41
            have g_42 := bstep hbr hb41
            clear hb41 bC_1 bT_1 hC_1 hT_1 hbr
            obtain ⟨-, mBC0, mBC1, mBC2⟩ := id bBC_42
            obtain ⟨-, mBT0, mBT1, mBT2⟩ := id bBT_42
            go_wp2_with fail
            clear mBC0 mBC1 mBC2 mBT0 mBT1 mBT2
            refine (HPb.out _ _ (RdC.of_own (l := turnL s d l) (by rw [turn_len HCY.out]; exact hT_42))).mono ?_
            rintro e w_43 ⟨vM, rfl, hM_0, hb43⟩
            obtain ⟨aM, cpM, rfl⟩ := ownS_slice hM_0
            have apMBC := ob_of_lt hM_0 bBC_42.1
            have apMBT := ob_of_lt hM_0 bBT_42.1
            have apCM := apartS hC_42 hM_0
            have apMC := apartS' hC_42 hM_0
            have apTM := apartS hT_42 hM_0
            have apMT := apartS' hT_42 hM_0
            have apLM := apartS hL_0 hM_0
            have apML := apartS' hL_0 hM_0
            have bBC_44 := bBC_42.below hb43
            have bBT_44 := bBT_42.below hb43
            have hC_44 := ownS_below hC_42 hb43
            have hT_44 := ownS_below hT_42 hb43
            have hL_44 := ownS_below hL_0 hb43
            have g_44 := bstep g_42 hb43
            clear hb43 bBC_42 bBT_42 hC_42 hT_42 hL_0 g_42
            obtain ⟨-, mBC0, mBC1, mBC2⟩ := id bBC_44
            obtain ⟨-, mBT0, mBT1, mBT2⟩ := id bBT_44
            go_wp2_with fail
            clear mBC0 mBC1 mBC2 mBT0 mBT1 mBT2
            refine (sameInts_same (Rd.of_own hL_44) (Rd.of_own hM_0)).mono ?_
            rintro e w_45 ⟨rfl, hb45⟩
            have bBC_46 := bBC_44.below hb45
            have bBT_46 := bBT_44.below hb45
            have hC_46 := ownS_below hC_44 hb45
            have hT_46 := ownS_below hT_44 hb45
            have hL_46 := ownS_below hL_44 hb45
            have hM_46 := ownS_below hM_0 hb45
            have g_46 := bstep g_44 hb45
            clear hb45 bBC_44 bBT_44 hC_44 hT_44 hL_44 hM_0 g_44
            clear hM_46 apMBC apMBT apCM apMC apTM apMT apLM apML
            obtain ⟨-, mBC0, mBC1, mBC2⟩ := id bBC_46
            obtain ⟨-, mBT0, mBT1, mBT2⟩ := id bBT_46
            go_wp2_with fail
            clear mBC0 mBC1 mBC2 mBT0 mBT1 mBT2
            refine (HPc.out _ _ (RdC.of_own hC_46)).mono ?_
            rintro e w_47 ⟨vN, rfl, hN_0, hb47⟩
            obtain ⟨aN, cpN, rfl⟩ := ownS_slice hN_0
            have apNBC := ob_of_lt hN_0 bBC_46.1
            have apNBT := ob_of_lt hN_0 bBT_46.1
            have apCN := apartS hC_46 hN_0
            have apNC := apartS' hC_46 hN_0
            have apTN := apartS hT_46 hN_0
            have apNT := apartS' hT_46 hN_0
            have apLN := apartS hL_46 hN_0
            have apNL := apartS' hL_46 hN_0
            have bBC_48 := bBC_46.below hb47
            have bBT_48 := bBT_46.below hb47
            have hC_48 := ownS_below hC_46 hb47
            have hT_48 := ownS_below hT_46 hb47
            have hL_48 := ownS_below hL_46 hb47
            have g_48 := bstep g_46 hb47
            clear hb47 bBC_46 bBT_46 hC_46 hT_46 hL_46 g_46
            obtain ⟨-, mBC0, mBC1, mBC2⟩ := id bBC_48
            obtain ⟨-, mBT0, mBT1, mBT2⟩ := id bBT_48
            go_wp2_with fail
            clear mBC0 mBC1 mBC2 mBT0 mBT1 mBT2
            refine (sameInts_same (Rd.of_own hL_48) (Rd.of_own hN_0)).mono ?_
            rintro e w_49 ⟨rfl, hb49⟩
            have bBC_50 := bBC_48.below hb49
            have bBT_50 := bBT_48.below hb49
            have hC_50 := ownS_below hC_48 hb49
            have hT_50 := ownS_below hT_48 hb49
            have hL_50 := ownS_below hL_48 hb49
            have hN_50 := ownS_below hN_0 hb49
            have g_50 := bstep g_48 hb49
            clear hb49 bBC_48 bBT_48 hC_48 hT_48 hL_48 hN_0 g_48
            clear hC_50 hT_50 hL_50 hN_50 bBC_50 bBT_50
            go_wp2
            go_roundw
            case rel => exact ⟨a + 1, by omega, by go_num, by rw [HSU.out]; go_num, g_50⟩
            case measure => simp [intOf]; omega
          · have hae : (a : Int) = s := by omega
            have hsum := angSum_all HCY.out hae
            rw [hsum]
            obtain ⟨-, m0, m1, m2⟩ := bC_0.below hbr
            have gB := bstep gA hbr
            have bC_2 := bC_0.below hbr
            have hC_2 := ownS_below hC_9 hbr
            clear bC_0 bT_0 hC_9 hT_9 gA hsum HB HF HT
            go_wp2_with fail
            have AT1 := Lib.hid (show ∀ (W : World), Code W w.heap.size v n → Calls Try.prog 13 #[v, .int .i64 1] W (fun e w' => ∃ x : Int, 0 ≤ x ∧ x ≤ 255 ∧ e = .returned (.int .i64 x) ∧ W = w') from fun W h => atP_any 1 (by omega) h (by omega))
            have AT2 := Lib.hid (show ∀ (W : World), Code W w.heap.size v n → Calls Try.prog 13 #[v, .int .i64 2] W (fun e w' => ∃ x : Int, 0 ≤ x ∧ x ≤ 255 ∧ e = .returned (.int .i64 x) ∧ W = w') from fun W h => atP_any 2 (by omega) h (by omega))
            have hd0 : Code wr.drew w.heap.size v n := hC.below gB.drew
            have hd1 : Code (wr.alloc (.cells #[.int .i64 0, .int .i64 0] 32)).drew w.heap.size v n := hC.below (gB.alloc gB.size _).drew
            have hd2 : Code (wr.drew.alloc (.cells #[.int .i64 0, .int .i64 0] 32)) w.heap.size v n := hd1
            have hn0 := World.new_ne wr _ m0
            have hn1 := World.new_ne wr _ m1
            have ht0 : ¬ t = 0 := by omega
            have hs0 : ¬ s = 0 := by omega
            have ht0' : (t == 0) = false := by simpa using ht0
            have hs0' : (s == 0) = false := by simpa using hs0
            apply cut_rule
            · intro HCUT
              go_region_held3 (fun w' => w'.cell? ⟨w1.heap.size, 0, none⟩ = some (.int .i64 s) ∧ w'.cell? ⟨w1.heap.size, 1, none⟩ = some (.int .i64 t)) (go_keep)
                ((first
                    | (go_at_call 13; (with_reducible refine (AT1.out _ ?atg1).mono ?_); (case atg1 => first | exact hd0 | exact hd1 | exact hd2); rintro e w5 ⟨x1, hx10, hx11, rfl, rfl⟩; have ex1 : x1.tmod t = x1 % t := Int.tmod_eq_emod_of_nonneg hx10)
                    | (go_at_call 13; (with_reducible refine (AT2.out _ ?atg2).mono ?_); (case atg2 => first | exact hd0 | exact hd1 | exact hd2); rintro e w6 ⟨x2, hx20, hx21, rfl, rfl⟩; have ex2 : x2.tmod s = x2 % s := Int.tmod_eq_emod_of_nonneg hx20)))
              all_goals have HX : (0 ≤ x1 ∧ x1 ≤ 255) ∧ 0 ≤ x2 ∧ x2 ≤ 255 := ⟨⟨hx10, hx11⟩, hx20, hx21⟩
              · rename_i hHeld
                clear hHeld hx10 hx11 hx20 hx21 ex1 ex2
                revert HX
                revert x2
                revert x1
                exact HCUT.out
              all_goals exact HCUT.out x1 x2 HX
            intro x1 x2 HX
            clear hd0 hd1 hd2 hn0 hn1 AT1 AT2 m0 m1 m2 ht0 hs0 ht0' hs0'
            have hbW := below_a wr (.cells #[.int .i64 (x1 % t), .int .i64 (x2 % s)] 32)
            have pz_0 : (wr.alloc (.cells #[.int .i64 (x1 % t), .int .i64 (x2 % s)] 32)).drew.cell? ⟨wr.heap.size, 0, none⟩ = some (.int .i64 (x1 % t)) := cell0 _ _ _ _
            have po_0 : (wr.alloc (.cells #[.int .i64 (x1 % t), .int .i64 (x2 % s)] 32)).drew.cell? ⟨wr.heap.size, 1, none⟩ = some (.int .i64 (x2 % s)) := cell0 _ _ _ _
            have bC_3 := bC_2.below hbW
            have hC_3 := ownS_below hC_2 hbW
            have gD := bstep gB hbW
            have hp1 : 0 ≤ x1 % t ∧ x1 % t ≤ t - 1 := ⟨Int.emod_nonneg _ (by omega), by have := Int.emod_lt_of_pos x1 (show 0 < t by omega); omega⟩
            have hp2 : 0 ≤ x2 % s ∧ x2 % s ≤ s - 1 := ⟨Int.emod_nonneg _ (by omega), by have := Int.emod_lt_of_pos x2 (show 0 < s by omega); omega⟩
            clear bC_2 hC_2 gB hbW
            generalize (wr.alloc (.cells #[.int .i64 (x1 % t), .int .i64 (x2 % s)] 32)).drew = wD at *
            generalize wr.heap.size = bP at *
            generalize x1 % t = p1 at *
            generalize x2 % s = p2 at *
            clear hbr HX
            have hmp : p2 % s = p2 := Int.emod_eq_of_lt hp2.1 (by omega)
            have HP1 := Lib.hid (show ∀ (W : World) (U : Value), RdC W U l → Calls Try.prog 16 #[.agg #[.int .i64 s, .int .i64 t, U], .int .i64 p2] W (NewInts W (pinsL l p2)) from fun W U h => by
              have := HP.out W U l p2 HCY.out (by omega) h
              rw [hmp] at this; exact this)
            have HA1 := Lib.hid (show ∀ (W : World) (U : Value), RdC W U l → Calls Try.prog 18 #[.agg #[.int .i64 s, .int .i64 t, U], .agg #[.int .i64 p1, .int .i64 p2]] W (NewCylB W s t (addP s t l (p1, p2)).1 (addP s t l (p1, p2)).2) from fun W U h => HA.out W U (p1, p2) h)
            have HAS := Lib.hid (fun (W : World) (U : Value) (h : Rd1 W U (pinsL l p2)) => hasP_any p1 h)
            clear HA
            by_cases hin : (p1, p2) ∈ l
            · rw [show addP s t l (p1, p2) = (l, false) from addP_no fun k => (put_ok (cyl_sp HCY.out)).1 k.2.1 hin] at HA1
              rw [show decide (p1 ∈ pinsL l p2) = true from decide_eq_true (pinsL_mem.2 hin)] at HAS
              have HU0 := Lib.hid (show ∀ (W : World) (U : Value), RdC W U l → Calls Try.prog 20 #[.agg #[.int .i64 s, .int .i64 t, U], .int .i64 (l.length : Int)] W (fun e w' => ∃ v, e = .returned (.tuple #[.agg #[.int .i64 s, .int .i64 t, v], .bool false]) ∧ w'.ownsRow W.heap.size 32 2 v l.length (flat2 l) ∧ Below W.heap.size W w') from fun W U h => by
                have := HU.out W U (l.length : Int) l (by omega) h
                rw [show pullP s t l (l.length : Int) = (l, false) from if_neg fun k => by omega] at this
                exact this)
              obtain ⟨-, mBC0, mBC1, mBC2⟩ := id bC_3
              go_wp2_with fail
              clear mBC0 mBC1 mBC2
              refine (HA1.out _ _ (RdC.of_own hC_3)).mono ?_
              rintro e w_61 ⟨vM, rfl, hM_0, hb61⟩
              obtain ⟨aM, cpM, rfl⟩ := ownS_slice hM_0
              have apMBC := ob_of_lt hM_0 bC_3.1
              have apMpin := ob_of_lt hM_0 (World.block_lt_of_cell? _ _ pz_0)
              have apCM := apartS hC_3 hM_0
              have apMC := apartS' hC_3 hM_0
              have bBC_62 := bC_3.below hb61
              have hC_62 := ownS_below hC_3 hb61
              have pz_62 := old_cell hb61 pz_0
              have po_62 := old_cell hb61 po_0
              have g_62 := bstep gD hb61
              clear hb61 bC_3 hC_3 pz_0 po_0 gD
              have hbA63 : Below w_61.heap.size w_61 (w_61.alloc (.cells #[.int .i64 s, .int .i64 t, .slice aM l.length cpM] 26)) := (Below.refl _ _).alloc (Nat.le_refl _) _
              have bBM_0 : Box (w_61.alloc (.cells #[.int .i64 s, .int .i64 t, .slice aM l.length cpM] 26)) w_61.heap.size s t (.slice aM l.length cpM) := box_new _ _ _ _ _
              have apCBM : (.slice aC l.length cpC : Value).ownBlock ≠ some w_61.heap.size := fun e => Nat.lt_irrefl _ (hC_62.lt _ e).2
              have apMBM : (.slice aM l.length cpM : Value).ownBlock ≠ some w_61.heap.size := fun e => Nat.lt_irrefl _ (hM_0.lt _ e).2
              have bBC_64 := bBC_62.below hbA63
              have hC_64 := ownS_below hC_62 hbA63
              have hM_64 := ownS_below hM_0 hbA63
              have pz_64 := old_cell hbA63 pz_62
              have po_64 := old_cell hbA63 po_62
              have g_64 := bstep g_62 hbA63
              clear hbA63 bBC_62 hC_62 hM_0 pz_62 po_62 g_62
              obtain ⟨-, mBC0, mBC1, mBC2⟩ := id bBC_64
              obtain ⟨-, mBM0, mBM1, mBM2⟩ := id bBM_0
              go_wp2_with fail
              clear mBC0 mBC1 mBC2 mBM0 mBM1 mBM2
              generalize (w_61.alloc (.cells #[.int .i64 s, .int .i64 t, .slice aM l.length cpM] 26)) = w_65 at *
              obtain ⟨-, n0, n1, n2⟩ := id bBC_64
              have n3 := pz_64
              have n4 := po_64
              go_region_held3 (fun w' => w'.cell? ⟨w1.heap.size, 0, none⟩ = some (.int .i64 s) ∧ w'.cell? ⟨w1.heap.size, 1, none⟩ = some (.int .i64 t) ∧ w'.cell? ⟨w1.heap.size, 2, none⟩ = some (.slice aC l.length cpC) ∧ w'.cell? ⟨bP, 0, none⟩ = some (.int .i64 p1) ∧ w'.cell? ⟨bP, 1, none⟩ = some (.int .i64 p2)) (go_keep)
                ((first
                    | (go_at_call 16; refine (HP1.out _ _ (RdC.of_own (ownS_below hC_64 (Below.refl _ _).drew))).mono ?_; rintro e wa ⟨vL, rfl, hL, hba⟩; have q0 := kept_cell hba n0; have q1 := kept_cell hba n1; have q2 := kept_cell hba n2; have q3 := kept_cell hba n3; have q4 := kept_cell hba n4)
                    | (go_at_call 19; refine (HAS.out _ _ (Rd.of_own hL)).mono ?_; rintro e wb ⟨rfl, hbb⟩; have r0 := old_cell hbb q0; have r1 := old_cell hbb q1; have r2 := old_cell hbb q2; have r3 := old_cell hbb q3; have r4 := old_cell hbb q4)))
              have hbe := bstep (below_undrew hba) hbb
              clear q0 q1 q2 q3 q4 r0 r1 r2 r3 r4 n0 n1 n2 n3 n4 hL hba hbb
              have bBC_66 := bBC_64.below hbe
              have bBM_66 := bBM_0.below hbe
              have hC_66 := ownS_below hC_64 hbe
              have hM_66 := ownS_below hM_64 hbe
              have pz_66 := old_cell hbe pz_64
              have po_66 := old_cell hbe po_64
              have g_66 := bstep g_64 hbe
              clear hbe bBC_64 bBM_0 hC_64 hM_64 pz_64 po_64 g_64
              obtain ⟨-, mBC0, mBC1, mBC2⟩ := id bBC_66
              obtain ⟨-, mBM0, mBM1, mBM2⟩ := id bBM_66
              go_wp2_with fail
              clear mBC0 mBC1 mBC2 mBM0 mBM1 mBM2
              refine (HU0.out _ _ (RdC.of_own hC_66)).mono ?_
              rintro e w_67 ⟨vN, rfl, hN_0, hb67⟩
              obtain ⟨aN, cpN, rfl⟩ := ownS_slice hN_0
              have apNBC := ob_of_lt hN_0 bBC_66.1
              have apNBM := ob_of_lt hN_0 bBM_66.1
              have apNpin := ob_of_lt hN_0 (World.block_lt_of_cell? _ _ pz_66)
              have apCN := apartS hC_66 hN_0
              have apNC := apartS' hC_66 hN_0
              have apMN := apartS hM_66 hN_0
              have apNM := apartS' hM_66 hN_0
              have bBC_68 := bBC_66.below hb67
              have bBM_68 := bBM_66.below hb67
              have hC_68 := ownS_below hC_66 hb67
              have hM_68 := ownS_below hM_66 hb67
              have pz_68 := old_cell hb67 pz_66
              have po_68 := old_cell hb67 po_66
              have g_68 := bstep g_66 hb67
              clear hb67 bBC_66 bBM_66 hC_66 hM_66 pz_66 po_66 g_66
              have HSZ := Lib.hid (show (w_67.alloc (.cells #[.int .i64 s, .int .i64 t, .slice aN l.length cpN] 26)).heap.size = w_67.heap.size + 1 from size_alloc _ _)
              have hbA69 : Below w_67.heap.size w_67 (w_67.alloc (.cells #[.int .i64 s, .int .i64 t, .slice aN l.length cpN] 26)) := (Below.refl _ _).alloc (Nat.le_refl _) _
              have bBN_0 : Box (w_67.alloc (.cells #[.int .i64 s, .int .i64 t, .slice aN l.length cpN] 26)) w_67.heap.size s t (.slice aN l.length cpN) := box_new _ _ _ _ _
              have apCBN : (.slice aC l.length cpC : Value).ownBlock ≠ some w_67.heap.size := fun e => Nat.lt_irrefl _ (hC_68.lt _ e).2
              have apMBN : (.slice aM l.length cpM : Value).ownBlock ≠ some w_67.heap.size := fun e => Nat.lt_irrefl _ (hM_68.lt _ e).2
              have apNBN : (.slice aN l.length cpN : Value).ownBlock ≠ some w_67.heap.size := fun e => Nat.lt_irrefl _ (hN_0.lt _ e).2
              have bBC_70 := bBC_68.below hbA69
              have bBM_70 := bBM_68.below hbA69
              have hC_70 := ownS_below hC_68 hbA69
              have hM_70 := ownS_below hM_68 hbA69
              have hN_70 := ownS_below hN_0 hbA69
              have pz_70 := old_cell hbA69 pz_68
              have po_70 := old_cell hbA69 po_68
              have g_70 := bstep g_68 hbA69
              clear hbA69 bBC_68 bBM_68 hC_68 hM_68 hN_0 pz_68 po_68 g_68
              obtain ⟨-, mBC0, mBC1, mBC2⟩ := id bBC_70
              obtain ⟨-, mBM0, mBM1, mBM2⟩ := id bBM_70
              obtain ⟨-, mBN0, mBN1, mBN2⟩ := id bBN_0
              go_wp2_with fail
              clear mBC0 mBC1 mBC2 mBM0 mBM1 mBM2 mBN0 mBN1 mBN2
              generalize (w_67.alloc (.cells #[.int .i64 s, .int .i64 t, .slice aN l.length cpN] 26)) = w_71 at *
              refine (HOZ.out _ _ _ (samp_tune HSZ.out _) (samp_teeth HSZ.out _)).mono ?_
              rintro e w_72 ⟨vZ, rfl, hZ, hbZ⟩
              obtain ⟨aZ, cpZ, rfl⟩ := ownS_slice hZ
              have hbY : Below w_71.heap.size w_71 w_72 := bstep (((Below.refl _ _).alloc (Nat.le_refl _) _).alloc (by simp) _) hbZ
              clear hbZ
              have bBC_73 := bBC_70.below hbY
              have bBM_73 := bBM_70.below hbY
              have bBN_73 := bBN_0.below hbY
              have hC_73 := ownS_below hC_70 hbY
              have hM_73 := ownS_below hM_70 hbY
              have hN_73 := ownS_below hN_70 hbY
              have pz_73 := old_cell hbY pz_70
              have po_73 := old_cell hbY po_70
              have g_73 := bstep g_70 hbY
              clear hbY bBC_70 bBM_70 bBN_0 hC_70 hM_70 hN_70 pz_70 po_70 g_70
              obtain ⟨bz, oz, cz, hvz, xz, yz⟩ := Rd2.cells (Rd.of_own hZ) (show [((2 : Int), (1 : Int)), (0, 3)][0]? = some (2, 1) from rfl)
              simp only [Value.slice.injEq, true_and] at hvz
              obtain ⟨rfl, -, rfl⟩ := hvz
              simp only [Nat.zero_mul, Nat.add_zero] at xz yz
              clear hZ
              have hbL : Below w_72.heap.size w_72 (w_72.alloc (.cells #[.int .i64 8, .int .i64 3, .slice (some ⟨bz, oz, none⟩) 2 cpZ] 26)) := (Below.refl _ _).alloc (Nat.le_refl _) _
              have xz1 := old_cell hbL xz
              have yz1 := old_cell hbL yz
              obtain ⟨-, l0, l1, l2⟩ := box_new w_72 8 3 (.slice (some ⟨bz, oz, none⟩) 2 cpZ) 26
              have hez : ∀ W, (binOp .eql 32 (.agg #[.int .i64 2, .int .i64 1]) (.agg #[.int .i64 2, .int .i64 1])).run Try.prog W = .ok (.bool true) W := fun W => eql_yesP (p := (2, 1)) (q := (2, 1)) rfl W
              have bBC_74 := bBC_73.below hbL
              have bBM_74 := bBM_73.below hbL
              have bBN_74 := bBN_73.below hbL
              have hC_74 := ownS_below hC_73 hbL
              have hM_74 := ownS_below hM_73 hbL
              have hN_74 := ownS_below hN_73 hbL
              have pz_74 := old_cell hbL pz_73
              have po_74 := old_cell hbL po_73
              have g_74 := bstep g_73 hbL
              clear hbL bBC_73 bBM_73 bBN_73 hC_73 hM_73 hN_73 pz_73 po_73 g_73
              obtain ⟨-, mBC0, mBC1, mBC2⟩ := id bBC_74
              obtain ⟨-, mBM0, mBM1, mBM2⟩ := id bBM_74
              obtain ⟨-, mBN0, mBN1, mBN2⟩ := id bBN_74
              go_wp2
              go_ret
              exact ⟨rfl, g_74⟩
            · have hok := (put_ok (cyl_sp HCY.out)).2 hin
              have hcm := cyl_put (x := (p1, p2)) HCY.out (by omega) hp1 hp2
              have hml : (putP l (p1, p2)).1.length = l.length + 1 := by
                have := putP_len l (p1, p2)
                rw [hok] at this
                simpa using this
              have HML := Lib.hid hml
              have hM100 : (putP l (p1, p2)).1.length ≤ 100 := by omega
              clear hml
              have hmem := (put_mem l (p1, p2) (p1, p2)).2 (Or.inl rfl)
              rw [show addP s t l (p1, p2) = ((putP l (p1, p2)).1, true) from addP_yes (cylB_true.2 HCY.out) hok (cylB_true.2 hcm)] at HA1
              rw [show decide (p1 ∈ pinsL l p2) = false from decide_eq_false (fun k => hin (pinsL_mem.1 k))] at HAS
              generalize (putP l (p1, p2)).1 = M at *
              have HCM := Lib.hid hcm
              have HMEM := Lib.hid hmem
              clear hok hcm hmem
              have HU0 := Lib.hid (show ∀ (W : World) (U : Value), RdC W U l → Calls Try.prog 20 #[.agg #[.int .i64 s, .int .i64 t, U], .int .i64 (l.length : Int)] W (fun e w' => ∃ v, e = .returned (.tuple #[.agg #[.int .i64 s, .int .i64 t, v], .bool false]) ∧ w'.ownsRow W.heap.size 32 2 v l.length (flat2 l) ∧ Below W.heap.size W w') from fun W U h => by
                have := HU.out W U (l.length : Int) l (by omega) h
                rw [show pullP s t l (l.length : Int) = (l, false) from if_neg fun k => by omega] at this
                exact this)
              obtain ⟨-, mBC0, mBC1, mBC2⟩ := id bC_3
              go_wp2_with fail
              clear mBC0 mBC1 mBC2
              refine (HA1.out _ _ (RdC.of_own hC_3)).mono ?_
              rintro e w_61 ⟨vM, rfl, hM_0, hb61⟩
              obtain ⟨aM, cpM, rfl⟩ := ownS_slice hM_0
              have apMBC := ob_of_lt hM_0 bC_3.1
              have apMpin := ob_of_lt hM_0 (World.block_lt_of_cell? _ _ pz_0)
              have apCM := apartS hC_3 hM_0
              have apMC := apartS' hC_3 hM_0
              have bBC_62 := bC_3.below hb61
              have hC_62 := ownS_below hC_3 hb61
              have pz_62 := old_cell hb61 pz_0
              have po_62 := old_cell hb61 po_0
              have g_62 := bstep gD hb61
              clear hb61 bC_3 hC_3 pz_0 po_0 gD
              have hbA63 : Below w_61.heap.size w_61 (w_61.alloc (.cells #[.int .i64 s, .int .i64 t, .slice aM M.length cpM] 26)) := (Below.refl _ _).alloc (Nat.le_refl _) _
              have bBM_0 : Box (w_61.alloc (.cells #[.int .i64 s, .int .i64 t, .slice aM M.length cpM] 26)) w_61.heap.size s t (.slice aM M.length cpM) := box_new _ _ _ _ _
              have apCBM : (.slice aC l.length cpC : Value).ownBlock ≠ some w_61.heap.size := fun e => Nat.lt_irrefl _ (hC_62.lt _ e).2
              have apMBM : (.slice aM M.length cpM : Value).ownBlock ≠ some w_61.heap.size := fun e => Nat.lt_irrefl _ (hM_0.lt _ e).2
              have bBC_64 := bBC_62.below hbA63
              have hC_64 := ownS_below hC_62 hbA63
              have hM_64 := ownS_below hM_0 hbA63
              have pz_64 := old_cell hbA63 pz_62
              have po_64 := old_cell hbA63 po_62
              have g_64 := bstep g_62 hbA63
              clear hbA63 bBC_62 hC_62 hM_0 pz_62 po_62 g_62
              obtain ⟨-, mBC0, mBC1, mBC2⟩ := id bBC_64
              obtain ⟨-, mBM0, mBM1, mBM2⟩ := id bBM_0
              go_wp2_with fail
              clear mBC0 mBC1 mBC2 mBM0 mBM1 mBM2
              generalize (w_61.alloc (.cells #[.int .i64 s, .int .i64 t, .slice aM M.length cpM] 26)) = w_65 at *
              obtain ⟨-, n0, n1, n2⟩ := id bBC_64
              have n3 := pz_64
              have n4 := po_64
              go_region_held3 (fun w' => w'.cell? ⟨w1.heap.size, 0, none⟩ = some (.int .i64 s) ∧ w'.cell? ⟨w1.heap.size, 1, none⟩ = some (.int .i64 t) ∧ w'.cell? ⟨w1.heap.size, 2, none⟩ = some (.slice aC l.length cpC) ∧ w'.cell? ⟨bP, 0, none⟩ = some (.int .i64 p1) ∧ w'.cell? ⟨bP, 1, none⟩ = some (.int .i64 p2)) (go_keep)
                ((first
                    | (go_at_call 16; refine (HP1.out _ _ (RdC.of_own (ownS_below hC_64 (Below.refl _ _).drew))).mono ?_; rintro e wa ⟨vL, rfl, hL, hba⟩; have q0 := kept_cell hba n0; have q1 := kept_cell hba n1; have q2 := kept_cell hba n2; have q3 := kept_cell hba n3; have q4 := kept_cell hba n4)
                    | (go_at_call 19; refine (HAS.out _ _ (Rd.of_own hL)).mono ?_; rintro e wb ⟨rfl, hbb⟩; have r0 := old_cell hbb q0; have r1 := old_cell hbb q1; have r2 := old_cell hbb q2; have r3 := old_cell hbb q3; have r4 := old_cell hbb q4)))
              have hbe := bstep (below_undrew hba) hbb
              clear q0 q1 q2 q3 q4 r0 r1 r2 r3 r4 n0 n1 n2 n3 n4 hL hba hbb
              have bBC_66 := bBC_64.below hbe
              have bBM_66 := bBM_0.below hbe
              have hC_66 := ownS_below hC_64 hbe
              have hM_66 := ownS_below hM_64 hbe
              have pz_66 := old_cell hbe pz_64
              have po_66 := old_cell hbe po_64
              have g_66 := bstep g_64 hbe
              clear hbe bBC_64 bBM_0 hC_64 hM_64 pz_64 po_64 g_64
              obtain ⟨-, mBC0, mBC1, mBC2⟩ := id bBC_66
              obtain ⟨-, mBM0, mBM1, mBM2⟩ := id bBM_66
              go_wp2_with fail
              clear mBC0 mBC1 mBC2 mBM0 mBM1 mBM2
              go_loopw [15] (fun v15 wr => ∃ k : Nat, k ≤ M.length ∧ v15 = .int .i64 (k : Int) ∧ Below wb.heap.size wb wr ∧ Hid (∀ i q, i < k → M[i]? = some q → q ≠ (p1, p2))) (fun v15 _ => M.length - (intOf v15).toNat)
              case atStart => exact ⟨0, Nat.zero_le _, rfl, Below.refl _ _, Lib.hid fun i q h => by omega⟩
              case round =>
                obtain ⟨k, hk, rfl, hbk, HF⟩ := hrel
                have hlt : k < M.length := by
                  by_cases h : k < M.length
                  · exact h
                  · exfalso
                    obtain ⟨i, hi⟩ := List.mem_iff_getElem?.1 HMEM.out
                    exact HF.out i _ (by have := (List.getElem?_eq_some_iff.1 hi).1; omega) hi rfl
                obtain ⟨q, hq⟩ : ∃ q, M[k]? = some q := ⟨_, List.getElem?_eq_getElem hlt⟩
                have HQ := Lib.hid hq
                obtain ⟨-, m0, m1, m2⟩ := bBM_66.below hbk
                have m3 := old_cell hbk pz_66
                have m4 := old_cell hbk po_66
                obtain ⟨b1, o1, c1, hv1, x1, y1⟩ := Rd2.cells (Rd.of_own (ownS_below hM_66 hbk)) hq
                simp only [Value.slice.injEq, true_and] at hv1
                obtain ⟨rfl, rfl⟩ := hv1
                clear hq
                by_cases hqp : q = (p1, p2)
                · have hne : ∀ W, (binOp .neq 32 (.agg #[.int .i64 q.1, .int .i64 q.2]) (.agg #[.int .i64 p1, .int .i64 p2])).run Try.prog W = .ok (.bool false) W := fun W => neq_noP (p := (p1, p2)) hqp W
                  clear hqp
                  go_wp2_with fail
                  go_quiet (fail)
                  have hbE : Below wb.heap.size wb (wr.drewN nq) := below_drewN hbk nq
                  clear m0 m1 m2 m3 m4 x1 y1 hne HF HMEM hbk
                  generalize wr.drewN nq = wE at *
                  have bBC_E := bBC_66.below hbE
                  have bBM_E := bBM_66.below hbE
                  have hC_E := ownS_below hC_66 hbE
                  have hM_E := ownS_below hM_66 hbE
                  have g_E := bstep g_66 hbE
                  clear hbE g_66 bBC_66 bBM_66 hC_66 hM_66 pz_66 po_66
                  have hcut := cutP_len hlt
                  have hclen : (cutP M k).length = l.length := by have := HML.out; omega
                  have HCC := Lib.hid (cylB_true.2 (cyl_cut HCM.out k))
                  have HUK := Lib.hid (show ∀ (W : World) (U : Value), RdC W U M → Calls Try.prog 20 #[.agg #[.int .i64 s, .int .i64 t, U], .int .i64 (k : Int)] W (fun e w' => ∃ v, e = .returned (.tuple #[.agg #[.int .i64 s, .int .i64 t, v], .bool true]) ∧ w'.ownsRow W.heap.size 32 2 v l.length (flat2 (cutP M k)) ∧ Below W.heap.size W w') from fun W U h => by
                    have := HU.out W U (k : Int) M (by omega) h
                    rw [show pullP s t M (k : Int) = (cutP M k, true) from if_pos ⟨cylB_true.2 HCM.out, by omega, by omega⟩] at this
                    unfold NewCylB at this
                    rw [hclen] at this
                    exact this)
                  have HKC := Lib.hid (show ∀ (W : World) (U : Value), RdC W U (cutP M k) → Calls Try.prog 15 #[.agg #[.int .i64 s, .int .i64 t, U]] W (fun e w' => e = .returned (.bool true) ∧ Below W.heap.size W w') from fun W U h => by
                    have := HK.out W U (cutP M k) (cyl_cut HCM.out k) h
                    exact this)
                  have hcl2 := Lib.hid hclen
                  clear hcut hclen
                  obtain ⟨-, mBC0, mBC1, mBC2⟩ := id bBC_E
                  obtain ⟨-, mBM0, mBM1, mBM2⟩ := id bBM_E
                  go_wp2_with fail
                  clear mBC0 mBC1 mBC2 mBM0 mBM1 mBM2
                  refine (HUK.out _ _ (RdC.of_own hM_E)).mono ?_
                  rintro e w_91 ⟨vY, rfl, hY_0, hb91⟩
                  obtain ⟨aY, cpY, rfl⟩ := ownS_slice hY_0
                  have apYBC := ob_of_lt hY_0 bBC_E.1
                  have apYBM := ob_of_lt hY_0 bBM_E.1
                  have apCY := apartS hC_E hY_0
                  have apYC := apartS' hC_E hY_0
                  have apMY := apartS hM_E hY_0
                  have apYM := apartS' hM_E hY_0
                  have bBC_92 := bBC_E.below hb91
                  have bBM_92 := bBM_E.below hb91
                  have hC_92 := ownS_below hC_E hb91
                  have hM_92 := ownS_below hM_E hb91
                  have g_92 := bstep g_E hb91
                  clear hb91 bBC_E bBM_E hC_E hM_E g_E
                  have hbA93 : Below w_91.heap.size w_91 (w_91.alloc (.cells #[.int .i64 s, .int .i64 t, .slice aY l.length cpY] 26)) := (Below.refl _ _).alloc (Nat.le_refl _) _
                  have bBY_0 : Box (w_91.alloc (.cells #[.int .i64 s, .int .i64 t, .slice aY l.length cpY] 26)) w_91.heap.size s t (.slice aY l.length cpY) := box_new _ _ _ _ _
                  have apCBY : (.slice aC l.length cpC : Value).ownBlock ≠ some w_91.heap.size := fun e => Nat.lt_irrefl _ (hC_92.lt _ e).2
                  have apMBY : (.slice (some ⟨b1, o1, none⟩) M.length cpM : Value).ownBlock ≠ some w_91.heap.size := fun e => Nat.lt_irrefl _ (hM_92.lt _ e).2
                  have apYBY : (.slice aY l.length cpY : Value).ownBlock ≠ some w_91.heap.size := fun e => Nat.lt_irrefl _ (hY_0.lt _ e).2
                  have bBC_94 := bBC_92.below hbA93
                  have bBM_94 := bBM_92.below hbA93
                  have hC_94 := ownS_below hC_92 hbA93
                  have hM_94 := ownS_below hM_92 hbA93
                  have hY_94 := ownS_below hY_0 hbA93
                  have g_94 := bstep g_92 hbA93
                  clear hbA93 bBC_92 bBM_92 hC_92 hM_92 hY_0 g_92
                  obtain ⟨-, mBC0, mBC1, mBC2⟩ := id bBC_94
                  obtain ⟨-, mBM0, mBM1, mBM2⟩ := id bBM_94
                  obtain ⟨-, mBY0, mBY1, mBY2⟩ := id bBY_0
                  go_wp2_with fail
                  clear mBC0 mBC1 mBC2 mBM0 mBM1 mBM2 mBY0 mBY1 mBY2
                  generalize (w_91.alloc (.cells #[.int .i64 s, .int .i64 t, .slice aY l.length cpY] 26)) = w_95 at *
                  refine (HKC.out _ _ (RdC.of_own (l := cutP M k) (by rw [hcl2.out]; exact hY_94))).mono ?_
                  rintro e w_96 ⟨rfl, hb96⟩
                  have bBC_97 := bBC_94.below hb96
                  have bBM_97 := bBM_94.below hb96
                  have bBY_97 := bBY_0.below hb96
                  have hC_97 := ownS_below hC_94 hb96
                  have hM_97 := ownS_below hM_94 hb96
                  have hY_97 := ownS_below hY_94 hb96
                  have g_97 := bstep g_94 hb96
                  clear hb96 bBC_94 bBM_94 bBY_0 hC_94 hM_94 hY_94 g_94
                  obtain ⟨-, mBC0, mBC1, mBC2⟩ := id bBC_97
                  obtain ⟨-, mBM0, mBM1, mBM2⟩ := id bBM_97
                  obtain ⟨-, mBY0, mBY1, mBY2⟩ := id bBY_97
                  go_wp2_with fail
                  clear mBC0 mBC1 mBC2 mBM0 mBM1 mBM2 mBY0 mBY1 mBY2
                  refine (HU0.out _ _ (RdC.of_own hC_97)).mono ?_
                  rintro e w_98 ⟨vN, rfl, hN_0, hb98⟩
                  obtain ⟨aN, cpN, rfl⟩ := ownS_slice hN_0
                  have apNBC := ob_of_lt hN_0 bBC_97.1
                  have apNBM := ob_of_lt hN_0 bBM_97.1
                  have apNBY := ob_of_lt hN_0 bBY_97.1
                  have apCN := apartS hC_97 hN_0
                  have apNC := apartS' hC_97 hN_0
                  have apMN := apartS hM_97 hN_0
                  have apNM := apartS' hM_97 hN_0
                  have apYN := apartS hY_97 hN_0
                  have apNY := apartS' hY_97 hN_0
                  have bBC_99 := bBC_97.below hb98
                  have bBM_99 := bBM_97.below hb98
                  have bBY_99 := bBY_97.below hb98
                  have hC_99 := ownS_below hC_97 hb98
                  have hM_99 := ownS_below hM_97 hb98
                  have hY_99 := ownS_below hY_97 hb98
                  have g_99 := bstep g_97 hb98
                  clear hb98 bBC_97 bBM_97 bBY_97 hC_97 hM_97 hY_97 g_97
                  have HSZ := Lib.hid (show (w_98.alloc (.cells #[.int .i64 s, .int .i64 t, .slice aN l.length cpN] 26)).heap.size = w_98.heap.size + 1 from size_alloc _ _)
                  have hbA100 : Below w_98.heap.size w_98 (w_98.alloc (.cells #[.int .i64 s, .int .i64 t, .slice aN l.length cpN] 26)) := (Below.refl _ _).alloc (Nat.le_refl _) _
                  have bBN_0 : Box (w_98.alloc (.cells #[.int .i64 s, .int .i64 t, .slice aN l.length cpN] 26)) w_98.heap.size s t (.slice aN l.length cpN) := box_new _ _ _ _ _
                  have apCBN : (.slice aC l.length cpC : Value).ownBlock ≠ some w_98.heap.size := fun e => Nat.lt_irrefl _ (hC_99.lt _ e).2
                  have apMBN : (.slice (some ⟨b1, o1, none⟩) M.length cpM : Value).ownBlock ≠ some w_98.heap.size := fun e => Nat.lt_irrefl _ (hM_99.lt _ e).2
                  have apYBN : (.slice aY l.length cpY : Value).ownBlock ≠ some w_98.heap.size := fun e => Nat.lt_irrefl _ (hY_99.lt _ e).2
                  have apNBN : (.slice aN l.length cpN : Value).ownBlock ≠ some w_98.heap.size := fun e => Nat.lt_irrefl _ (hN_0.lt _ e).2
                  have bBC_101 := bBC_99.below hbA100
                  have bBM_101 := bBM_99.below hbA100
                  have bBY_101 := bBY_99.below hbA100
                  have hC_101 := ownS_below hC_99 hbA100
                  have hM_101 := ownS_below hM_99 hbA100
                  have hY_101 := ownS_below hY_99 hbA100
                  have hN_101 := ownS_below hN_0 hbA100
                  have g_101 := bstep g_99 hbA100
                  clear hbA100 bBC_99 bBM_99 bBY_99 hC_99 hM_99 hY_99 hN_0 g_99
                  obtain ⟨-, mBC0, mBC1, mBC2⟩ := id bBC_101
                  obtain ⟨-, mBM0, mBM1, mBM2⟩ := id bBM_101
                  obtain ⟨-, mBY0, mBY1, mBY2⟩ := id bBY_101
                  obtain ⟨-, mBN0, mBN1, mBN2⟩ := id bBN_0
                  go_wp2_with fail
                  clear mBC0 mBC1 mBC2 mBM0 mBM1 mBM2 mBY0 mBY1 mBY2 mBN0 mBN1 mBN2
                  generalize (w_98.alloc (.cells #[.int .i64 s, .int .i64 t, .slice aN l.length cpN] 26)) = w_102 at *
                  refine (HOZ.out _ _ _ (samp_tune HSZ.out _) (samp_teeth HSZ.out _)).mono ?_
                  rintro e w_103 ⟨vZ, rfl, hZ, hbZ⟩
                  obtain ⟨aZ, cpZ, rfl⟩ := ownS_slice hZ
                  have hbY : Below w_102.heap.size w_102 w_103 := bstep (((Below.refl _ _).alloc (Nat.le_refl _) _).alloc (by simp) _) hbZ
                  clear hbZ
                  have bBC_104 := bBC_101.below hbY
                  have bBM_104 := bBM_101.below hbY
                  have bBY_104 := bBY_101.below hbY
                  have bBN_104 := bBN_0.below hbY
                  have hC_104 := ownS_below hC_101 hbY
                  have hM_104 := ownS_below hM_101 hbY
                  have hY_104 := ownS_below hY_101 hbY
                  have hN_104 := ownS_below hN_101 hbY
                  have g_104 := bstep g_101 hbY
                  clear hbY bBC_101 bBM_101 bBY_101 bBN_0 hC_101 hM_101 hY_101 hN_101 g_101
                  obtain ⟨bz, oz, cz, hvz, xz, yz⟩ := Rd2.cells (Rd.of_own hZ) (show [((2 : Int), (1 : Int)), (0, 3)][0]? = some (2, 1) from rfl)
                  simp only [Value.slice.injEq, true_and] at hvz
                  obtain ⟨rfl, -, rfl⟩ := hvz
                  simp only [Nat.zero_mul, Nat.add_zero] at xz yz
                  clear hZ
                  have hbL : Below w_103.heap.size w_103 (w_103.alloc (.cells #[.int .i64 8, .int .i64 3, .slice (some ⟨bz, oz, none⟩) 2 cpZ] 26)) := (Below.refl _ _).alloc (Nat.le_refl _) _
                  have xz1 := old_cell hbL xz
                  have yz1 := old_cell hbL yz
                  obtain ⟨-, l0, l1, l2⟩ := box_new w_103 8 3 (.slice (some ⟨bz, oz, none⟩) 2 cpZ) 26
                  have hez : ∀ W, (binOp .eql 32 (.agg #[.int .i64 2, .int .i64 1]) (.agg #[.int .i64 2, .int .i64 1])).run Try.prog W = .ok (.bool true) W := fun W => eql_yesP (p := (2, 1)) (q := (2, 1)) rfl W
                  have bBC_105 := bBC_104.below hbL
                  have bBM_105 := bBM_104.below hbL
                  have bBY_105 := bBY_104.below hbL
                  have bBN_105 := bBN_104.below hbL
                  have hC_105 := ownS_below hC_104 hbL
                  have hM_105 := ownS_below hM_104 hbL
                  have hY_105 := ownS_below hY_104 hbL
                  have hN_105 := ownS_below hN_104 hbL
                  have g_105 := bstep g_104 hbL
                  clear hbL bBC_104 bBM_104 bBY_104 bBN_104 hC_104 hM_104 hY_104 hN_104 g_104
                  obtain ⟨-, mBC0, mBC1, mBC2⟩ := id bBC_105
                  obtain ⟨-, mBM0, mBM1, mBM2⟩ := id bBM_105
                  obtain ⟨-, mBY0, mBY1, mBY2⟩ := id bBY_105
                  obtain ⟨-, mBN0, mBN1, mBN2⟩ := id bBN_105
                  go_wp2
                  go_ret
                  exact ⟨rfl, g_105⟩
                · have hne : ∀ W, (binOp .neq 32 (.agg #[.int .i64 q.1, .int .i64 q.2]) (.agg #[.int .i64 p1, .int .i64 p2])).run Try.prog W = .ok (.bool true) W := fun W => neq_yesP (p := (p1, p2)) hqp W
                  have HF2 := Lib.hid (show ∀ i q', i < k + 1 → M[i]? = some q' → q' ≠ (p1, p2) from fun i q' hi hq' => by
                    by_cases hik : i < k
                    · exact HF.out i q' hik hq'
                    · obtain rfl : i = k := by omega
                      rw [HQ.out] at hq'
                      obtain rfl := Option.some.inj hq'
                      exact hqp)
                  clear hqp
                  go_wp2_with fail
                  go_quiet (fail)
                  clear m0 m1 m2 m3 m4 x1 y1
                  go_wp2
                  go_roundw
                  case rel => exact ⟨k + 1, by omega, by go_num, below_drewN hbk _, HF2⟩
                  case measure => simp [intOf]; omega
end Go.Proofs.Ytcbdoldcdgaooaa
