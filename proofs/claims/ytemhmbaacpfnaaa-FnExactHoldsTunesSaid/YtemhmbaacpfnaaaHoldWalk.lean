/- The walk of FnExactHoldsTunes: THE PROGRAM'S OWN CONTRACT IS A PREMISE (hI). Made by mk_cyl.py. -/
import Derived.Test.YtemhmbaacpfnaaaHoldSpec
import Derived.Test.YtemhmbaacpfnaaaRowCyl3
import Derived.Test.YtemhmbaacpfnaaaWalkKit
namespace Go.Proofs.Ytemhmbaacpfnaaa
open Go.ChangeShapes Go.WideShapes Go.ChangeAt Go.RowKit

theorem Box.band {lo hi : Nat} {w w' : World} {b : Nat} {s t : Int} {u : Value} (h : Box w b s t u) (k : Band lo hi w w') (hb : b < lo ∨ hi ≤ b) : Box w' b s t u := by
  have e : ∀ o, w'.cell? ⟨b, o, none⟩ = w.cell? ⟨b, o, none⟩ := fun o => by unfold World.cell?; rw [k.2.2.2.2 b h.1 hb]
  exact ⟨Nat.lt_of_lt_of_le h.1 k.2.2.2.1, (e 0).trans h.2.1, (e 1).trans h.2.2.1, (e 2).trans h.2.2.2⟩

set_option maxHeartbeats 8000000 in
set_option maxRecDepth 100000 in
theorem exacthold_walk {w : World} {v : Value} {us : List Value} {cs : List Cyl} (d : Int) (hI : ∀ (W : World) (U : Value) (ts : List Value), RdY W U ts cs → Calls Try.prog 11 #[U, .int .i64 d] W (NewCylO W (hdO cs d))) (h : RdY w v us cs) :
    Calls Try.prog 7 #[v, .int .i64 d] w fun e w' => e = .returned (.bool true) ∧ Below w.heap.size w w' := by
  obtain ⟨al, cl, rfl⟩ := h.slice
  have HLE : ∀ {c : Cyl}, hdO cs d = some c → c.2.2.length ≤ 100 := fun k => hdO_le k
  by_cases hsz : bulkY cs ≤ 1048576
  · have g0 := Below.refl w.heap.size w
    have HI := Lib.hid (fun (W : World) (U : Value) (ts : List Value) (pl : RdY W U ts cs) => (show Calls Try.prog 11 #[U, .int .i64 d] W (NewCylB W (outC (hdO cs d)).1.1 (outC (hdO cs d)).1.2.1 (outC (hdO cs d)).1.2.2 (outC (hdO cs d)).2) from hI W U ts pl))
    have HS := Lib.hid (fun (W : World) (U : Value) (ts : List Value) (pl : RdY W U ts cs) => (show Calls Try.prog 26 #[U, .int .i64 d] W (NewCylB W (outC (hdO cs d)).1.1 (outC (hdO cs d)).1.2.1 (outC (hdO cs d)).1.2.2 (outC (hdO cs d)).2) from shold_any d pl))
    clear hI
    have hbd : (outC (hdO cs d)).1.2.2.length ≤ 1048576 := outC_le fun c k => Nat.le_trans (HLE k) (by omega)
    generalize (outC (hdO cs d)).1.2.2 = R at *
    generalize (outC (hdO cs d)).1.2.1 = T at *
    generalize (outC (hdO cs d)).1.1 = S at *
    generalize (outC (hdO cs d)).2 = tb at *
    clear HLE
    go_enter Try.func7, Try.ntmps7
    go_wp2_with fail
    refine (szYY_yes h hsz).mono ?_
    rintro e w_1 ⟨x0, hx0, rfl, hb1⟩
    have g_2 := bstep g0 hb1
    clear hb1 g0
    have hxd : decide (x0 < 0) = false := decide_eq_false (by omega)
    go_wp2_with fail
    refine (toYY_any (h.below g_2) hsz).mono ?_
    rintro e w_3 ⟨vP, usP, rfl, NP_0, hb3⟩
    obtain ⟨aP, cpP, rfl⟩ := NP_0.rd.slice
    have g_4 := bstep g_2 hb3
    clear hb3 g_2
    go_wp2_with fail
    have gbS := g_4
    refine (HS.out _ _ _ NP_0.rd).mono ?_
    rintro e w_5 ⟨vS, rfl, hS_0, hb5⟩
    obtain ⟨aS, cpS, rfl⟩ := ownS_slice hS_0
    have NP_6 := NP_0.below hb5
    clear NP_0
    have g_6 := bstep g_4 hb5
    clear hb5 g_4
    clear NP_6
    have hbA7 : Below w_5.heap.size w_5 (w_5.alloc (.cells #[.int .i64 S, .int .i64 T, .slice aS R.length cpS] 26)) := (Below.refl _ _).alloc (Nat.le_refl _) _
    have bBS_0 : Box (w_5.alloc (.cells #[.int .i64 S, .int .i64 T, .slice aS R.length cpS] 26)) w_5.heap.size S T (.slice aS R.length cpS) := box_new _ _ _ _ _
    have apSBS : (.slice aS R.length cpS : Value).ownBlock ≠ some w_5.heap.size := fun e => Nat.lt_irrefl _ (hS_0.lt _ e).2
    have hS_8 := ownS_below hS_0 hbA7
    have g_8 := bstep g_6 hbA7
    clear hbA7 hS_0 g_6
    obtain ⟨-, mBS0, mBS1, mBS2⟩ := id bBS_0
    go_wp2_with fail
    clear mBS0 mBS1 mBS2
    generalize (w_5.alloc (.cells #[.int .i64 S, .int .i64 T, .slice aS R.length cpS] 26)) = w_9 at *
    have gbX := g_8
    have bdS : ∀ k, (.slice aS R.length cpS : Value).ownBlock = some k → k < w_9.heap.size := fun k hk => (hS_8.lt k hk).2
    have bbBS : w_5.heap.size < w_9.heap.size := bBS_0.1
    refine (toYY_any (h.below g_8) hsz).mono ?_
    rintro e w_10 ⟨vX, usX, rfl, NX_0, hb10⟩
    obtain ⟨aX, cpX, rfl⟩ := NX_0.rd.slice
    have bBS_11 := bBS_0.below hb10
    have hS_11 := ownS_below hS_8 hb10
    have g_11 := bstep g_8 hb10
    clear hb10 bBS_0 hS_8 g_8
    have zX_0 : w_10.heap.size ≤ w_10.heap.size := Nat.le_refl _
    obtain ⟨-, mBS0, mBS1, mBS2⟩ := id bBS_11
    go_wp2_with fail
    clear mBS0 mBS1 mBS2
    have zzI := zX_0
    have gbI := g_11
    refine (HI.out _ _ _ NX_0.rd).mono ?_
    rintro e w_12 ⟨vI, rfl, hI_0, hb12⟩
    obtain ⟨aI, cpI, rfl⟩ := ownS_slice hI_0
    have apIBS := ob_of_lt hI_0 bBS_11.1
    have apSI := apartS hS_11 hI_0
    have apIS := apartS' hS_11 hI_0
    have NX_13 := NX_0.below hb12
    have zX_13 := Nat.le_trans zX_0 hb12.size
    clear NX_0 zX_0
    have bBS_13 := bBS_11.below hb12
    have hS_13 := ownS_below hS_11 hb12
    have g_13 := bstep g_11 hb12
    clear hb12 bBS_11 hS_11 g_11
    have bdI : ∀ k, (.slice aI R.length cpI : Value).ownBlock = some k → w_10.heap.size ≤ k := fun k hk => Nat.le_trans zzI (hI_0.lt k hk).1
    have bbBI := zX_13
    have hbA14 : Below w_12.heap.size w_12 (w_12.alloc (.cells #[.int .i64 S, .int .i64 T, .slice aI R.length cpI] 26)) := (Below.refl _ _).alloc (Nat.le_refl _) _
    have bBI_0 : Box (w_12.alloc (.cells #[.int .i64 S, .int .i64 T, .slice aI R.length cpI] 26)) w_12.heap.size S T (.slice aI R.length cpI) := box_new _ _ _ _ _
    have apSBI : (.slice aS R.length cpS : Value).ownBlock ≠ some w_12.heap.size := fun e => Nat.lt_irrefl _ (hS_13.lt _ e).2
    have apIBI : (.slice aI R.length cpI : Value).ownBlock ≠ some w_12.heap.size := fun e => Nat.lt_irrefl _ (hI_0.lt _ e).2
    have NX_15 := NX_13.below hbA14
    have zX_15 := Nat.le_trans zX_13 hbA14.size
    clear NX_13 zX_13
    have bBS_15 := bBS_13.below hbA14
    have hS_15 := ownS_below hS_13 hbA14
    have hI_15 := ownS_below hI_0 hbA14
    have g_15 := bstep g_13 hbA14
    clear hbA14 bBS_13 hS_13 hI_0 g_13
    obtain ⟨-, mBS0, mBS1, mBS2⟩ := id bBS_15
    obtain ⟨-, mBI0, mBI1, mBI2⟩ := id bBI_0
    go_wp2_with fail
    clear mBS0 mBS1 mBS2 mBI0 mBI1 mBI2
    generalize (w_12.alloc (.cells #[.int .i64 S, .int .i64 T, .slice aI R.length cpI] 26)) = w_16 at *
    refine (eqCyl_same S T (Rd.of_own hI_15) (Rd.of_own hS_15)).mono ?_
    rintro e w_17 ⟨rfl, hb17⟩
    have NX_18 := NX_15.below hb17
    have zX_18 := Nat.le_trans zX_15 hb17.size
    clear NX_15 zX_15
    have bBS_18 := bBS_15.below hb17
    have bBI_18 := bBI_0.below hb17
    have hS_18 := ownS_below hS_15 hb17
    have hI_18 := ownS_below hI_15 hb17
    have g_18 := bstep g_15 hb17
    clear hb17 bBS_15 bBI_0 hS_15 hI_15 g_15
    obtain ⟨-, mBS0, mBS1, mBS2⟩ := id bBS_18
    obtain ⟨-, mBI0, mBI1, mBI2⟩ := id bBI_18
    go_wp2_with fail
    clear mBS0 mBS1 mBS2 mBI0 mBI1 mBI2
    refine (toYY_any (h.below g_18) hsz).mono ?_
    rintro e w_19 ⟨vQ, usQ, rfl, NQ_0, hb19⟩
    obtain ⟨aQ, cpQ, rfl⟩ := NQ_0.rd.slice
    have NX_20 := NX_18.below hb19
    have zX_20 := Nat.le_trans zX_18 hb19.size
    clear NX_18 zX_18
    have bBS_20 := bBS_18.below hb19
    have bBI_20 := bBI_18.below hb19
    have hS_20 := ownS_below hS_18 hb19
    have hI_20 := ownS_below hI_18 hb19
    have g_20 := bstep g_18 hb19
    clear hb19 bBS_18 bBI_18 hS_18 hI_18 g_18
    obtain ⟨-, mBS0, mBS1, mBS2⟩ := id bBS_20
    obtain ⟨-, mBI0, mBI1, mBI2⟩ := id bBI_20
    go_wp2_with fail
    clear mBS0 mBS1 mBS2 mBI0 mBI1 mBI2
    refine (eqYY_same NX_20.rd NQ_0.rd).mono ?_
    rintro e w_21 ⟨rfl, hb21⟩
    have NX_22 := NX_20.below hb21
    have NQ_22 := NQ_0.below hb21
    have zX_22 := Nat.le_trans zX_20 hb21.size
    clear NX_20 NQ_0 zX_20
    have bBS_22 := bBS_20.below hb21
    have bBI_22 := bBI_20.below hb21
    have hS_22 := ownS_below hS_20 hb21
    have hI_22 := ownS_below hI_20 hb21
    have g_22 := bstep g_20 hb21
    clear hb21 bBS_20 bBI_20 hS_20 hI_20 g_20
    clear NQ_22
    obtain ⟨-, mBS0, mBS1, mBS2⟩ := id bBS_22
    obtain ⟨-, mBI0, mBI1, mBI2⟩ := id bBI_22
    go_wp2_with fail
    clear mBS0 mBS1 mBS2 mBI0 mBI1 mBI2
    refine (markYY_any NX_22 hsz).mono ?_
    rintro e w_23 ⟨k0, hk0, rfl, hbn⟩
    have hkd : decide (k0 < 0) = false := decide_eq_false (by omega)
    have bBS_23 := bBS_22.band hbn (Or.inl bbBS)
    have bBI_23 := bBI_22.band hbn (Or.inr bbBI)
    have hS_23 := own_band hS_22 hbn (fun g hg => Or.inl (bdS g hg))
    have hI_23 := own_band hI_22 hbn (fun g hg => Or.inr (bdI g hg))
    have g_23 := Band.below g_22 hbn gbX.size g_22.size
    clear hbn zX_22 NX_22 bBS_22 bBI_22 hS_22 hI_22
    obtain ⟨-, mBS0, mBS1, mBS2⟩ := id bBS_23
    obtain ⟨-, mBI0, mBI1, mBI2⟩ := id bBI_23
    go_wp2_with fail
    clear mBS0 mBS1 mBS2 mBI0 mBI1 mBI2
    refine (eqCyl_same S T (Rd.of_own hI_23) (Rd.of_own hS_23)).mono ?_
    rintro e w_24 ⟨rfl, hb24⟩
    have bBS_25 := bBS_23.below hb24
    have bBI_25 := bBI_23.below hb24
    have hS_25 := ownS_below hS_23 hb24
    have hI_25 := ownS_below hI_23 hb24
    have g_25 := bstep g_23 hb24
    clear hb24 bBS_23 bBI_23 hS_23 hI_23 g_23
    have glI : ∀ k, (.slice aI R.length cpI : Value).ownBlock = some k → w.heap.size ≤ k := fun k hk => Nat.le_trans gbI.size (hI_25.lt k hk).1
    obtain ⟨-, mBS0, mBS1, mBS2⟩ := id bBS_25
    obtain ⟨-, mBI0, mBI1, mBI2⟩ := id bBI_25
    go_wp2_with fail
    clear mBS0 mBS1 mBS2 mBI0 mBI1 mBI2
    obtain ⟨-, mBS0, mBS1, mBS2⟩ := id bBS_25
    obtain ⟨-, mBI0, mBI1, mBI2⟩ := id bBI_25
    go_wp2_with fail
    clear mBS0 mBS1 mBS2 mBI0 mBI1 mBI2
    refine (markCyl_any S T 1 (by omega) hI_25).mono ?_
    rintro e w_26 ⟨rfl, hg26, ys, hy26, hmk26⟩
    have bBS_26 := bBS_25.grown hg26 (Ne.symm apIBS)
    have bBI_26 := bBI_25.grown hg26 (Ne.symm apIBI)
    have hS_26 := World.ownsRow.kept hS_25 hg26 apSI
    have g_26 := g_25.grown hg26 g_25.size glI
    clear hg26 hI_25 bBS_25 bBI_25 hS_25
    have HMK := Lib.hid hmk26
    clear hmk26
    obtain ⟨-, mBS0, mBS1, mBS2⟩ := id bBS_26
    obtain ⟨-, mBI0, mBI1, mBI2⟩ := id bBI_26
    go_wp2_with fail
    clear mBS0 mBS1 mBS2 mBI0 mBI1 mBI2
    refine (heldCyl_any S T 1 (by omega) (Rd.of_own hy26) HMK.out).mono ?_
    rintro e w_27 ⟨rfl, hb27⟩
    have bBS_28 := bBS_26.below hb27
    have bBI_28 := bBI_26.below hb27
    have hS_28 := ownS_below hS_26 hb27
    have hI_28 := ownS_below hy26 hb27
    have g_28 := bstep g_26 hb27
    clear hb27 bBS_26 bBI_26 hS_26 hy26 g_26
    obtain ⟨-, mBS0, mBS1, mBS2⟩ := id bBS_28
    obtain ⟨-, mBI0, mBI1, mBI2⟩ := id bBI_28
    go_wp2_with fail
    clear mBS0 mBS1 mBS2 mBI0 mBI1 mBI2
    refine (toYY_any (h.below g_28) hsz).mono ?_
    rintro e w_29 ⟨vK, usK, rfl, NK_0, hb29⟩
    obtain ⟨aK, cpK, rfl⟩ := NK_0.rd.slice
    have bBS_30 := bBS_28.below hb29
    have bBI_30 := bBI_28.below hb29
    have hS_30 := ownS_below hS_28 hb29
    have hI_30 := ownS_below hI_28 hb29
    have g_30 := bstep g_28 hb29
    clear hb29 bBS_28 bBI_28 hS_28 hI_28 g_28
    obtain ⟨-, mBS0, mBS1, mBS2⟩ := id bBS_30
    obtain ⟨-, mBI0, mBI1, mBI2⟩ := id bBI_30
    go_wp2_with fail
    clear mBS0 mBS1 mBS2 mBI0 mBI1 mBI2
    have gbH := g_30
    refine (HI.out _ _ _ NK_0.rd).mono ?_
    rintro e w_31 ⟨vH, rfl, hH_0, hb31⟩
    obtain ⟨aH, cpH, rfl⟩ := ownS_slice hH_0
    have apHBS := ob_of_lt hH_0 bBS_30.1
    have apHBI := ob_of_lt hH_0 bBI_30.1
    have apSH := apartS hS_30 hH_0
    have apHS := apartS' hS_30 hH_0
    have apIH := apartS hI_30 hH_0
    have apHI := apartS' hI_30 hH_0
    have NK_32 := NK_0.below hb31
    clear NK_0
    have bBS_32 := bBS_30.below hb31
    have bBI_32 := bBI_30.below hb31
    have hS_32 := ownS_below hS_30 hb31
    have hI_32 := ownS_below hI_30 hb31
    have g_32 := bstep g_30 hb31
    clear hb31 bBS_30 bBI_30 hS_30 hI_30 g_30
    clear NK_32
    have hbA33 : Below w_31.heap.size w_31 (w_31.alloc (.cells #[.int .i64 S, .int .i64 T, .slice aH R.length cpH] 26)) := (Below.refl _ _).alloc (Nat.le_refl _) _
    have bBH_0 : Box (w_31.alloc (.cells #[.int .i64 S, .int .i64 T, .slice aH R.length cpH] 26)) w_31.heap.size S T (.slice aH R.length cpH) := box_new _ _ _ _ _
    have apSBH : (.slice aS R.length cpS : Value).ownBlock ≠ some w_31.heap.size := fun e => Nat.lt_irrefl _ (hS_32.lt _ e).2
    have apIBH : (.slice aI R.length cpI : Value).ownBlock ≠ some w_31.heap.size := fun e => Nat.lt_irrefl _ (hI_32.lt _ e).2
    have apHBH : (.slice aH R.length cpH : Value).ownBlock ≠ some w_31.heap.size := fun e => Nat.lt_irrefl _ (hH_0.lt _ e).2
    have bBS_34 := bBS_32.below hbA33
    have bBI_34 := bBI_32.below hbA33
    have hS_34 := ownS_below hS_32 hbA33
    have hI_34 := ownS_below hI_32 hbA33
    have hH_34 := ownS_below hH_0 hbA33
    have g_34 := bstep g_32 hbA33
    clear hbA33 bBS_32 bBI_32 hS_32 hI_32 hH_0 g_32
    obtain ⟨-, mBS0, mBS1, mBS2⟩ := id bBS_34
    obtain ⟨-, mBI0, mBI1, mBI2⟩ := id bBI_34
    obtain ⟨-, mBH0, mBH1, mBH2⟩ := id bBH_0
    go_wp2_with fail
    clear mBS0 mBS1 mBS2 mBI0 mBI1 mBI2 mBH0 mBH1 mBH2
    generalize (w_31.alloc (.cells #[.int .i64 S, .int .i64 T, .slice aH R.length cpH] 26)) = w_35 at *
    refine (eqCyl_same S T (Rd.of_own hH_34) (Rd.of_own hS_34)).mono ?_
    rintro e w_36 ⟨rfl, hb36⟩
    have bBS_37 := bBS_34.below hb36
    have bBI_37 := bBI_34.below hb36
    have bBH_37 := bBH_0.below hb36
    have hS_37 := ownS_below hS_34 hb36
    have hI_37 := ownS_below hI_34 hb36
    have hH_37 := ownS_below hH_34 hb36
    have g_37 := bstep g_34 hb36
    clear hb36 bBS_34 bBI_34 bBH_0 hS_34 hI_34 hH_34 g_34
    obtain ⟨-, mBS0, mBS1, mBS2⟩ := id bBS_37
    obtain ⟨-, mBI0, mBI1, mBI2⟩ := id bBI_37
    obtain ⟨-, mBH0, mBH1, mBH2⟩ := id bBH_37
    go_wp2_with fail
    clear mBS0 mBS1 mBS2 mBI0 mBI1 mBI2 mBH0 mBH1 mBH2
    refine (heldCyl_any S T 1 (by omega) (Rd.of_own hI_37) HMK.out).mono ?_
    rintro e w_38 ⟨rfl, hb38⟩
    have bBS_39 := bBS_37.below hb38
    have bBI_39 := bBI_37.below hb38
    have bBH_39 := bBH_37.below hb38
    have hS_39 := ownS_below hS_37 hb38
    have hI_39 := ownS_below hI_37 hb38
    have hH_39 := ownS_below hH_37 hb38
    have g_39 := bstep g_37 hb38
    clear hb38 bBS_37 bBI_37 bBH_37 hS_37 hI_37 hH_37 g_37
    go_wp2
    go_ret
    exact ⟨rfl, g_39⟩
  · go_enter Try.func7, Try.ntmps7
    go_wp2_with fail
    refine (szYY_no h hsz).mono ?_
    rintro e w1 ⟨rfl, hb1⟩
    go_wp2
    go_ret
    exact ⟨rfl, hb1⟩

end Go.Proofs.Ytemhmbaacpfnaaa
