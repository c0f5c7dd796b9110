/- The walk of the law FnFiles. Condition: the variable holds the sentinel (ErrAt). Made by gen_files.py. -/
import Derived.Test.YtfkjaofepilnkaaDoorFileDraw
import Derived.Test.YtfkjaofepilnkaaDoorFileFacts
import Derived.Test.YtfkjaofepilnkaaDoorImplSteps
import Derived.Deep.CutRange
import Derived.Deep.RegionHeld3
namespace Go.Proofs.YtfkjaofepilnkaaDoor
open Go.ChangeShapes Go.WideShapes Go.ChangeAt Go.RowKit

set_option maxHeartbeats 4000000 in
set_option maxRecDepth 1000000 in
theorem files_walk {w : World} {v : Value} {n : Nat} {a : Addr} (hE : ErrAt w a) (hC : Code w w.heap.size v n) :
    Calls Tryd.prog 3 #[v] w fun e w' => e = .returned (.bool true) ∧ Below w.heap.size w w' := by
  by_cases hbig : 1048576 < n
  · go_enter Tryd.func3, Tryd.ntmps3
    go_wp2_with fail
    refine (big_yes hC hbig).mono ?_
    rintro e w1 ⟨rfl, rfl⟩
    go_wp2
    go_ret
    exact ⟨rfl, Below.refl _ _⟩
  · obtain ⟨z0, hz0, ha0⟩ := at_fix 0 (by omega) hC (by omega)
    obtain ⟨z1, hz1, ha1⟩ := at_fix 1 (by omega) hC (by omega)
    obtain ⟨z2, hz2, ha2⟩ := at_fix 2 (by omega) hC (by omega)
    have HA0 : Hid (∀ W : World, Below w.heap.size w W → Calls Tryd.prog 9 #[v, .int .i64 0] W fun e w' => e = .returned (.int .i64 z0) ∧ W = w') := Lib.hid ha0
    have HA1 : Hid (∀ W : World, Below w.heap.size w W → Calls Tryd.prog 9 #[v, .int .i64 1] W fun e w' => e = .returned (.int .i64 z1) ∧ W = w') := Lib.hid ha1
    have HA2 : Hid (∀ W : World, Below w.heap.size w W → Calls Tryd.prog 9 #[v, .int .i64 2] W fun e w' => e = .returned (.int .i64 z2) ∧ W = w') := Lib.hid ha2
    clear ha0 ha1 ha2
    go_enter Tryd.func3, Tryd.ntmps3
    go_wp2_with fail
    refine (big_no hC hbig).mono ?_
    rintro e w1 ⟨rfl, rfl⟩
    go_wp2_with fail
    refine (drawtooth_any hC).mono ?_
    rintro e w2 ⟨t, p, r, hd, rfl, hb2⟩
    clear hC hbig
    obtain ⟨⟨ht0, ht1⟩, ⟨hp0, hp1⟩, hr0, hr1⟩ := id hd
    have HD := Lib.hid hd
    have HTO : Hid (ToothP t p r) := Lib.hid ⟨by omega, by omega, by omega⟩
    have HTB : Hid (tooB t p r = true) := Lib.hid (tooB_true.2 HTO.out)
    clear hd
    have g2 := hb2.alloc hb2.size (.cells #[.int .i64 t, .int .i64 p, .int .i64 r] 25)
    have hX := b3_new w2 t p r 25
    have HE := Lib.hid (hE.below g2)
    clear hb2 hE
    go_wp2_with fail
    generalize w2.alloc (.cells #[.int .i64 t, .int .i64 p, .int .i64 r] 25) = W2 at *
    generalize w2.heap.size = bt at *
    -- FileTip
    have HT := Lib.hid (fun W : World => tipI_any (w := W) t p r)
    have HR := Lib.hid (fun W : World => rootI_any (w := W) t p r)
    have HTE : Hid (∃ u0 u1 u2 b, tipA t p r = (u0, u1, u2, b) ∧ b = decide (p > 0) ∧ (p > 0 → u0 = t + 7 ∧ u1 = p - 1)) := Lib.hid (by
      by_cases hp : p = 0
      · exact ⟨_, _, _, _, tipA_no fun q => q.2.1 hp, by rw [decide_eq_false (by omega)], fun q => absurd hp (by omega)⟩
      · exact ⟨_, _, _, _, tipA_yes ⟨HTO.out, hp, by omega⟩, by rw [decide_eq_true (by omega)], fun q => ⟨rfl, rfl⟩⟩)
    have HRE : Hid (∃ u0 u1 u2 b, rootA t p r = (u0, u1, u2, b) ∧ b = decide (r > 0) ∧ (r > 0 → u0 = t - 11 ∧ u2 = r - 1)) := Lib.hid (by
      by_cases hp : r = 0
      · exact ⟨_, _, _, _, rootA_no fun q => q.2.1 hp, by rw [decide_eq_false (by omega)], fun q => absurd hp (by omega)⟩
      · exact ⟨_, _, _, _, rootA_yes ⟨HTO.out, hp, by omega⟩, by rw [decide_eq_true (by omega)], fun q => ⟨rfl, rfl⟩⟩)
    obtain ⟨u0, u1, u2, b1, hte, hb1, huu⟩ := HTE.out
    obtain ⟨x0, x1, x2, b2, hre, hb2, hxx⟩ := HRE.out
    rw [hte] at HT
    rw [hre] at HR
    have HB1 := Lib.hid hb1
    have HB2 := Lib.hid hb2
    have HUU := Lib.hid huu
    have HXX := Lib.hid hxx
    clear HTE HRE hte hre hb1 hb2 huu hxx
    obtain ⟨-, ⟨y0, y1, y2⟩, -⟩ := id hX
    refine (HT.out _).mono ?_
    rintro e w4 ⟨rfl, k4⟩
    have kA : Below w4.heap.size w4 (w4.alloc (.cells #[.int .i64 u0, .int .i64 u1, .int .i64 u2] 25)) := (Below.refl _ _).alloc (Nat.le_refl _) _
    have g4 := bstep (bstep g2 k4) kA
    have hX4 := (hX.below k4).below kA
    have HE4 := Lib.hid ((HE.out.below k4).below kA)
    have hU := b3_new w4 u0 u1 u2 25
    clear g2 k4 kA hX y0 y1 y2 HE HT
    obtain ⟨-, ⟨y0, y1, y2⟩, -⟩ := id hX4
    go_wp2_with fail
    generalize w4.alloc (.cells #[.int .i64 u0, .int .i64 u1, .int .i64 u2] 25) = W4 at *
    generalize w4.heap.size = bu at *
    refine (HR.out _).mono ?_
    rintro e w5 ⟨rfl, k5⟩
    have kA : Below w5.heap.size w5 (w5.alloc (.cells #[.int .i64 x0, .int .i64 x1, .int .i64 x2] 25)) := (Below.refl _ _).alloc (Nat.le_refl _) _
    have g5 := bstep (bstep g4 k5) kA
    have hX5 := (hX4.below k5).below kA
    have hU5 := (hU.below k5).below kA
    have HE5 := Lib.hid ((HE4.out.below k5).below kA)
    have hV := b3_new w5 x0 x1 x2 25
    clear g4 k5 kA hX4 hU y0 y1 y2 HE4 HR
    obtain ⟨-, ⟨y0, y1, y2⟩, -⟩ := id hX5
    obtain ⟨-, ⟨p0, p1, p2⟩, -⟩ := id hU5
    obtain ⟨-, ⟨q0, q1, q2⟩, -⟩ := id hV
    go_upto_region 6 with fail
    generalize w5.alloc (.cells #[.int .i64 x0, .int .i64 x1, .int .i64 x2] 25) = W5 at *
    generalize w5.heap.size = bd at *
    go_cut [87] from 38 to 87 (fun s87 wx => s87 = .bool false ∧ W5 = wx)
    case first =>
      have e7 : IntKind.i64.wrap (t + 7) = t + 7 := IntWalk.i64_in _ (by omega)
      have e11 : IntKind.i64.wrap (t - 11) = t - 11 := IntWalk.i64_in _ (by omega)
      have ep : IntKind.i64.wrap (p - 1) = p - 1 := IntWalk.i64_in _ (by omega)
      have er : IntKind.i64.wrap (r - 1) = r - 1 := IntWalk.i64_in _ (by omega)
      by_cases hpp : p > 0
      · obtain ⟨rfl, rfl⟩ := HUU.out hpp
        have hpd : decide (p > 0) = true := decide_eq_true hpp
        have hb1 : b1 = true := HB1.out.trans hpd
        subst hb1
        by_cases hrr : r > 0
        · obtain ⟨rfl, rfl⟩ := HXX.out hrr
          have hrd : decide (r > 0) = true := decide_eq_true hrr
          have hb2 : b2 = true := HB2.out.trans hrd
          subst hb2
          go_wp2_with fail
          go_meet
          exact ⟨rfl, rfl⟩
        · have hrd : decide (r > 0) = false := decide_eq_false hrr
          have hb2 : b2 = false := HB2.out.trans hrd
          subst hb2
          go_wp2_with fail
          go_meet
          exact ⟨rfl, rfl⟩
      · have hpd : decide (p > 0) = false := decide_eq_false hpp
        have hb1 : b1 = false := HB1.out.trans hpd
        subst hb1
        by_cases hrr : r > 0
        · obtain ⟨rfl, rfl⟩ := HXX.out hrr
          have hrd : decide (r > 0) = true := decide_eq_true hrr
          have hb2 : b2 = true := HB2.out.trans hrd
          subst hb2
          go_wp2_with fail
          go_meet
          exact ⟨rfl, rfl⟩
        · have hrd : decide (r > 0) = false := decide_eq_false hrr
          have hb2 : b2 = false := HB2.out.trans hrd
          subst hb2
          go_wp2_with fail
          go_meet
          exact ⟨rfl, rfl⟩
    case rest =>
    obtain ⟨rfl, rfl⟩ := hcut
    clear p0 p1 p2 q0 q1 q2 hU5 hV HUU HXX HB1 HB2
    -- the files that are drawn
    have ep : IntKind.i64.wrap (p + 1) = p + 1 := IntWalk.i64_in _ (by omega)
    have er : IntKind.i64.wrap (r + 1) = r + 1 := IntWalk.i64_in _ (by omega)
    have epz : ((p + 1 : Int) == 0) = false := by rw [beq_eq_false_iff_ne]; omega
    have erz : ((r + 1 : Int) == 0) = false := by rw [beq_eq_false_iff_ne]; omega
    have hpn : ¬ p + 1 = 0 := by omega
    have hrn : ¬ r + 1 = 0 := by omega
    have t0 : z0.tmod (p + 1) = z0 % (p + 1) := Int.tmod_eq_emod_of_nonneg hz0.1
    have t1 : z1.tmod (r + 1) = z1 % (r + 1) := Int.tmod_eq_emod_of_nonneg hz1.1
    have l0 : 0 ≤ z0 % (p + 1) := Int.emod_nonneg _ (by omega)
    have l1 : z0 % (p + 1) < p + 1 := Int.emod_lt_of_pos _ (by omega)
    have l2 : 0 ≤ z1 % (r + 1) := Int.emod_nonneg _ (by omega)
    have l3 : z1 % (r + 1) < r + 1 := Int.emod_lt_of_pos _ (by omega)
    generalize hA : z0 % (p + 1) = A at *
    generalize hB : z1 % (r + 1) = B at *
    have eA : IntKind.i64.wrap A = A := IntWalk.i64_in _ (by omega)
    have eB : IntKind.i64.wrap B = B := IntWalk.i64_in _ (by omega)
    have gN := g5
    go_upto_region 8 with fail
    go_cut [8] from 88 to 93 (fun s8 wx => s8 = .int .i64 A ∧ Below W5.heap.size W5 wx)
    case first =>
      go_region_held3 (fun w' => w'.cell? ⟨bt, 1, none⟩ = some (.int .i64 p)) (go_keep)
        ((go_at_call 9; (with_reducible refine (HA0.out _ ?atg).mono ?_); (case atg => first | exact gN.drew | exact gN | exact below_drewN gN _); rintro e wa ⟨rfl, rfl⟩))
      all_goals (go_wp2_with fail; go_meet; exact ⟨by first | rfl | rw [hnw] | go_num, below_drewN (Below.refl _ _) _⟩)
    case rest =>
    obtain ⟨rfl, hcb⟩ := hcut
    rename World => w6
    have g6 := bstep g5 hcb
    have HE6 := Lib.hid (HE5.out.below hcb)
    have hX6 := hX5.below hcb
    clear g5 gN HE5 hX5 hcb y0 y1 y2 t0 ep epz HA0
    obtain ⟨-, ⟨y0, y1, y2⟩, -⟩ := id hX6
    have gN := g6
    go_upto_region 9 with fail
    go_cut [9] from 94 to 99 (fun s9 wx => s9 = .int .i64 B ∧ Below w6.heap.size w6 wx)
    case first =>
      go_region_held3 (fun w' => w'.cell? ⟨bt, 2, none⟩ = some (.int .i64 r)) (go_keep)
        ((go_at_call 9; (with_reducible refine (HA1.out _ ?atg).mono ?_); (case atg => first | exact gN.drew | exact gN | exact below_drewN gN _); rintro e wa ⟨rfl, rfl⟩))
      all_goals (go_wp2_with fail; go_meet; exact ⟨by first | rfl | rw [hnw] | go_num, below_drewN (Below.refl _ _) _⟩)
    case rest =>
    obtain ⟨rfl, hcb⟩ := hcut
    rename World => w7
    have g7 := bstep g6 hcb
    have HE7 := Lib.hid (HE6.out.below hcb)
    have hX7 := hX6.below hcb
    clear g6 gN HE6 hX6 hcb y0 y1 y2 t1 er erz HA1
    -- the tone
    have n1 : 0 ≤ z2 % 60 := Int.emod_nonneg _ (by omega)
    have n2 : z2 % 60 < 60 := Int.emod_lt_of_pos _ (by omega)
    obtain ⟨near, hnear⟩ : ∃ near, t + z2 % 60 - 30 = near := ⟨_, rfl⟩
    have hn : 0 ≤ near ∧ near ≤ 6000 := by omega
    have hnw : IntKind.i64.wrap near = near := IntWalk.i64_in _ (by omega)
    obtain ⟨⟨x, y, hs1, ⟨hx0, hx1⟩, ⟨hy0, hy1⟩, hxy, hle⟩, hcl, c, k0, k1, k2, k3, hcn, ⟨hc0, hc1⟩, hs2, hdd, hs3⟩ := files_facts HD.out ⟨l0, by omega⟩ ⟨l2, by omega⟩ hn
    obtain ⟨want, hw⟩ : ∃ want, t + 7 * A - 11 * B = want := ⟨_, rfl⟩
    rw [hw] at hs1 hxy hcl hdd
    have hwr : 0 ≤ want ∧ want ≤ 6000 := by omega
    have HS1 : Hid (∀ W, ErrAt W a → Calls Tryd.prog 10 #[.agg #[.int .i64 t, .int .i64 p, .int .i64 r], .int .i64 want] W (StAns W (x, y, true))) := Lib.hid fun W h => by rw [← hs1]; exact stI_any t p r want h
    have HCW : Hid (∀ W : World, Calls Tryd.prog 11 #[.agg #[.int .i64 t, .int .i64 p, .int .i64 r], .int .i64 want] W (fun e w' => e = .returned (.int .i64 want) ∧ Below W.heap.size W w')) := Lib.hid fun W => by have := clI_any (w := W) t p r want; rwa [hcl] at this
    have HCN : Hid (∀ W : World, Calls Tryd.prog 11 #[.agg #[.int .i64 t, .int .i64 p, .int .i64 r], .int .i64 near] W (fun e w' => e = .returned (.int .i64 c) ∧ Below W.heap.size W w')) := Lib.hid fun W => by have := clI_any (w := W) t p r near; rwa [hcn] at this
    have HS2 : Hid (∀ W, ErrAt W a → Calls Tryd.prog 10 #[.agg #[.int .i64 t, .int .i64 p, .int .i64 r], .int .i64 c] W (StAns W (k0, k1, true))) := Lib.hid fun W h => by rw [← hs2]; exact stI_any t p r c h
    have HS3 : Hid (∀ W, ErrAt W a → Calls Tryd.prog 10 #[.agg #[.int .i64 t, .int .i64 p, .int .i64 r], .int .i64 near] W (StAns W (k2, k3, decide (farA c near = 0)))) := Lib.hid fun W h => by rw [← hs3]; exact stI_any t p r near h
    have HOK : Hid (∀ W : World, Calls Tryd.prog 12 #[.agg #[.int .i64 t, .int .i64 p, .int .i64 r]] W (fun e w' => e = .returned (.bool true) ∧ Below W.heap.size W w')) := Lib.hid fun W => by have := toothI_any (w := W) t p r; rwa [HTB.out] at this
    have HDD := Lib.hid hdd
    clear hs1 hs2 hs3 hcl hcn hdd HD HTO HTB
    have e1 : IntKind.i64.wrap (7 * A) = 7 * A := IntWalk.i64_in _ (by omega)
    have e2 : IntKind.i64.wrap (t + 7 * A) = t + 7 * A := IntWalk.i64_in _ (by omega)
    have e3 : IntKind.i64.wrap (11 * B) = 11 * B := IntWalk.i64_in _ (by omega)
    have e4 : IntKind.i64.wrap (t + 7 * A - 11 * B) = want := by rw [hw]; exact IntWalk.i64_in _ (by omega)
    have e4w : IntKind.i64.wrap want = want := IntWalk.i64_in _ (by omega)
    obtain ⟨-, ⟨y0, y1, y2⟩, -⟩ := id hX7
    go_wp2_with fail
    refine (HS1.out _ HE7.out).mono ?_
    rintro e w8 ⟨rfl, k8⟩
    have g8 := bstep g7 k8
    have HE8 := Lib.hid (HE7.out.below k8)
    have hX8 := hX7.below k8
    clear g7 HE7 hX7 k8 y0 y1 y2 e1 e2 e3 e4 HS1
    obtain ⟨-, ⟨y0, y1, y2⟩, -⟩ := id hX8
    have f1 : IntKind.i64.wrap (7 * x) = 7 * x := IntWalk.i64_in _ (by omega)
    have f2 : IntKind.i64.wrap (t + 7 * x) = t + 7 * x := IntWalk.i64_in _ (by omega)
    have f3 : IntKind.i64.wrap (11 * y) = 11 * y := IntWalk.i64_in _ (by omega)
    have f4 : IntKind.i64.wrap (t + 7 * x - 11 * y) = want := by rw [hxy]; exact e4w
    have f5 : IntKind.i64.wrap (x + y) = x + y := IntWalk.i64_in _ (by omega)
    have f6 : IntKind.i64.wrap (A + B) = A + B := IntWalk.i64_in _ (by omega)
    have c1 : ¬ x > p := by omega
    have c2 : ¬ y > r := by omega
    have c3 : ¬ x < 0 := by omega
    have c4 : ¬ y < 0 := by omega
    have c5 : ¬ x + y > A + B := by omega
    go_wp2_with fail
    refine (HCW.out _).mono ?_
    rintro e w9 ⟨rfl, k9⟩
    have g9 := bstep g8 k9
    have HE9 := Lib.hid (HE8.out.below k9)
    have hX9 := hX8.below k9
    clear g8 HE8 hX8 k9 y0 y1 y2 HCW f1 f2 f3 f4 f5 f6 c1 c2 c3 c4 c5
    obtain ⟨-, ⟨y0, y1, y2⟩, -⟩ := id hX9
    have gN := g9
    have t2 : z2.tmod 60 = z2 % 60 := Int.tmod_eq_emod_of_nonneg hz2.1
    have m1 : IntKind.i64.wrap (z2 % 60) = z2 % 60 := IntWalk.i64_in _ (by omega)
    have m2 : IntKind.i64.wrap (t + z2 % 60) = t + z2 % 60 := IntWalk.i64_in _ (by omega)
    have m3 : IntKind.i64.wrap (t + z2 % 60 - 30) = near := by rw [hnear]; exact IntWalk.i64_in _ (by omega)
    go_upto_region 14 with fail
    go_cut [14] from 165 to 171 (fun s14 wx => s14 = .int .i64 near ∧ Below w9.heap.size w9 wx)
    case first =>
      go_region_held3 (fun w' => w'.cell? ⟨bt, 0, none⟩ = some (.int .i64 t)) (go_keep)
        ((go_at_call 9; (with_reducible refine (HA2.out _ ?atg).mono ?_); (case atg => first | exact gN.drew | exact gN | exact below_drewN gN _); rintro e wa ⟨rfl, rfl⟩))
      all_goals (go_wp2_with fail; go_meet; exact ⟨by first | rfl | rw [hnw] | go_num, below_drewN (Below.refl _ _) _⟩)
    case rest =>
    obtain ⟨rfl, hcb⟩ := hcut
    rename World => w10
    have g10 := bstep g9 hcb
    have HE10 := Lib.hid (HE9.out.below hcb)
    have hX10 := hX9.below hcb
    clear g9 gN HE9 hX9 hcb y0 y1 y2 t2 m1 m2 m3 HA2
    obtain ⟨-, ⟨y0, y1, y2⟩, -⟩ := id hX10
    go_wp2_with fail
    refine (HCN.out _).mono ?_
    rintro e w11 ⟨rfl, k11⟩
    have g11 := bstep g10 k11
    have HE11 := Lib.hid (HE10.out.below k11)
    have hX11 := hX10.below k11
    clear g10 HE10 hX10 k11 y0 y1 y2 HCN
    obtain ⟨-, ⟨y0, y1, y2⟩, -⟩ := id hX11
    go_wp2_with fail
    refine (HS2.out _ HE11.out).mono ?_
    rintro e w12 ⟨rfl, k12⟩
    have g12 := bstep g11 k12
    have HE12 := Lib.hid (HE11.out.below k12)
    have hX12 := hX11.below k12
    clear g11 HE11 hX11 k12 y0 y1 y2 HS2
    obtain ⟨-, ⟨y0, y1, y2⟩, -⟩ := id hX12
    have d1 : IntKind.i64.wrap (c - near) = c - near := IntWalk.i64_in _ (by omega)
    have d2 : IntKind.i64.wrap (near - c) = near - c := IntWalk.i64_in _ (by omega)
    have d3 : IntKind.i64.wrap (want - near) = want - near := IntWalk.i64_in _ (by omega)
    have d4 : IntKind.i64.wrap (near - want) = near - want := IntWalk.i64_in _ (by omega)
    have m1 := at_max (c := c) (n := near)
    have m2 := at_max (c := want) (n := near)
    generalize farA c near = D at *
    generalize farA want near = E at *
    go_wp2_with fail
    refine (HS3.out _ HE12.out).mono ?_
    rintro e w13 ⟨rfl, k13⟩
    have g13 := bstep g12 k13
    have hX13 := hX12.below k13
    clear g12 HE12 hX12 k13 y0 y1 y2 HS3 m1 m2 d1 d2 d3 d4
    obtain ⟨-, ⟨y0, y1, y2⟩, -⟩ := id hX13
    have hdd := HDD.out
    by_cases hz : D = 0
    all_goals
      first
        | (have hzd : decide (D = 0) = true := decide_eq_true hz)
        | (have hzd : decide (D = 0) = false := decide_eq_false hz)
      first
        | (have hzq : (D == 0) = true := by rw [beq_iff_eq]; exact hz)
        | (have hzq : (D == 0) = false := by rw [beq_eq_false_iff_ne]; exact hz)
      rw [hzd]
      clear hz hzd
      go_wp2_with fail
      refine (HOK.out _).mono ?_
      rintro e w14 ⟨rfl, k14⟩
      have g14 := bstep g13 k14
      clear k14 g13
      go_wp2
      go_ret
      exact ⟨rfl, g14⟩
end Go.Proofs.YtfkjaofepilnkaaDoor
