/- The walk of the law FnGears: THE PROGRAM'S OWN CONTRACTS ARE PREMISES. Made by gen_gears.py. -/
import Derived.Test.YtgkkapedhiipdaaGearDraw
import Derived.Test.YtgkkapedhiipdaaRdCap
import Derived.Deep.CutRange
import Derived.Deep.RegionHeld3
namespace Go.Proofs.Ytgkkapedhiipdaa
open Go.ChangeShapes Go.WideShapes Go.ChangeAt Go.RowKit

set_option maxHeartbeats 2500000 in
set_option maxRecDepth 1000000 in
theorem gears_walk {w : World} {v : Value} {n : Nat}
    (hR : ∀ (W : World) (U : Value) (l : List (Int × Int)), Rc2 W U l → l.length ≤ 1048576 → Calls Try.prog 12 #[U] W (fun e w' => e = .returned (.tuple #[.int .i64 (ratM l).1, .int .i64 (ratM l).2]) ∧ Below W.heap.size W w'))
    (hB : ∀ (W : World) (U : Value) (l : List (Int × Int)), Rc2 W U l → l.length ≤ 1048576 → Calls Try.prog 13 #[U] W (NewGears W (gbackM l)))
    (hL : ∀ (W : World) (U : Value) (l : List (Int × Int)), Rc2 W U l → l.length ≤ 1048576 → Calls Try.prog 14 #[U] W (fun e w' => e = .returned (.int .i64 (ratM l).2) ∧ Below W.heap.size W w'))
    (hT : ∀ (W : World) (U : Value) (l : List (Int × Int)) (n : Int), Rc2 W U l → l.length ≤ 1048576 → Calls Try.prog 15 #[U, .int .i64 n] W (fun e w' => e = .returned (.tuple #[.int .i64 (gturnsM l n).1, .bool (gturnsM l n).2]) ∧ Below W.heap.size W w'))
    (hG : ∀ (W : World) (p : Int × Int), Calls Try.prog 16 #[.agg #[.int .i64 p.1, .int .i64 p.2]] W (fun e w' => e = .returned (.bool (gearB p)) ∧ Below W.heap.size W w'))
    (hF : ∀ (W : World) (top bottom : Int), Calls Try.prog 17 #[.int .i64 top, .int .i64 bottom] W (GearAns W (gearsM top bottom).1 (gearsM top bottom).2))
    (hC : Code w w.heap.size v n) :
    Calls Try.prog 3 #[v] w fun e w' => e = .returned (.bool true) ∧ Below w.heap.size w w' := by
  by_cases hbig : 1048576 < n
  · go_enter Try.func3, Try.ntmps3
    go_wp2_with fail
    refine (big_yes hC hbig).mono ?_
    rintro e w1 ⟨rfl, rfl⟩
    go_wp2
    go_ret
    exact ⟨rfl, Below.refl _ _⟩
  · have P := Lib.hid (And.intro hR (And.intro hB (And.intro hL (And.intro hT (And.intro hG hF)))))
    clear hR hB hL hT hG hF
    go_enter Try.func3, Try.ntmps3
    go_wp2_with fail
    refine (big_no hC hbig).mono ?_
    rintro e w1 ⟨rfl, rfl⟩
    go_wp2_with fail
    refine (drawtrain_any hC).mono ?_
    rintro e w2 ⟨l, vl, ⟨hl3, hlg⟩, rfl, ho2, hb2⟩
    obtain ⟨hR, hB, hL, hT, hG, hF⟩ := P.out
    clear P hC
    have htr : trainB l = true := trainB_true.2 ⟨by omega, hlg⟩
    obtain ⟨a, b, hab, ha, hb, ha2, hb2', hgc⟩ := ratM_parts htr
    -- what each call answers
    have HR1 : Hid (∀ (W : World) (U : Value), Rc2 W U l → Calls Try.prog 12 #[U] W (fun e w' => e = .returned (.tuple #[.int .i64 (a : Int), .int .i64 (b : Int)]) ∧ Below W.heap.size W w')) := Lib.hid fun W U h => by
      have := hR W U l h (by omega)
      rw [hab] at this
      exact this
    have HB1 : Hid (∀ (W : World) (U : Value), Rc2 W U l → Calls Try.prog 13 #[U] W (NewGears W (l.reverse.map swapG))) := Lib.hid fun W U h => by
      have := hB W U l h (by omega)
      rw [gbackM_yes htr] at this
      exact this
    have hbl : (l.reverse.map swapG).length = l.length := by simp
    have HR2 : Hid (∀ (W : World) (U : Value), Rc2 W U (l.reverse.map swapG) → Calls Try.prog 12 #[U] W (fun e w' => e = .returned (.tuple #[.int .i64 (b : Int), .int .i64 (a : Int)]) ∧ Below W.heap.size W w')) := Lib.hid fun W U h => by
      have := hR W U _ h (by omega)
      rw [back_rat htr, hab] at this
      exact this
    have HL1 : Hid (∀ (W : World) (U : Value), Rc2 W U l → Calls Try.prog 14 #[U] W (fun e w' => e = .returned (.int .i64 (b : Int)) ∧ Below W.heap.size W w')) := Lib.hid fun W U h => by
      have := hL W U l h (by omega)
      rw [hab] at this
      exact this
    have HT3 : Hid (∃ (x : Int) (ok : Bool), ok = decide (3 * (b : Int) ≤ 1000000) ∧ (ok = true → x = 3 * (a : Int)) ∧ ∀ (W : World) (U : Value), Rc2 W U l → Calls Try.prog 15 #[U, .int .i64 (3 * (b : Int))] W (fun e w' => e = .returned (.tuple #[.int .i64 x, .bool ok]) ∧ Below W.heap.size W w')) := Lib.hid (by
      by_cases hn : 3 * (b : Int) ≤ 1000000
      · refine ⟨3 * (a : Int), true, (decide_eq_true hn).symm, fun _ => rfl, fun W U h => ?_⟩
        have := hT W U l (3 * (b : Int)) h (by omega)
        rw [turns_three htr hab hb hn] at this
        exact this
      · refine ⟨0, false, (decide_eq_false hn).symm, (fun q => by cases q), fun W U h => ?_⟩
        have := hT W U l (3 * (b : Int)) h (by omega)
        rw [turns_big (by omega)] at this
        exact this)
    have HTB : Hid (∃ (y : Int) (back : Bool), (3 * (a : Int) ≤ 1000000 → back = true ∧ y = 3 * (b : Int)) ∧ ∀ (W : World) (U : Value), Rc2 W U (l.reverse.map swapG) → Calls Try.prog 15 #[U, .int .i64 (3 * (a : Int))] W (fun e w' => e = .returned (.tuple #[.int .i64 y, .bool back]) ∧ Below W.heap.size W w')) := Lib.hid (by
      by_cases hn : 3 * (a : Int) ≤ 1000000
      · refine ⟨3 * (b : Int), true, fun _ => ⟨rfl, rfl⟩, fun W U h => ?_⟩
        have := hT W U _ (3 * (a : Int)) h (by omega)
        rw [turns_back htr hab ha hn] at this
        exact this
      · refine ⟨0, false, fun q => absurd q hn, fun W U h => ?_⟩
        have := hT W U _ (3 * (a : Int)) h (by omega)
        rw [turns_big (by omega)] at this
        exact this)
    have HTL : Hid (1 < b → ∀ (W : World) (U : Value), Rc2 W U l → Calls Try.prog 15 #[U, .int .i64 ((b : Int) - 1)] W (fun e w' => e = .returned (.tuple #[.int .i64 0, .bool false]) ∧ Below W.heap.size W w')) := Lib.hid fun hb1 W U h => by
      have := hT W U l ((b : Int) - 1) h (by omega)
      rw [turns_less hab hgc hb1] at this
      exact this
    have HGK : Hid (∀ (k : Nat) (p : Int × Int), l[k]? = some p → GearP p ∧ (∀ W : World, Calls Try.prog 16 #[.agg #[.int .i64 p.1, .int .i64 p.2]] W (fun e w' => e = .returned (.bool true) ∧ Below W.heap.size W w')) ∧ ∃ g : Int × Int, (g.1 * p.2 = p.1 * g.2 ∧ g.1 ≤ p.1 ∧ (6 ≤ g.1 ∧ g.1 ≤ 120) ∧ (6 ≤ g.2 ∧ g.2 ≤ 120)) ∧ ∀ W : World, Calls Try.prog 17 #[.int .i64 p.1, .int .i64 p.2] W (fun e w' => e = .returned (.tuple #[.agg #[.int .i64 g.1, .int .i64 g.2], .bool true]) ∧ Below W.heap.size W w')) := Lib.hid fun k p hp => by
      have hpg := hlg p (List.mem_of_getElem? hp)
      refine ⟨hpg, fun W => ?_, ?_⟩
      · have := hG W p
        rw [gearB_true.2 hpg] at this
        exact this
      · obtain ⟨g, hg, hrest⟩ := gears_self hpg
        refine ⟨g, hrest, fun W => ?_⟩
        have := hF W p.1 p.2
        rw [hg] at this
        exact this
    have HFH : Hid (∀ W : World, Calls Try.prog 17 #[.int .i64 1, .int .i64 2] W (GearAns W (6, 12) true)) := Lib.hid fun W => by
      have := hF W 1 2
      rw [gears_half] at this
      exact this
    have hbl2 : Hid ((l.reverse.map swapG).length = l.length) := Lib.hid hbl
    clear hR hB hL hT hG hF htr hab hgc hlg hbl
    generalize l.reverse.map swapG = L2 at *
    have ewb : IntKind.i64.wrap (3 * (b : Int)) = 3 * (b : Int) := IntWalk.i64_in _ (by omega)
    have ewa : IntKind.i64.wrap (3 * (a : Int)) = 3 * (a : Int) := IntWalk.i64_in _ (by omega)
    have ewl : IntKind.i64.wrap ((b : Int) - 1) = (b : Int) - 1 := IntWalk.i64_in _ (by omega)
    obtain ⟨al, cl, rfl⟩ := ownS_slice ho2
    go_wp2_with fail
    refine (HR1.out _ _ (Rc2.of_own ho2)).mono ?_
    rintro e w3 ⟨rfl, k3⟩
    have o3 := ownS_below ho2 k3
    have g3 := bstep hb2 k3
    clear k3 ho2 hb2
    go_wp2_with fail
    refine (HB1.out _ _ (Rc2.of_own o3)).mono ?_
    rintro e w4 ⟨vt, rfl, t4, k4⟩
    obtain ⟨at_, ct, rfl⟩ := ownS_slice t4
    have o4 := ownS_below o3 k4
    have g4 := bstep g3 k4
    clear k4 o3 g3
    go_wp2_with fail
    refine (HR2.out _ _ (Rc2.of_own t4)).mono ?_
    rintro e w5 ⟨rfl, k5⟩
    have o5 := ownS_below o4 k5
    have t5 := ownS_below t4 k5
    have g5 := bstep g4 k5
    clear k5 o4 t4 g4
    go_wp2_with fail
    refine (HL1.out _ _ (Rc2.of_own o5)).mono ?_
    rintro e w6 ⟨rfl, k6⟩
    have o6 := ownS_below o5 k6
    have t6 := ownS_below t5 k6
    have g6 := bstep g5 k6
    clear k6 o5 t5 g5
    obtain ⟨x, ok, hok, hx, HTX⟩ := HT3.out
    have HOK := Lib.hid hok
    have HX := Lib.hid hx
    have HTX := Lib.hid HTX
    clear HT3 hok hx
    go_wp2_with fail
    refine (HTX.out _ _ (Rc2.of_own o6)).mono ?_
    rintro e w7 ⟨rfl, k7⟩
    have o7 := ownS_below o6 k7
    have t7 := ownS_below t6 k7
    have g7 := bstep g6 k7
    clear k7 o6 t6 g6 HTX HL1 HR1 HR2 HB1
    have hlen : (L2.length : Int) = (l.length : Int) := by rw [hbl2.out]
    have hlenb : ((L2.length : Int) == (l.length : Int)) = true := by rw [beq_iff_eq]; exact hlen
    have HLN := Lib.hid hlen
    clear hlen
    have ha1 : ¬ (a : Int) < 1 := by omega
    have hb1 : ¬ (b : Int) < 1 := by omega
    go_upto_region 9 with fail
    go_cut [91] from 46 to 91 (fun s91 wx => s91 = .bool false ∧ w7 = wx)
    case first =>
      by_cases hn : 3 * (b : Int) ≤ 1000000
      · obtain rfl : ok = true := by rw [HOK.out]; exact decide_eq_true hn
        obtain rfl : x = 3 * (a : Int) := HX.out rfl
        go_wp2_with fail
        go_meet
        exact ⟨by first | rfl | (simp; done) | (simp; omega), rfl⟩
      · obtain rfl : ok = false := by rw [HOK.out]; exact decide_eq_false hn
        go_wp2_with fail
        go_meet
        exact ⟨by first | rfl | (simp; done) | (simp; omega), rfl⟩
    case rest =>
    obtain ⟨rfl, rfl⟩ := hcut
    clear ha1 hb1 hlenb
    have o8 := o7
    clear o7
    -- there and back
    go_upto_if 92 with fail
    go_cut [] from 93 to 110 (fun wx => Below w7.heap.size w7 wx)
    case first =>
      obtain ⟨y, back, hyb, HTBC⟩ := HTB.out
      have HTBC := Lib.hid HTBC
      cases ok with
      | false =>
        go_wp2_with fail
        go_meet
        exact Below.refl _ _
      | true =>
        obtain rfl : x = 3 * (a : Int) := HX.out rfl
        go_wp2_with fail
        refine (HTBC.out _ _ (Rc2.of_own t7)).mono ?_
        rintro e w8 ⟨rfl, k8⟩
        by_cases hn : 3 * (a : Int) ≤ 1000000
        · obtain ⟨rfl, rfl⟩ := hyb hn
          go_wp2_with fail
          go_meet
          exact k8
        · clear hyb
          go_wp2_with fail
          go_meet
          exact k8
    case rest =>
    rename World => w8
    have k8 : Below w7.heap.size w7 w8 := hcut
    have o9 := ownS_below o8 k8
    have g9 := bstep g7 k8
    clear hcut k8 o8 g7 t7 HTB HX HOK
    -- one turn less
    go_upto_if 112 with fail
    go_cut [] from 111 to 120 (fun wx => Below w8.heap.size w8 wx)
    case first =>
      by_cases h1 : 1 < b
      · have h1i : (1 : Int) < (b : Int) := by omega
        have h1d : decide ((1 : Int) < (b : Int)) = true := decide_eq_true h1i
        have HTC := Lib.hid (HTL.out h1)
        go_wp2_with fail
        refine (HTC.out _ _ (Rc2.of_own o9)).mono ?_
        rintro e w10 ⟨rfl, k10⟩
        go_wp2_with fail
        go_meet
        exact k10
      · have h1i : ¬ (1 : Int) < (b : Int) := by omega
        have h1d : decide ((1 : Int) < (b : Int)) = false := decide_eq_false h1i
        go_wp2_with fail
        go_meet
        exact Below.refl _ _
    case rest =>
    rename World => w9
    have k9 : Below w8.heap.size w8 w9 := hcut
    have o10 := ownS_below o9 k9
    have g10 := bstep g9 k9
    clear hcut k9 o9 g9 HTL
    have HR10 := Lib.hid (Rd.of_own o10 : Rd2 w9 _ l)
    clear o10
    -- each gear
    go_wp2_with fail
    go_loopw [16] (fun v16 wr => ∃ k : Nat, k ≤ l.length ∧ v16 = .int .i64 (k : Int) ∧ Below w9.heap.size w9 wr) (fun v16 _ => l.length - (intOf v16).toNat)
    case atStart => exact ⟨0, Nat.zero_le _, rfl, Below.refl _ _⟩
    case round =>
      obtain ⟨k, hk, rfl, hbr⟩ := hrel
      by_cases hlt : k < l.length
      · obtain ⟨q, hq⟩ : ∃ q, l[k]? = some q := ⟨_, List.getElem?_eq_getElem hlt⟩
        obtain ⟨hqg, hgok, g, ⟨hg1, hg2, hg3, hg4⟩, hgf⟩ := HGK.out k q hq
        have HGO := Lib.hid hgok
        have HGF := Lib.hid hgf
        obtain ⟨b1, o1, c1, hv1, x0, y0⟩ := Rd2.cells (Rd.below HR10.out hbr) hq
        simp only [Value.slice.injEq, true_and] at hv1
        obtain ⟨rfl, rfl⟩ := hv1
        clear hgok hgf hq
        have hlti : (k : Int) < (l.length : Int) := by omega
        go_wp2_with fail
        refine (HGO.out _).mono ?_
        rintro e w11 ⟨rfl, k11⟩
        have x1 := kept_b k11 x0
        have y1 := kept_b k11 y0
        have g11 := bstep hbr k11
        clear k11 x0 y0 hbr
        go_upto_region 24 with fail
        go_cut [17, 18] from 133 to 146 (fun s17 s18 wx => ∃ bg : Nat, s17 = .pointer (some ⟨bg, 0, none⟩) ∧ s18 = .bool true ∧ Box2 wx bg (.int .i64 g.1) (.int .i64 g.2) ∧ Below w11.heap.size w11 wx)
        case first =>
          have nx := fun o : Obj => (kept_b ((Below.refl w11.heap.size w11).alloc (Nat.le_refl _) o) x1)
          have ny := fun o : Obj => (kept_b ((Below.refl w11.heap.size w11).alloc (Nat.le_refl _) o) y1)
          have gd1 : Below w11.heap.size w11 (w11.alloc (.cells #[.int .i64 0, .int .i64 0] 34)).drew := ((Below.refl w11.heap.size w11).alloc (Nat.le_refl _) _).drew
          have bz : Box2 (w11.alloc (.cells #[.int .i64 0, .int .i64 0] 34)).drew w11.heap.size (.int .i64 0) (.int .i64 0) := box2_new w11 (.int .i64 0) (.int .i64 0) 34
          have hbl11 : w11.heap.size ≠ b1 := Nat.ne_of_gt (World.block_lt_of_cell? w11 _ x1)
          go_region_held3 (fun w' => w'.cell? ⟨b1, o1 + k * 2, none⟩ = some (.int .i64 q.1) ∧ w'.cell? ⟨b1, o1 + k * 2 + 1, none⟩ = some (.int .i64 q.2)) (go_keep)
            ((go_at_call 17; refine (HGF.out _).mono ?_; rintro e wa ⟨rfl, hba⟩; (first
              | (have q1 := kept_cell hba x1; have q2 := kept_cell hba y1; have HBX := box2_new wa (.int .i64 g.1) (.int .i64 g.2) 34; have HBL : Below w11.heap.size w11 (wa.alloc (.cells #[.int .i64 g.1, .int .i64 g.2] 34)) := (below_undrew hba).alloc (below_undrew hba).size _)
              | (have q1 := kept_b hba (nx _); have q2 := kept_b hba (ny _); have bz2 := Box2.below bz hba; obtain ⟨-, ⟨z0, z1⟩, zf⟩ := id bz2; have zf0 := zf 0; have zf1 := zf 1; have HBX := wr2_same bz2 (.int .i64 g.1) (.int .i64 g.2); have HBL : Below w11.heap.size w11 (wr2 wa w11.heap.size (.int .i64 g.1) (.int .i64 g.2)) := wr2_below (bstep gd1 hba) (Nat.le_refl _) _ _; have r1 := (wr2_cell wa (.int .i64 g.1) (.int .i64 g.2) hbl11).trans q1; have r2 := (wr2_cell wa (.int .i64 g.1) (.int .i64 g.2) hbl11).trans q2))))
          all_goals (go_wp2_with fail; go_meet; exact ⟨_, rfl, rfl, HBX, HBL⟩)
        case rest =>
        obtain ⟨bg, rfl, rfl, hX, k12⟩ := hcut
        rename World => w12
        have x2 := kept_b k12 x1
        have y2 := kept_b k12 y1
        have g12 := bstep g11 k12
        obtain ⟨-, ⟨z0, z1⟩, -⟩ := id hX
        clear x1 y1 k12 g11 hX
        obtain ⟨P, hP1⟩ : ∃ P, g.1 * q.2 = P := ⟨_, rfl⟩
        have hP2 : q.1 * g.2 = P := hg1.symm.trans hP1
        obtain ⟨⟨hq1, hq2⟩, hq3, hq4⟩ := hqg
        have hP0 : 0 ≤ P := by rw [← hP1]; exact Int.mul_nonneg (by omega) (by omega)
        have hP9 : P ≤ 120 * 120 := by rw [← hP1]; exact Int.mul_le_mul hg3.2 hq4 (by omega) (by omega)
        obtain ⟨ew1, ew2⟩ := wrap_as hP1 hP0 (by omega)
        obtain ⟨ew3, ew4⟩ := wrap_as hP2 hP0 (by omega)
        have hge : ¬ q.1 < g.1 := by omega
        clear hg1 hP1 hP2
        go_upto_region 25 with fail
        go_cut [177] from 147 to 177 (fun s177 wx => s177 = .bool false ∧ Below w12.heap.size w12 wx)
        case first =>
          go_wp2_with fail
          go_quiet (fail)
          go_wp2_with fail
          go_meet
          exact ⟨by first | rfl | (simp; done) | (simp; omega), below_drewN (Below.refl _ _) _⟩
        case rest =>
        obtain ⟨rfl, k13⟩ := hcut
        have g13 := bstep g12 k13
        clear k13 g12 x2 y2 z0 z1
        go_wp2
        go_roundw
        case rel => exact ⟨k + 1, by omega, by go_num, g13⟩
        case measure => simp [intOf]; omega
      · obtain rfl : k = l.length := by omega
        have g11 := bstep g10 hbr
        clear hbr
        have HEQ := Lib.hid (fun W : World => eql_yesG (p := (6, 12)) (q := (6, 12)) rfl W)
        go_wp2_with fail
        refine (HFH.out _).mono ?_
        rintro e w12 ⟨rfl, k12⟩
        have g12 := bstep g11 k12
        have g13 := g12.alloc g12.size (.cells #[.int .i64 6, .int .i64 12] 34)
        have heq := fun W => HEQ.out W
        clear g11 k12 g12
        go_wp2
        go_ret
        exact ⟨rfl, g13⟩
end Go.Proofs.Ytgkkapedhiipdaa
