/- The walk of the law FnNearest: THE PROGRAM'S OWN CONTRACTS ARE PREMISES. Made by gen_nearest.py. -/
import Derived.Test.YtjikpkigncomfaaNearWalks
import Derived.Test.YtjikpkigncomfaaImplNear
import Derived.Test.YtjikpkigncomfaaRatioDraw
import Derived.Test.YtjikpkigncomfaaRdCap
import Derived.Deep.CutRange
import Derived.Deep.RegionHeld3
namespace Go.Proofs.Ytjikpkigncomfaa
open Go.ChangeShapes Go.WideShapes Go.ChangeAt Go.RowKit

theorem atN_any {w : World} {v : Value} {n : Nat} {B : Nat} (i : Nat) (hi : i ≤ 20) (hC : Code w B v n) (hn : n ≤ 1048576) :
    Calls Try.prog 15 #[v, .int .i64 (i : Nat)] w fun e w' => ∃ x : Int, 0 ≤ x ∧ x ≤ 255 ∧ e = .returned (.int .i64 x) ∧ w = w' := by
  rcases hC with ⟨rfl, a, cap, rfl⟩ | ⟨b, off, cap, rfl, hm, hbB, hcell⟩
  · go_enter Try.func15, Try.ntmps15
    go_wp2
    go_ret
    exact ⟨0, by omega, by omega, rfl, rfl⟩
  · unfold maxLen at hm
    by_cases h0 : n = 0
    · subst h0
      clear hcell
      go_enter Try.func15, Try.ntmps15
      go_wp2
      go_ret
      exact ⟨0, by omega, by omega, rfl, rfl⟩
    · obtain ⟨z, hz0, hz1, hz⟩ := hcell ((i * 5 + 1) % n) (Nat.mod_lt _ (by omega))
      clear hcell
      have h0' : ((n : Int) == 0) = false := by simpa using h0
      have hm0 : (0 : Int) ≤ ((i : Int) * 5 + 1) % (n : Int) := Int.emod_nonneg _ (by omega)
      have hm1 : ((i : Int) * 5 + 1) % (n : Int) < (n : Int) := Int.emod_lt_of_pos _ (by omega)
      have hm2 : (((i : Int) * 5 + 1) % (n : Int)).toNat = (i * 5 + 1) % n := by
        have e : ((i : Int) * 5 + 1) % (n : Int) = (((i * 5 + 1) % n : Nat) : Int) := by rw [Int.natCast_emod, Int.natCast_add, Int.natCast_mul]; rfl
        rw [e]; exact Int.toNat_natCast _
      go_enter Try.func15, Try.ntmps15
      go_wp2
      go_ret
      exact ⟨z, hz0, hz1, rfl, rfl⟩

set_option maxHeartbeats 1000000 in
theorem sameN_same {w : World} {v1 v2 : Value} {l : List Int} (h1 : Rd1 w v1 l) (h2 : Rd1 w v2 l) :
    Calls Try.prog 19 #[v1, v2] w fun e w' => e = .returned (.bool true) ∧ Below w.heap.size w w' := by
  obtain ⟨a1, cap1, rfl⟩ := Rd.slice h1
  obtain ⟨a2, cap2, rfl⟩ := Rd.slice h2
  have hm := h1.2.1
  unfold maxLen at hm
  go_enter Try.func19, Try.ntmps19
  go_wp2
  go_loopw [5] (fun v5 wr => ∃ j d : Nat, j ≤ l.length ∧ v5 = .int .i64 j ∧ wr = w.drewN d) (fun v5 _ => l.length - (intOf v5).toNat)
  case atStart => exact ⟨0, 0, Nat.zero_le _, rfl, rfl⟩
  case round =>
    obtain ⟨j, d, hj, rfl, rfl⟩ := hrel
    by_cases hlt : j < l.length
    · obtain ⟨x, hx⟩ : ∃ x, l[j]? = some x := ⟨_, List.getElem?_eq_getElem hlt⟩
      obtain ⟨b1, o1, c1, hv1, x1⟩ := Rd1.cell h1 hx
      obtain ⟨b2, o2, c2, hv2, x2⟩ := Rd1.cell h2 hx
      simp only [Value.slice.injEq, true_and] at hv1 hv2
      obtain ⟨rfl, rfl⟩ := hv1
      obtain ⟨rfl, rfl⟩ := hv2
      clear h1 h2 hx
      go_wp2
      go_quiet (fail)
      go_wp2
      go_roundw
      case rel => exact ⟨j + 1, _, by omega, by go_num, rfl⟩
      case measure => simp [intOf]; omega
    · obtain rfl : j = l.length := by omega
      go_wp2
      go_ret
      exact ⟨rfl, below_drewN (Below.refl _ _) _⟩

/-- All that FnNearest asks. -/
theorem nearest_facts {a b : Nat} (ha : 1 ≤ a ∧ a ≤ 200) (hb : 1 ≤ b ∧ b ≤ 200) : ∃ (Q : List Int) (g : Int × Int),
    contM (a : Int) (b : Int) = Q ∧ (1 ≤ Q.length ∧ Q.length ≤ 200) ∧ (∀ (k : Nat) (x : Int), 1 ≤ k → Q[k]? = some x → 1 ≤ x) ∧
    (Q.length ≤ 12 → ∃ c d : Int, frac3 Q = (c, d, true) ∧ c * (b : Int) = (a : Int) * d ∧ (0 ≤ c ∧ c ≤ 200) ∧ (0 ≤ d ∧ d ≤ 200)) ∧
    nearA (a : Int) (b : Int) = (g, true) ∧ GearP g ∧
    (∀ p : Int × Int, GearP p → ∃ K : Int, closM6 (a : Int) (b : Int) p.1 p.2 g.1 g.2 = K ∧ closM6 (a : Int) (b : Int) g.1 g.2 p.1 p.2 = -K ∧ (0 ≤ K ∧ K ≤ 1) ∧ ∃ e1 e2 : Int, errM (a : Int) (b : Int) g = e1 ∧ errM (a : Int) (b : Int) p = e2 ∧ 0 ≤ e1 ∧ e1 ≤ e2) ∧
    ((gearsM (a : Int) (b : Int)).2 = true → errM (a : Int) (b : Int) g = 0 ∧ g = (gearsM (a : Int) (b : Int)).1) := by
  have hoa : ok11 (a : Int) := ⟨by omega, by omega⟩
  have hob : ok11 (b : Int) := ⟨by omega, by omega⟩
  have hcs := contL_step (a := a) (b := b) (by omega)
  have hlen := contL_len a b
  refine ⟨(contL a b).map Int.ofNat, nearM (a : Int) (b : Int), contM_yes (by omega) (by omega), ⟨by rw [hcs]; simp, by rw [List.length_map]; omega⟩, fun k x hk hx => ?_, fun hl => ?_, nearA_yes ⟨hoa, hob⟩, near_gear _ _, fun p hp => ?_, fun hg => ?_⟩
  · rw [hcs, List.map_cons] at hx
    obtain ⟨k', rfl⟩ : ∃ k', k = k' + 1 := ⟨k - 1, by omega⟩
    rw [List.getElem?_cons_succ] at hx
    obtain ⟨y, hy, rfl⟩ := List.mem_map.1 (List.mem_of_getElem? hx)
    have := contL_pos (Nat.le_of_lt (Nat.mod_lt a (show 0 < b by omega))) y hy
    show (1 : Int) ≤ (y : Int)
    omega
  · rw [List.length_map] at hl
    obtain ⟨⟨c, d⟩, hp, h1, h2⟩ := frac_cont b a hb.1 (by omega) (by omega)
    have hfr := fracM_some (cont_frac hb.1 (by omega) (by omega) hl) hp
    have hgp : (1 : Int) ≤ ((Nat.gcd a b : Nat) : Int) := by have := Nat.gcd_pos_of_pos_right a hb.1; omega
    refine ⟨c, d, by unfold frac3; rw [hfr], frac_cross (p := (c, d)) h1 h2, ?_, ?_⟩
    · simp only at h1
      generalize ((Nat.gcd a b : Nat) : Int) = g at *
      by_cases hc : 0 ≤ c
      · have : c * 1 ≤ c * g := Int.mul_le_mul_of_nonneg_left hgp hc
        omega
      · have : c * g < 0 := Int.mul_neg_of_neg_of_pos (by omega) (by omega)
        omega
    · simp only at h2
      generalize ((Nat.gcd a b : Nat) : Int) = g at *
      by_cases hc : 0 ≤ d
      · have : d * 1 ≤ d * g := Int.mul_le_mul_of_nonneg_left hgp hc
        omega
      · have : d * g < 0 := Int.mul_neg_of_neg_of_pos (by omega) (by omega)
        omega
  · have hg := near_gear (a : Int) (b : Int)
    have hbest := near_best (top := (a : Int)) (bottom := (b : Int)) hp
    obtain ⟨o1, o2⟩ := ok_gear hg
    obtain ⟨o3, o4⟩ := ok_gear hp
    have hall : ok11 (a : Int) ∧ ok11 (b : Int) ∧ ok11 p.1 ∧ ok11 p.2 ∧ ok11 (nearM (a : Int) (b : Int)).1 ∧ ok11 (nearM (a : Int) (b : Int)).2 := ⟨hoa, hob, o3, o4, o1, o2⟩
    obtain ⟨l1, l2⟩ := err_least ⟨hoa, hob⟩ hp
    refine ⟨_, rfl, by rw [clos_back], ?_, _, _, rfl, rfl, l1, l2⟩
    unfold Near at hbest
    rcases Int.lt_trichotomy (farM (a : Int) (b : Int) p.1 p.2 * (nearM (a : Int) (b : Int)).2) (farM (a : Int) (b : Int) (nearM (a : Int) (b : Int)).1 (nearM (a : Int) (b : Int)).2 * p.2) with q | q | q
    · exact absurd q hbest
    · rw [clos_same hall q]; omega
    · rw [clos_more hall q]; omega
  · have he := near_exact (top := (a : Int)) (bottom := (b : Int)) (h := (gearsM (a : Int) (b : Int)).1) hoa hob (Prod.ext rfl hg)
    exact ⟨err_zero ⟨hoa, hob⟩ (near_gear _ _) he.1, he.2⟩

set_option maxHeartbeats 2500000 in
set_option maxRecDepth 1000000 in
theorem nearest_walk {w : World} {v : Value} {n : Nat}
    (hC : ∀ (W : World) (t u : Int), Calls Try.prog 11 #[.int .i64 t, .int .i64 u] W (NewInts W (contM t u)))
    (hF : ∀ (W : World) (U : Value) (q : List Int), Rc1 W U q → q.length ≤ 1048576 → Calls Try.prog 12 #[U] W (fun e w' => e = .returned (.tuple #[.int .i64 (frac3 q).1, .int .i64 (frac3 q).2.1, .bool (frac3 q).2.2]) ∧ Below W.heap.size W w'))
    (hN : ∀ (W : World) (t u : Int), Calls Try.prog 13 #[.int .i64 t, .int .i64 u] W (GearAns W (nearA t u).1 (nearA t u).2))
    (hK : ∀ (W : World) (t u a b c d : Int), Calls Try.prog 16 #[.int .i64 t, .int .i64 u, .int .i64 a, .int .i64 b, .int .i64 c, .int .i64 d] W (fun e w' => e = .returned (.int .i64 (closM6 t u a b c d)) ∧ Below W.heap.size W w'))
    (hE : ∀ (W : World) (t u : Int) (p : Int × Int), Calls Try.prog 17 #[.int .i64 t, .int .i64 u, .agg #[.int .i64 p.1, .int .i64 p.2]] W (fun e w' => e = .returned (.int .i64 (errM t u p)) ∧ Below W.heap.size W w'))
    (hCd : Code w w.heap.size v n) :
    Calls Try.prog 3 #[v] w fun e w' => e = .returned (.bool true) ∧ Below w.heap.size w w' := by
  by_cases hbig : 1048576 < n
  · go_enter Try.func3, Try.ntmps3
    go_wp2_with fail
    refine (big_yes hCd hbig).mono ?_
    rintro e w1 ⟨rfl, rfl⟩
    go_wp2
    go_ret
    exact ⟨rfl, Below.refl _ _⟩
  · have P := Lib.hid (And.intro hC (And.intro hF (And.intro hN (And.intro hK hE))))
    clear hC hF hN hK hE
    go_enter Try.func3, Try.ntmps3
    go_wp2_with fail
    refine (big_no hCd hbig).mono ?_
    rintro e w1 ⟨rfl, rfl⟩
    go_wp2_with fail
    refine (drawratio_any hCd).mono ?_
    rintro e w2 ⟨a, b, ha, hb, rfl, hb2⟩
    have HCD := Lib.hid hCd
    obtain ⟨Q, g, hQ, hQl, hQp, hQf, hNA, hgp, hP, hX⟩ := nearest_facts ha hb
    obtain ⟨hC, hF, hN, hK, hE⟩ := P.out
    clear P hCd
    have HC1 : Hid (∀ W : World, Calls Try.prog 11 #[.int .i64 (a : Int), .int .i64 (b : Int)] W (NewInts W Q)) := Lib.hid fun W => by
      have := hC W (a : Int) (b : Int); rw [hQ] at this; exact this
    have HC2 : Hid (∀ W : World, Calls Try.prog 11 #[.int .i64 355, .int .i64 113] W (NewInts W [3, 7, 16])) := Lib.hid fun W => by
      have := hC W 355 113; rw [cont_355] at this; exact this
    have HFR : Hid (Q.length ≤ 12 → ∃ c d : Int, c * (b : Int) = (a : Int) * d ∧ (0 ≤ c ∧ c ≤ 200) ∧ (0 ≤ d ∧ d ≤ 200) ∧ ∀ (W : World) (U : Value), Rc1 W U Q → Calls Try.prog 12 #[U] W (fun e w' => e = .returned (.tuple #[.int .i64 c, .int .i64 d, .bool true]) ∧ Below W.heap.size W w')) := Lib.hid fun hl => by
      obtain ⟨c, d, h1, h2, h3, h4⟩ := hQf hl
      refine ⟨c, d, h2, h3, h4, fun W U h => ?_⟩
      have := hF W U Q h (by omega)
      rw [h1] at this; exact this
    have HNG : Hid (∀ W : World, Calls Try.prog 13 #[.int .i64 (a : Int), .int .i64 (b : Int)] W (fun e w' => e = .returned (.tuple #[.agg #[.int .i64 g.1, .int .i64 g.2], .bool true]) ∧ Below W.heap.size W w')) := Lib.hid fun W => by
      have := hN W (a : Int) (b : Int); rw [hNA] at this; exact this
    have HPP := Lib.hid hP
    have HXX := Lib.hid hX
    have HKK := Lib.hid hK
    have HEE := Lib.hid hE
    have HQP := Lib.hid hQp
    have HGB : Hid (gearB g = true) := Lib.hid (gearB_true.2 hgp)
    clear hC hF hN hK hE hQ hQp hQf hNA hgp hP hX
    go_wp2_with fail
    refine (HC1.out _).mono ?_
    rintro e w3 ⟨vq, rfl, o3, k3⟩
    have g3 := bstep hb2 k3
    obtain ⟨aq, cq, rfl⟩ := ownS_slice o3
    have hq0 : ((Q.length : Int) == 0) = false := by rw [beq_eq_false_iff_ne]; omega
    go_upto_if 32 with fail
    go_cut [] from 30 to 49 (fun wx => Below w3.heap.size w3 wx)
    case first =>
      by_cases hl : Q.length ≤ 12
      · have hli : (Q.length : Int) ≤ 12 := by omega
        obtain ⟨c, d, hcd, hc, hd, hfr⟩ := HFR.out hl
        have HFC := Lib.hid hfr
        obtain ⟨R, hR1⟩ : ∃ R, c * (b : Int) = R := ⟨_, rfl⟩
        have hR2 : (a : Int) * d = R := hcd.symm.trans hR1
        have hR0 : 0 ≤ R := by rw [← hR1]; exact Int.mul_nonneg hc.1 (by omega)
        have hR9 : R ≤ 200 * 200 := by rw [← hR1]; exact Int.mul_le_mul hc.2 (by omega) (by omega) (by omega)
        obtain ⟨e1, e2⟩ := wrap_in hR1 (by omega) (by omega)
        obtain ⟨e3, e4⟩ := wrap_in hR2 (by omega) (by omega)
        clear hfr hcd hR1 hR2
        go_wp2_with fail
        refine (HFC.out _ _ (Rc1.of_own o3)).mono ?_
        rintro e w4 ⟨rfl, k4⟩
        go_wp2_with fail
        go_meet
        exact k4
      · have hli : ¬ (Q.length : Int) ≤ 12 := by omega
        go_wp2_with fail
        go_meet
        exact Below.refl _ _
    case rest =>
    rename World => w4
    have k4 : Below w3.heap.size w3 w4 := hcut
    have o4 := ownS_below o3 k4
    have g4 := bstep g3 k4
    clear hcut k3 k4 o3 g3 HFR HC1
    have HQ4 := Lib.hid (Rd.of_own o4 : Rd1 w4 _ Q)
    clear o4
    go_wp2_with fail
    go_loopw [9] (fun v9 wr => ∃ k : Nat, 1 ≤ k ∧ k ≤ Q.length ∧ v9 = .int .i64 (k : Int) ∧ wr = w4) (fun v9 _ => Q.length - (intOf v9).toNat)
    case atStart => exact ⟨1, by omega, hQl.1, rfl, rfl⟩
    case round =>
      obtain ⟨k, hk1, hk, rfl, rfl⟩ := hrel
      by_cases hlt : k < Q.length
      · obtain ⟨x, hx⟩ : ∃ x, Q[k]? = some x := ⟨_, List.getElem?_eq_getElem hlt⟩
        have hx1 := HQP.out k x hk1 hx
        obtain ⟨b1, o1, c1, hv1, x1⟩ := Rd1.cell HQ4.out hx
        simp only [Value.slice.injEq, true_and] at hv1
        obtain ⟨rfl, rfl⟩ := hv1
        have hx2 : ¬ x < 1 := by omega
        clear hx
        go_wp2
        go_roundw
        case rel => exact ⟨k + 1, by omega, by omega, by go_num, trivial⟩
        case measure => simp [intOf]; omega
      · obtain rfl : k = Q.length := by omega
        clear HQP hq0
        go_wp2_with fail
        refine (HNG.out _).mono ?_
        rintro e w5 ⟨rfl, k5⟩
        have g5 := bstep g4 k5
        have gA := g5.alloc g5.size (.cells #[.int .i64 g.1, .int .i64 g.2] 31)
        have hX := box2_new w5 (.int .i64 g.1) (.int .i64 g.2) 31
        clear k5 g5 g4 HNG HQ4
        go_wp2_with fail
        generalize w5.alloc (.cells #[.int .i64 g.1, .int .i64 g.2] 31) = W5 at *
        generalize w5.heap.size = bg at *
        refine (gearG_any g).mono ?_
        rintro e w6 ⟨rfl, k6⟩
        rw [HGB.out]
        have hX6 := hX.below k6
        have g6 := bstep gA k6
        clear hX k6 gA
        go_wp2_with fail
        refine (atN_any 0 (by omega) (HCD.out.below g6) (by omega)).mono ?_
        rintro e w7 ⟨x, hx0, hx1, rfl, rfl⟩
        have hx2 : 0 ≤ x % 115 := Int.emod_nonneg _ (by omega)
        have hx3 : x % 115 ≤ 114 := by omega
        have ewx : IntKind.i64.wrap (6 + x % 115) = 6 + x % 115 := IntWalk.i64_in _ (by omega)
        go_wp2_with fail
        refine (atN_any 1 (by omega) (HCD.out.below g6) (by omega)).mono ?_
        rintro e w7 ⟨y, hy0, hy1, rfl, rfl⟩
        have hy2 : 0 ≤ y % 115 := Int.emod_nonneg _ (by omega)
        have hy3 : y % 115 ≤ 114 := by omega
        have ewy : IntKind.i64.wrap (6 + y % 115) = 6 + y % 115 := IntWalk.i64_in _ (by omega)
        go_upto_region 21 with fail
        obtain ⟨K, hK1, hK2, hK0, e1, e2, he1, he2, he3, he4⟩ := HPP.out (6 + x % 115, 6 + y % 115) ⟨⟨by show 6 ≤ 6 + x % 115; omega, by show 6 + x % 115 ≤ 120; omega⟩, ⟨by show 6 ≤ 6 + y % 115; omega, by show 6 + y % 115 ≤ 120; omega⟩⟩
        simp only at hK1 hK2
        have HK1 : Hid (∀ W : World, Calls Try.prog 16 #[.int .i64 (a : Int), .int .i64 (b : Int), .int .i64 (6 + x % 115), .int .i64 (6 + y % 115), .int .i64 g.1, .int .i64 g.2] W (fun e w' => e = .returned (.int .i64 K) ∧ Below W.heap.size W w')) := Lib.hid fun W => by
          have := HKK.out W (a : Int) (b : Int) (6 + x % 115) (6 + y % 115) g.1 g.2; rw [hK1] at this; exact this
        have HK2 : Hid (∀ W : World, Calls Try.prog 16 #[.int .i64 (a : Int), .int .i64 (b : Int), .int .i64 g.1, .int .i64 g.2, .int .i64 (6 + x % 115), .int .i64 (6 + y % 115)] W (fun e w' => e = .returned (.int .i64 (-K)) ∧ Below W.heap.size W w')) := Lib.hid fun W => by
          have := HKK.out W (a : Int) (b : Int) g.1 g.2 (6 + x % 115) (6 + y % 115); rw [hK2] at this; exact this
        have HE1 : Hid (∀ W : World, Calls Try.prog 17 #[.int .i64 (a : Int), .int .i64 (b : Int), .agg #[.int .i64 g.1, .int .i64 g.2]] W (fun e w' => e = .returned (.int .i64 e1) ∧ Below W.heap.size W w')) := Lib.hid fun W => by
          have := HEE.out W (a : Int) (b : Int) g; rw [he1] at this; exact this
        have HE2 : Hid (∀ W : World, Calls Try.prog 17 #[.int .i64 (a : Int), .int .i64 (b : Int), .agg #[.int .i64 (6 + x % 115), .int .i64 (6 + y % 115)]] W (fun e w' => e = .returned (.int .i64 e2) ∧ Below W.heap.size W w')) := Lib.hid fun W => by
          have := HEE.out W (a : Int) (b : Int) (6 + x % 115, 6 + y % 115); rw [he2] at this; exact this
        rw [he1] at HXX
        have hKd1 : decide (K < 0) = false := decide_eq_false (by omega)
        have hKd2 : decide (0 < -K) = false := decide_eq_false (by omega)
        have ewk : IntKind.i64.wrap (-(-K)) = K := by rw [Int.neg_neg]; exact IntWalk.i64_in _ (by omega)
        have ewk2 : IntKind.i64.wrap K = K := IntWalk.i64_in _ (by omega)
        have ewk3 : wrap64 K = K := by unfold wrap64; omega
        clear hK1 hK2 he1 he2 HPP HKK HEE hx0 hx1 hx2 hx3 hy0 hy1 hy2 hy3 ewx ewy
        generalize 6 + x % 115 = X at *
        generalize 6 + y % 115 = Y at *
        obtain ⟨-, ⟨x0, x1⟩, -⟩ := id hX6
        go_cut [125] from 82 to 125 (fun s125 wx => s125 = .bool false ∧ Below w6.heap.size w6 wx)
        case first =>
          refine wp_region_held_drew (S := fun w' => w'.cell? ⟨bg, 0, none⟩ = some (.int .i64 g.1) ∧ w'.cell? ⟨bg, 1, none⟩ = some (.int .i64 g.2)) (by kernel_rfl) ?_ (fun hHeld => ?_)
          · (try dsimp only); go_keep
          refine wpAnyH_take (i := 0) (oi := { dst := some 82, op := _, type := _, pos := _, after := _, guard := _ }) (v := ?v82n1) rfl (by kernel_rfl) (by kernel_rfl) (by kernel_rfl) (fun _ _ _ h => h) (Or.inl ⟨by rfl, ?hy82n1⟩) (by assumption) ?rest82n1
          case hy82n1 => ((intro w' hSw; (try dsimp only at hSw); go_simp); try (with_reducible rfl))
          try simp only [Act.put, List.setIfInBounds_toArray, List.set_cons_zero, List.set_cons_succ]
          refine wpAnyH_take (i := 1) (oi := { dst := some 83, op := _, type := _, pos := _, after := _, guard := _ }) (v := ?v83n2) rfl (by kernel_rfl) (by kernel_rfl) (by kernel_rfl) (fun _ _ _ h => h) (Or.inl ⟨by rfl, ?hy83n2⟩) (by assumption) ?rest83n2
          case hy83n2 => ((intro w' hSw; (try dsimp only at hSw); go_simp); try (with_reducible rfl))
          try simp only [Act.put, List.setIfInBounds_toArray, List.set_cons_zero, List.set_cons_succ]
          refine wpAnyH_take (i := 2) (oi := { dst := some 84, op := _, type := _, pos := _, after := _, guard := _ }) (v := ?v84n3) rfl (by kernel_rfl) (by kernel_rfl) (by kernel_rfl) (fun _ _ _ h => h) (Or.inl ⟨by rfl, ?hy84n3⟩) (by assumption) ?rest84n3
          case hy84n3 => ((intro w' hSw; (try dsimp only at hSw); go_simp); try (with_reducible rfl))
          try simp only [Act.put, List.setIfInBounds_toArray, List.set_cons_zero, List.set_cons_succ]
          refine wpAnyH_take (i := 3) (oi := { dst := some 85, op := _, type := _, pos := _, after := _, guard := _ }) (v := ?v85n4) rfl (by kernel_rfl) (by kernel_rfl) (by kernel_rfl) (fun _ _ _ h => h) (Or.inl ⟨by rfl, ?hy85n4⟩) (by assumption) ?rest85n4
          case hy85n4 => ((intro w' hSw; (try dsimp only at hSw); go_simp); try (with_reducible rfl))
          try simp only [Act.put, List.setIfInBounds_toArray, List.set_cons_zero, List.set_cons_succ]
          refine wpAnyH_take (i := 4) (oi := { dst := some 86, op := _, type := _, pos := _, after := _, guard := _ }) (v := ?v86n5) rfl (by kernel_rfl) (by kernel_rfl) (by kernel_rfl) (fun _ _ _ h => h) (Or.inl ⟨by rfl, ?hy86n5⟩) (by assumption) ?rest86n5
          case hy86n5 => ((intro w' hSw; (try dsimp only at hSw); go_simp); try (with_reducible rfl))
          try simp only [Act.put, List.setIfInBounds_toArray, List.set_cons_zero, List.set_cons_succ]
          refine wpAnyH_take (i := 5) (oi := { dst := some 87, op := _, type := _, pos := _, after := _, guard := _ }) (v := ?v87n6) rfl (by kernel_rfl) (by kernel_rfl) (by kernel_rfl) (fun _ _ _ h => h) (Or.inl ⟨by rfl, ?hy87n6⟩) (by assumption) ?rest87n6
          case hy87n6 => ((intro w' hSw; (try dsimp only at hSw); go_simp); try (with_reducible rfl))
          try simp only [Act.put, List.setIfInBounds_toArray, List.set_cons_zero, List.set_cons_succ]
          refine wpAnyH_take (i := 6) (oi := { dst := some 88, op := _, type := _, pos := _, after := _, guard := _ }) (v := ?v88n7) rfl (by kernel_rfl) (by kernel_rfl) (by kernel_rfl) (fun _ _ _ h => h) (Or.inl ⟨by rfl, ?hy88n7⟩) (by assumption) ?rest88n7
          case hy88n7 => ((intro w' hSw; (try dsimp only at hSw); go_simp); try (with_reducible rfl))
          try simp only [Act.put, List.setIfInBounds_toArray, List.set_cons_zero, List.set_cons_succ]
          refine wpAnyH_take (i := 7) (oi := { dst := some 89, op := _, type := _, pos := _, after := _, guard := _ }) (v := ?v89n8) rfl (by kernel_rfl) (by kernel_rfl) (by kernel_rfl) (fun _ _ _ h => h) (Or.inl ⟨by rfl, ?hy89n8⟩) (by assumption) ?rest89n8
          case hy89n8 => ((intro w' hSw; (try dsimp only at hSw); go_simp); try (with_reducible rfl))
          try simp only [Act.put, List.setIfInBounds_toArray, List.set_cons_zero, List.set_cons_succ]
          refine wpAnyH_ready (rs := [8]) (by kernel_rfl) (by simp) ?_
          refine AllReadyH.cons rfl (fun K hK => ?_) ?_
          · go_simp
            go_at_call 16
            (with_reducible refine (HK1.out _).mono ?_)
            rintro e wa ⟨rfl, ka0⟩
            have ka := below_undrew ka0
            have qa0 := kept_b ka x0
            have qa1 := kept_b ka x1
            clear ka0
            refine hK.out _ _ ?_ (fun hHeld => ?_)
            · (try dsimp only); go_keep
            clear hK K
            try simp only [Act.put, List.setIfInBounds_toArray, List.set_cons_zero, List.set_cons_succ]
            refine wpAnyH_take (i := 9) (oi := { dst := some 91, op := _, type := _, pos := _, after := _, guard := _ }) (v := ?v91n9) rfl (by kernel_rfl) (by kernel_rfl) (by kernel_rfl) (fun _ _ _ h => h) (Or.inl ⟨by rfl, ?hy91n9⟩) (by assumption) ?rest91n9
            case hy91n9 => ((intro w' hSw; (try dsimp only at hSw); go_simp); try (with_reducible rfl))
            try simp only [Act.put, List.setIfInBounds_toArray, List.set_cons_zero, List.set_cons_succ]
            refine wpAnyH_take (i := 10) (oi := { dst := some 92, op := _, type := _, pos := _, after := _, guard := _ }) (v := ?v92n10) rfl (by kernel_rfl) (by kernel_rfl) (by kernel_rfl) (fun _ _ _ h => h) (Or.inl ⟨by rfl, ?hy92n10⟩) (by assumption) ?rest92n10
            case hy92n10 => ((intro w' hSw; (try dsimp only at hSw); go_simp); try (with_reducible rfl))
            try simp only [Act.put, List.setIfInBounds_toArray, List.set_cons_zero, List.set_cons_succ]
            refine wpAnyH_take (i := 11) (oi := { dst := some 93, op := _, type := _, pos := _, after := _, guard := _ }) (v := ?v93n11) rfl (by kernel_rfl) (by kernel_rfl) (by kernel_rfl) (fun _ _ _ h => h) (Or.inl ⟨by rfl, ?hy93n11⟩) (by assumption) ?rest93n11
            case hy93n11 => ((intro w' hSw; (try dsimp only at hSw); go_simp); try (with_reducible rfl))
            try simp only [Act.put, List.setIfInBounds_toArray, List.set_cons_zero, List.set_cons_succ]
            refine wpAnyH_take (i := 12) (oi := { dst := some 94, op := _, type := _, pos := _, after := _, guard := _ }) (v := ?v94n12) rfl (by kernel_rfl) (by kernel_rfl) (by kernel_rfl) (fun _ _ _ h => h) (Or.inl ⟨by rfl, ?hy94n12⟩) (by assumption) ?rest94n12
            case hy94n12 => ((intro w' hSw; (try dsimp only at hSw); go_simp); try (with_reducible rfl))
            try simp only [Act.put, List.setIfInBounds_toArray, List.set_cons_zero, List.set_cons_succ]
            refine wpAnyH_take (i := 13) (oi := { dst := some 95, op := _, type := _, pos := _, after := _, guard := _ }) (v := ?v95n13) rfl (by kernel_rfl) (by kernel_rfl) (by kernel_rfl) (fun _ _ _ h => h) (Or.inl ⟨by rfl, ?hy95n13⟩) (by assumption) ?rest95n13
            case hy95n13 => ((intro w' hSw; (try dsimp only at hSw); go_simp); try (with_reducible rfl))
            try simp only [Act.put, List.setIfInBounds_toArray, List.set_cons_zero, List.set_cons_succ]
            refine wpAnyH_take (i := 14) (oi := { dst := some 96, op := _, type := _, pos := _, after := _, guard := _ }) (v := ?v96n14) rfl (by kernel_rfl) (by kernel_rfl) (by kernel_rfl) (fun _ _ _ h => h) (Or.inl ⟨by rfl, ?hy96n14⟩) (by assumption) ?rest96n14
            case hy96n14 => ((intro w' hSw; (try dsimp only at hSw); go_simp); try (with_reducible rfl))
            try simp only [Act.put, List.setIfInBounds_toArray, List.set_cons_zero, List.set_cons_succ]
            refine wpAnyH_take (i := 15) (oi := { dst := some 97, op := _, type := _, pos := _, after := _, guard := _ }) (v := ?v97n15) rfl (by kernel_rfl) (by kernel_rfl) (by kernel_rfl) (fun _ _ _ h => h) (Or.inl ⟨by rfl, ?hy97n15⟩) (by assumption) ?rest97n15
            case hy97n15 => ((intro w' hSw; (try dsimp only at hSw); go_simp); try (with_reducible rfl))
            try simp only [Act.put, List.setIfInBounds_toArray, List.set_cons_zero, List.set_cons_succ]
            refine wpAnyH_take (i := 16) (oi := { dst := some 98, op := _, type := _, pos := _, after := _, guard := _ }) (v := ?v98n16) rfl (by kernel_rfl) (by kernel_rfl) (by kernel_rfl) (fun _ _ _ h => h) (Or.inl ⟨by rfl, ?hy98n16⟩) (by assumption) ?rest98n16
            case hy98n16 => ((intro w' hSw; (try dsimp only at hSw); go_simp); try (with_reducible rfl))
            try simp only [Act.put, List.setIfInBounds_toArray, List.set_cons_zero, List.set_cons_succ]
            refine wpAnyH_take (i := 17) (oi := { dst := some 99, op := _, type := _, pos := _, after := _, guard := _ }) (v := ?v99n17) rfl (by kernel_rfl) (by kernel_rfl) (by kernel_rfl) (fun _ _ _ h => h) (Or.inl ⟨by rfl, ?hy99n17⟩) (by assumption) ?rest99n17
            case hy99n17 => ((intro w' hSw; (try dsimp only at hSw); go_simp); try (with_reducible rfl))
            try simp only [Act.put, List.setIfInBounds_toArray, List.set_cons_zero, List.set_cons_succ]
            refine wpAnyH_take (i := 18) (oi := { dst := some 100, op := _, type := _, pos := _, after := _, guard := _ }) (v := ?v100n18) rfl (by kernel_rfl) (by kernel_rfl) (by kernel_rfl) (fun _ _ _ h => h) (Or.inl ⟨by rfl, ?hy100n18⟩) (by assumption) ?rest100n18
            case hy100n18 => ((intro w' hSw; (try dsimp only at hSw); go_simp); try (with_reducible rfl))
            try simp only [Act.put, List.setIfInBounds_toArray, List.set_cons_zero, List.set_cons_succ]
            refine wpAnyH_ready (rs := [19]) (by kernel_rfl) (by simp) ?_
            refine AllReadyH.cons rfl (fun K hK => ?_) ?_
            · go_simp
              go_at_call 16
              (with_reducible refine (HK2.out _).mono ?_)
              rintro e wb ⟨rfl, kb0⟩
              have kb := bstep ka kb0
              have qb0 := kept_b kb0 qa0
              have qb1 := kept_b kb0 qa1
              clear kb0
              refine hK.out _ _ ?_ (fun hHeld => ?_)
              · (try dsimp only); go_keep
              clear hK K
              try simp only [Act.put, List.setIfInBounds_toArray, List.set_cons_zero, List.set_cons_succ]
              refine wpAnyH_take (i := 20) (oi := { dst := some 102, op := _, type := _, pos := _, after := _, guard := _ }) (v := ?v102n19) rfl (by kernel_rfl) (by kernel_rfl) (by kernel_rfl) (fun _ _ _ h => h) (Or.inl ⟨by rfl, ?hy102n19⟩) (by assumption) ?rest102n19
              case hy102n19 => ((intro w' hSw; (try dsimp only at hSw); go_simp); try (with_reducible rfl))
              try simp only [Act.put, List.setIfInBounds_toArray, List.set_cons_zero, List.set_cons_succ]
              refine wpAnyH_take (i := 21) (oi := { dst := some 103, op := _, type := _, pos := _, after := _, guard := _ }) (v := ?v103n20) rfl (by kernel_rfl) (by kernel_rfl) (by kernel_rfl) (fun _ _ _ h => h) (Or.inl ⟨by rfl, ?hy103n20⟩) (by assumption) ?rest103n20
              case hy103n20 => ((intro w' hSw; (try dsimp only at hSw); go_simp); try (with_reducible rfl))
              try simp only [Act.put, List.setIfInBounds_toArray, List.set_cons_zero, List.set_cons_succ]
              refine wpAnyH_take (i := 22) (oi := { dst := some 104, op := _, type := _, pos := _, after := _, guard := _ }) (v := ?v104n21) rfl (by kernel_rfl) (by kernel_rfl) (by kernel_rfl) (fun _ _ _ h => h) (Or.inl ⟨by rfl, ?hy104n21⟩) (by assumption) ?rest104n21
              case hy104n21 => ((intro w' hSw; (try dsimp only at hSw); go_simp); try (with_reducible rfl))
              try simp only [Act.put, List.setIfInBounds_toArray, List.set_cons_zero, List.set_cons_succ]
              refine wpAnyH_take (i := 23) (oi := { dst := some 105, op := _, type := _, pos := _, after := _, guard := _ }) (v := ?v105n22) rfl (by kernel_rfl) (by kernel_rfl) (by kernel_rfl) (fun _ _ _ h => h) (Or.inl ⟨by rfl, ?hy105n22⟩) (by assumption) ?rest105n22
              case hy105n22 => ((intro w' hSw; (try dsimp only at hSw); go_simp); try (with_reducible rfl))
              try simp only [Act.put, List.setIfInBounds_toArray, List.set_cons_zero, List.set_cons_succ]
              refine wpAnyH_take (i := 24) (oi := { dst := some 106, op := _, type := _, pos := _, after := _, guard := _ }) (v := ?v106n23) rfl (by kernel_rfl) (by kernel_rfl) (by kernel_rfl) (fun _ _ _ h => h) (Or.inl ⟨by rfl, ?hy106n23⟩) (by assumption) ?rest106n23
              case hy106n23 => ((intro w' hSw; (try dsimp only at hSw); go_simp); try (with_reducible rfl))
              try simp only [Act.put, List.setIfInBounds_toArray, List.set_cons_zero, List.set_cons_succ]
              refine wpAnyH_take (i := 25) (oi := { dst := some 107, op := _, type := _, pos := _, after := _, guard := _ }) (v := ?v107n24) rfl (by kernel_rfl) (by kernel_rfl) (by kernel_rfl) (fun _ _ _ h => h) (Or.inl ⟨by rfl, ?hy107n24⟩) (by assumption) ?rest107n24
              case hy107n24 => ((intro w' hSw; (try dsimp only at hSw); go_simp); try (with_reducible rfl))
              try simp only [Act.put, List.setIfInBounds_toArray, List.set_cons_zero, List.set_cons_succ]
              refine wpAnyH_take (i := 26) (oi := { dst := some 108, op := _, type := _, pos := _, after := _, guard := _ }) (v := ?v108n25) rfl (by kernel_rfl) (by kernel_rfl) (by kernel_rfl) (fun _ _ _ h => h) (Or.inl ⟨by rfl, ?hy108n25⟩) (by assumption) ?rest108n25
              case hy108n25 => ((intro w' hSw; (try dsimp only at hSw); go_simp); try (with_reducible rfl))
              try simp only [Act.put, List.setIfInBounds_toArray, List.set_cons_zero, List.set_cons_succ]
              refine wpAnyH_take (i := 27) (oi := { dst := some 109, op := _, type := _, pos := _, after := _, guard := _ }) (v := ?v109n26) rfl (by kernel_rfl) (by kernel_rfl) (by kernel_rfl) (fun _ _ _ h => h) (Or.inl ⟨by rfl, ?hy109n26⟩) (by assumption) ?rest109n26
              case hy109n26 => ((intro w' hSw; (try dsimp only at hSw); go_simp); try (with_reducible rfl))
              try simp only [Act.put, List.setIfInBounds_toArray, List.set_cons_zero, List.set_cons_succ]
              refine wpAnyH_take (i := 28) (oi := { dst := some 110, op := _, type := _, pos := _, after := _, guard := _ }) (v := ?v110n27) rfl (by kernel_rfl) (by kernel_rfl) (by kernel_rfl) (fun _ _ _ h => h) (Or.inl ⟨by rfl, ?hy110n27⟩) (by assumption) ?rest110n27
              case hy110n27 => ((intro w' hSw; (try dsimp only at hSw); go_simp); try (with_reducible rfl))
              try simp only [Act.put, List.setIfInBounds_toArray, List.set_cons_zero, List.set_cons_succ]
              refine wpAnyH_take (i := 29) (oi := { dst := some 111, op := _, type := _, pos := _, after := _, guard := _ }) (v := ?v111n28) rfl (by kernel_rfl) (by kernel_rfl) (by kernel_rfl) (fun _ _ _ h => h) (Or.inl ⟨by rfl, ?hy111n28⟩) (by assumption) ?rest111n28
              case hy111n28 => ((intro w' hSw; (try dsimp only at hSw); go_simp); try (with_reducible rfl))
              try simp only [Act.put, List.setIfInBounds_toArray, List.set_cons_zero, List.set_cons_succ]
              refine wpAnyH_take (i := 30) (oi := { dst := some 112, op := _, type := _, pos := _, after := _, guard := _ }) (v := ?v112n29) rfl (by kernel_rfl) (by kernel_rfl) (by kernel_rfl) (fun _ _ _ h => h) (Or.inl ⟨by rfl, ?hy112n29⟩) (by assumption) ?rest112n29
              case hy112n29 => ((intro w' hSw; (try dsimp only at hSw); go_simp); try (with_reducible rfl))
              try simp only [Act.put, List.setIfInBounds_toArray, List.set_cons_zero, List.set_cons_succ]
              refine wpAnyH_take (i := 32) (oi := { dst := some 114, op := _, type := _, pos := _, after := _, guard := _ }) (v := ?v114n30) rfl (by kernel_rfl) (by kernel_rfl) (by kernel_rfl) (fun _ _ _ h => h) (Or.inl ⟨by rfl, ?hy114n30⟩) (by assumption) ?rest114n30
              case hy114n30 => ((intro w' hSw; (try dsimp only at hSw); go_simp); try (with_reducible rfl))
              try simp only [Act.put, List.setIfInBounds_toArray, List.set_cons_zero, List.set_cons_succ]
              refine wpAnyH_take (i := 33) (oi := { dst := some 115, op := _, type := _, pos := _, after := _, guard := _ }) (v := ?v115n31) rfl (by kernel_rfl) (by kernel_rfl) (by kernel_rfl) (fun _ _ _ h => h) (Or.inl ⟨by rfl, ?hy115n31⟩) (by assumption) ?rest115n31
              case hy115n31 => ((intro w' hSw; (try dsimp only at hSw); go_simp); try (with_reducible rfl))
              try simp only [Act.put, List.setIfInBounds_toArray, List.set_cons_zero, List.set_cons_succ]
              refine wpAnyH_take (i := 34) (oi := { dst := some 116, op := _, type := _, pos := _, after := _, guard := _ }) (v := ?v116n32) rfl (by kernel_rfl) (by kernel_rfl) (by kernel_rfl) (fun _ _ _ h => h) (Or.inl ⟨by rfl, ?hy116n32⟩) (by assumption) ?rest116n32
              case hy116n32 => ((intro w' hSw; (try dsimp only at hSw); go_simp); try (with_reducible rfl))
              try simp only [Act.put, List.setIfInBounds_toArray, List.set_cons_zero, List.set_cons_succ]
              refine wpAnyH_take (i := 35) (oi := { dst := some 117, op := _, type := _, pos := _, after := _, guard := _ }) (v := ?v117n33) rfl (by kernel_rfl) (by kernel_rfl) (by kernel_rfl) (fun _ _ _ h => h) (Or.inl ⟨by rfl, ?hy117n33⟩) (by assumption) ?rest117n33
              case hy117n33 => ((intro w' hSw; (try dsimp only at hSw); go_simp); try (with_reducible rfl))
              try simp only [Act.put, List.setIfInBounds_toArray, List.set_cons_zero, List.set_cons_succ]
              refine wpAnyH_take (i := 36) (oi := { dst := some 118, op := _, type := _, pos := _, after := _, guard := _ }) (v := ?v118n34) rfl (by kernel_rfl) (by kernel_rfl) (by kernel_rfl) (fun _ _ _ h => h) (Or.inl ⟨by rfl, ?hy118n34⟩) (by assumption) ?rest118n34
              case hy118n34 => ((intro w' hSw; (try dsimp only at hSw); go_simp); try (with_reducible rfl))
              try simp only [Act.put, List.setIfInBounds_toArray, List.set_cons_zero, List.set_cons_succ]
              refine wpAnyH_take (i := 37) (oi := { dst := some 119, op := _, type := _, pos := _, after := _, guard := _ }) (v := ?v119n35) rfl (by kernel_rfl) (by kernel_rfl) (by kernel_rfl) (fun _ _ _ h => h) (Or.inl ⟨by rfl, ?hy119n35⟩) (by assumption) ?rest119n35
              case hy119n35 => ((intro w' hSw; (try dsimp only at hSw); go_simp); try (with_reducible rfl))
              try simp only [Act.put, List.setIfInBounds_toArray, List.set_cons_zero, List.set_cons_succ]
              refine wpAnyH_take (i := 38) (oi := { dst := some 120, op := _, type := _, pos := _, after := _, guard := _ }) (v := ?v120n36) rfl (by kernel_rfl) (by kernel_rfl) (by kernel_rfl) (fun _ _ _ h => h) (Or.inl ⟨by rfl, ?hy120n36⟩) (by assumption) ?rest120n36
              case hy120n36 => ((intro w' hSw; (try dsimp only at hSw); go_simp); try (with_reducible rfl))
              try simp only [Act.put, List.setIfInBounds_toArray, List.set_cons_zero, List.set_cons_succ]
              refine wpAnyH_take (i := 39) (oi := { dst := some 121, op := _, type := _, pos := _, after := _, guard := _ }) (v := ?v121n37) rfl (by kernel_rfl) (by kernel_rfl) (by kernel_rfl) (fun _ _ _ h => h) (Or.inl ⟨by rfl, ?hy121n37⟩) (by assumption) ?rest121n37
              case hy121n37 => ((intro w' hSw; (try dsimp only at hSw); go_simp); try (with_reducible rfl))
              try simp only [Act.put, List.setIfInBounds_toArray, List.set_cons_zero, List.set_cons_succ]
              refine wpAnyH_ready (rs := [31]) (by kernel_rfl) (by simp) ?_
              refine AllReadyH.cons rfl (fun K hK => ?_) ?_
              · go_simp
                go_at_call 16
                (with_reducible refine (HK1.out _).mono ?_)
                rintro e wc ⟨rfl, kc0⟩
                have kc := bstep kb kc0
                have qc0 := kept_b kc0 qb0
                have qc1 := kept_b kc0 qb1
                clear kc0
                refine hK.out _ _ ?_ (fun hHeld => ?_)
                · (try dsimp only); go_keep
                clear hK K
                try simp only [Act.put, List.setIfInBounds_toArray, List.set_cons_zero, List.set_cons_succ]
                refine wpAnyH_ready (rs := [40]) (by kernel_rfl) (by simp) ?_
                refine AllReadyH.cons rfl (fun K hK => ?_) ?_
                · go_simp
                  go_at_call 16
                  (with_reducible refine (HK2.out _).mono ?_)
                  rintro e wd ⟨rfl, kd0⟩
                  have kd := bstep kc kd0
                  have qd0 := kept_b kd0 qc0
                  have qd1 := kept_b kd0 qc1
                  clear kd0
                  refine hK.out _ _ ?_ (fun hHeld => ?_)
                  · (try dsimp only); go_keep
                  clear hK K
                  try simp only [Act.put, List.setIfInBounds_toArray, List.set_cons_zero, List.set_cons_succ]
                  refine wpAnyH_take (i := 41) (oi := { dst := some 123, op := _, type := _, pos := _, after := _, guard := _ }) (v := ?v123n38) rfl (by kernel_rfl) (by kernel_rfl) (by kernel_rfl) (fun _ _ _ h => h) (Or.inl ⟨by rfl, ?hy123n38⟩) (by assumption) ?rest123n38
                  case hy123n38 => ((intro w' hSw; (try dsimp only at hSw); go_simp); try (with_reducible rfl))
                  try simp only [Act.put, List.setIfInBounds_toArray, List.set_cons_zero, List.set_cons_succ]
                  refine wpAnyH_take (i := 42) (oi := { dst := some 124, op := _, type := _, pos := _, after := _, guard := _ }) (v := ?v124n39) rfl (by kernel_rfl) (by kernel_rfl) (by kernel_rfl) (fun _ _ _ h => h) (Or.inl ⟨by rfl, ?hy124n39⟩) (by assumption) ?rest124n39
                  case hy124n39 => ((intro w' hSw; (try dsimp only at hSw); go_simp); try (with_reducible rfl))
                  try simp only [Act.put, List.setIfInBounds_toArray, List.set_cons_zero, List.set_cons_succ]
                  refine wpAnyH_take (i := 43) (oi := { dst := some 125, op := _, type := _, pos := _, after := _, guard := _ }) (v := ?v125n40) rfl (by kernel_rfl) (by kernel_rfl) (by kernel_rfl) (fun _ _ _ h => h) (Or.inl ⟨by rfl, ?hy125n40⟩) (by assumption) ?rest125n40
                  case hy125n40 => ((intro w' hSw; (try dsimp only at hSw); go_simp); try (with_reducible rfl))
                  try simp only [Act.put, List.setIfInBounds_toArray, List.set_cons_zero, List.set_cons_succ]
                  refine wpAnyH_done (by kernel_rfl) ?_ _
                  try go_wp2_with fail
                  go_meet
                  exact ⟨rfl, kd⟩
                exact AllReadyH.nil
              exact AllReadyH.nil
            exact AllReadyH.nil
          exact AllReadyH.nil
        case rest =>
        obtain ⟨rfl, hcb⟩ := hcut
        have hX7 := hX6.below hcb
        have g7 := bstep g6 hcb
        obtain ⟨-, ⟨y0, y1⟩, -⟩ := id hX7
        have HC0 := Lib.hid (And.intro True.intro (And.intro he3 he4))
        clear hcb hX6 x0 x1 g6 hKd1 hKd2 ewk ewk2 ewk3 he3 he4
        go_wp2_with fail
        refine (HE1.out _).mono ?_
        rintro e w8 ⟨rfl, k8⟩
        have g8 := bstep g7 k8
        have hX8 := hX7.below k8
        clear g7 hX7 k8 y0 y1
        go_wp2_with fail
        refine (gforG_any (a : Int) (b : Int)).mono ?_
        rintro e w9 ⟨rfl, k9⟩
        have g9 := bstep g8 k9
        have hX9 := hX8.below k9
        clear g8 hX8 k9
        generalize (gearsM (a : Int) (b : Int)).1 = h at *
        have gA := g9.alloc g9.size (.cells #[.int .i64 h.1, .int .i64 h.2] 31)
        have hXA := hX9.below ((Below.refl w9.heap.size w9).alloc (Nat.le_refl _) (.cells #[.int .i64 h.1, .int .i64 h.2] 31))
        have hYA := box2_new w9 (.int .i64 h.1) (.int .i64 h.2) 31
        obtain ⟨-, ⟨y0, y1⟩, -⟩ := id hXA
        obtain ⟨-, ⟨z0, z1⟩, -⟩ := id hYA
        obtain ⟨W9, hW9⟩ : ∃ W9, w9.alloc (.cells #[.int .i64 h.1, .int .i64 h.2] 31) = W9 := ⟨_, rfl⟩
        obtain ⟨bh, hbh⟩ : ∃ bh, w9.heap.size = bh := ⟨_, rfl⟩
        rw [hW9] at gA hXA hYA y0 y1 z0 z1
        rw [hbh] at hYA z0 z1
        clear g9 hX9
        have hE0 : 0 ≤ e1 := HC0.out.2.1
        have hE1 : e1 ≤ e2 := HC0.out.2.2
        have hed0 : decide (0 ≤ e1) = true := decide_eq_true hE0
        have hed1 : decide (e1 ≤ e2) = true := decide_eq_true hE1
        clear hE0 hE1
        cases hgb : (gearsM (a : Int) (b : Int)).2 with
        | true =>
          obtain ⟨hz, hgh⟩ := HXX.out hgb
          have HEQ := Lib.hid (fun W : World => eql_yesG hgh W)
          have heq := fun W => HEQ.out W
          have hez : (e1 == 0) = true := by rw [beq_iff_eq]; exact hz
          clear hgh hz hgb HXX
          go_wp2_with fail
          refine (HE2.out _).mono ?_
          rintro e wA ⟨rfl, kA⟩
          have gB := bstep gA kA
          clear gA kA y0 y1 z0 z1 hXA hYA
          go_wp2_with fail
          refine (HC2.out _).mono ?_
          rintro e wB ⟨vq, rfl, oB, kB⟩
          have gC := bstep gB kB
          have hL := rd1_lit wB [3, 7, 16] 3 (by unfold maxLen; simp)
          have hbL : Below wB.heap.size wB (wB.alloc (.cells ([3, 7, 16].map intV).toArray 3)) := (Below.refl _ _).alloc (Nat.le_refl _) _
          have oC : Rd1 (wB.alloc (.cells ([3, 7, 16].map intV).toArray 3)) vq [3, 7, 16] := Rd.of_own (ownS_below oB hbL)
          have gD := bstep gC hbL
          obtain ⟨av, cv, rfl⟩ := ownS_slice oB
          simp only [List.map_cons, List.map_nil, intV, List.length_cons, List.length_nil, Nat.reduceAdd] at hL hbL oC gD
          have HSN := Lib.hid (sameN_same oC hL)
          clear oB kB gB gC hL hbL oC
          go_wp2_with fail
          refine HSN.out.mono ?_
          rintro e wC ⟨rfl, kC⟩
          have gE := bstep gD kC
          clear gD kC
          go_wp2
          go_ret
          exact ⟨rfl, gE⟩
        | false =>
          clear hgb HXX
          go_wp2_with fail
          refine (HE2.out _).mono ?_
          rintro e wA ⟨rfl, kA⟩
          have gB := bstep gA kA
          clear gA kA y0 y1 z0 z1 hXA hYA
          go_wp2_with fail
          refine (HC2.out _).mono ?_
          rintro e wB ⟨vq, rfl, oB, kB⟩
          have gC := bstep gB kB
          have hL := rd1_lit wB [3, 7, 16] 3 (by unfold maxLen; simp)
          have hbL : Below wB.heap.size wB (wB.alloc (.cells ([3, 7, 16].map intV).toArray 3)) := (Below.refl _ _).alloc (Nat.le_refl _) _
          have oC : Rd1 (wB.alloc (.cells ([3, 7, 16].map intV).toArray 3)) vq [3, 7, 16] := Rd.of_own (ownS_below oB hbL)
          have gD := bstep gC hbL
          obtain ⟨av, cv, rfl⟩ := ownS_slice oB
          simp only [List.map_cons, List.map_nil, intV, List.length_cons, List.length_nil, Nat.reduceAdd] at hL hbL oC gD
          have HSN := Lib.hid (sameN_same oC hL)
          clear oB kB gB gC hL hbL oC
          go_wp2_with fail
          refine HSN.out.mono ?_
          rintro e wC ⟨rfl, kC⟩
          have gE := bstep gD kC
          clear gD kC
          go_wp2
          go_ret
          exact ⟨rfl, gE⟩
end Go.Proofs.Ytjikpkigncomfaa
