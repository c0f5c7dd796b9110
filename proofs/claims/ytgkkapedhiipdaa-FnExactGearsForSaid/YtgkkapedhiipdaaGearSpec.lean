/- The contracts of chapter 10's model: GearOk, l10Gcd, TrainRatio, TurnsOf, LeastWhole. No condition. -/
import Derived.Test.YtgkkapedhiipdaaGearMath
import Derived.Test.YtgkkapedhiipdaaGears
import Derived.Test.YtgkkapedhiipdaaSortSpec
namespace Go.Proofs.Ytgkkapedhiipdaa
open Go.ChangeShapes Go.WideShapes Go.ChangeAt Go.RowKit

theorem gearG_any {w : World} (p : Int × Int) :
    Calls Try.prog 18 #[.agg #[.int .i64 p.1, .int .i64 p.2]] w fun e w' => e = .returned (.bool (gearB p)) ∧ Below w.heap.size w w' := by
  have hb0 : Below w.heap.size w (w.alloc (.cells #[.int .i64 p.1, .int .i64 p.2] 34)) := (Below.refl _ _).alloc (Nat.le_refl _) _
  by_cases h1 : 6 ≤ p.1 ∧ p.1 ≤ 120
  · by_cases h2 : 6 ≤ p.2 ∧ p.2 ≤ 120
    · have HG : Hid (gearB p = true) := Lib.hid (gearB_true.2 ⟨h1, h2⟩)
      go_enter Try.func18, Try.ntmps18
      go_wp2_with fail
      refine (in_yes _ _ _ h1 _).mono ?_
      rintro e w1 ⟨rfl, rfl⟩
      go_wp2_with fail
      refine (in_yes _ _ _ h2 _).mono ?_
      rintro e w1 ⟨rfl, rfl⟩
      go_wp2
      go_ret
      exact ⟨by rw [HG.out]; rfl, hb0⟩
    · have HG : Hid (gearB p = false) := Lib.hid (gearB_false.2 fun k => h2 k.2)
      go_enter Try.func18, Try.ntmps18
      go_wp2_with fail
      refine (in_yes _ _ _ h1 _).mono ?_
      rintro e w1 ⟨rfl, rfl⟩
      go_wp2_with fail
      refine (in_no _ _ _ h2 _).mono ?_
      rintro e w1 ⟨rfl, rfl⟩
      go_wp2
      go_ret
      exact ⟨by rw [HG.out]; rfl, hb0⟩
  · have HG : Hid (gearB p = false) := Lib.hid (gearB_false.2 fun k => h1 k.1)
    go_enter Try.func18, Try.ntmps18
    go_wp2_with fail
    refine (in_no _ _ _ h1 _).mono ?_
    rintro e w1 ⟨rfl, rfl⟩
    go_wp2
    go_ret
    exact ⟨by rw [HG.out]; rfl, hb0⟩

theorem gcd_step {x y : Nat} : Nat.gcd y (x % y) = Nat.gcd x y := by rw [Nat.gcd_comm, ← Nat.gcd_rec, Nat.gcd_comm]
theorem tmod_nat (x y : Nat) : (x : Int).tmod (y : Int) = ((x % y : Nat) : Int) := rfl

set_option maxHeartbeats 1000000 in
theorem gcdG_any {w : World} (a b : Nat) (ha : a ≤ 1000000000000) (hb : b ≤ 1000000000000) :
    Calls Try.prog 39 #[.int .i64 (a : Int), .int .i64 (b : Int)] w fun e w' => e = .returned (.int .i64 ((Nat.gcd a b : Nat) : Int)) ∧ Below w.heap.size w w' := by
  obtain ⟨G, hG⟩ : ∃ G, Nat.gcd a b = G := ⟨_, rfl⟩
  rw [hG]
  have HG := Lib.hid hG
  clear hG
  go_enter Try.func39, Try.ntmps39
  go_wp2
  go_loopw [0, 1] (fun v0 v1 wr => ∃ x y : Nat, v0 = .int .i64 (x : Int) ∧ v1 = .int .i64 (y : Int) ∧ x ≤ 1000000000000 ∧ y ≤ 1000000000000 ∧ Hid (Nat.gcd x y = G) ∧ Below w.heap.size w wr) (fun _ v1 _ => (intOf v1).toNat)
  case atStart => exact ⟨a, b, rfl, rfl, ha, hb, HG, Below.refl _ _⟩
  case round =>
    obtain ⟨x, y, rfl, rfl, hx, hy, HR, hbr⟩ := hrel
    by_cases h0 : y = 0
    · subst h0
      have HN : Hid (x = G) := Lib.hid (by have := HR.out; rwa [Nat.gcd_zero_right] at this)
      go_wp2
      go_ret
      exact ⟨by rw [← HN.out]; rfl, hbr⟩
    · have hyz : ((y : Int) == 0) = false := by rw [beq_eq_false_iff_ne]; omega
      have hxy : x % y < y := Nat.mod_lt _ (by omega)
      have HN : Hid (Nat.gcd y (x % y) = G) := Lib.hid (gcd_step.trans HR.out)
      have ht : (x : Int).tmod (y : Int) = (x : Int) % (y : Int) := Int.tmod_eq_emod_of_nonneg (by omega)
      have hm : (x : Int) % (y : Int) = ((x % y : Nat) : Int) := (Int.natCast_emod x y).symm
      have ew : IntKind.i64.wrap ((x : Int) % (y : Int)) = (x : Int) % (y : Int) := IntWalk.i64_in _ (by omega)
      have HM := Lib.hid hm
      clear hm
      go_wp2_with fail
      go_quiet (fail)
      go_wp2
      go_roundw
      case rel => exact ⟨y, x % y, rfl, by first | rfl | (rw [← HM.out]) | go_num, hy, by omega, HN, below_drewN hbr _⟩
      case measure => simp [intOf]; omega

theorem ratM_nat {l : List (Int × Int)} (h : trainB l = true) : ∃ x y : Nat, topL l = (x : Int) ∧ botL l = (y : Int) ∧ 1 ≤ x ∧ 1 ≤ y ∧ x ≤ 207360000 ∧ y ≤ 207360000 ∧ 1 ≤ Nat.gcd x y ∧ Nat.gcd x y ≤ x ∧ ratM l = ((x : Int) / ((Nat.gcd x y : Nat) : Int), (y : Int) / ((Nat.gcd x y : Nat) : Int)) := by
  have hp := trainB_true.1 h
  have ht := topL_pos hp.2 hp.1
  have hb := botL_pos hp.2 hp.1
  obtain ⟨x, hx⟩ := Int.eq_ofNat_of_zero_le (show 0 ≤ topL l by omega)
  obtain ⟨y, hy⟩ := Int.eq_ofNat_of_zero_le (show 0 ≤ botL l by omega)
  refine ⟨x, y, hx, hy, by omega, by omega, by omega, by omega, Nat.gcd_pos_of_pos_left _ (by omega), Nat.gcd_le_left _ (by omega), ?_⟩
  rw [ratM_yes h, hx, hy]; rfl

set_option maxHeartbeats 2000000 in
theorem ratioG_any {w : World} {v : Value} {l : List (Int × Int)} (h : Rd2 w v l) :
    Calls Try.prog 21 #[v] w fun e w' => e = .returned (.tuple #[.int .i64 (ratM l).1, .int .i64 (ratM l).2]) ∧ Below w.heap.size w w' := by
  obtain ⟨a1, cap1, rfl⟩ := Rd.slice h
  have hm := h.2.1
  unfold maxLen at hm
  by_cases h4 : l.length ≤ 4
  · have h4i : ¬ (4 : Int) < (l.length : Int) := by omega
    go_enter Try.func21, Try.ntmps21
    go_wp2
    go_loopw [4, 5, 6] (fun v4 v5 v6 wr => ∃ (k : Nat) (t u : Int), k ≤ l.length ∧ v6 = .int .i64 (k : Int) ∧ v4 = .int .i64 t ∧ v5 = .int .i64 u ∧ Hid (t = topL (l.take k) ∧ u = botL (l.take k) ∧ ∀ q ∈ l.take k, GearP q) ∧ Below w.heap.size w wr) (fun _ _ v6 _ => l.length - (intOf v6).toNat)
    case atStart => exact ⟨0, 1, 1, Nat.zero_le _, rfl, rfl, rfl, Lib.hid ⟨by simp [topL, mulL], by simp [botL, mulL], by simp⟩, Below.refl _ _⟩
    case round =>
      obtain ⟨k, t, u, hk, rfl, rfl, rfl, HI, hbr⟩ := hrel
      by_cases hlt : k < l.length
      · obtain ⟨q, hq⟩ : ∃ q, l[k]? = some q := ⟨_, List.getElem?_eq_getElem hlt⟩
        have HQ := Lib.hid hq
        obtain ⟨b1, o1, c1, hv1, x1, y1⟩ := Rd2.cells (Rd.below h hbr) hq
        simp only [Value.slice.injEq, true_and] at hv1
        obtain ⟨rfl, rfl⟩ := hv1
        clear hq
        by_cases hg : gearB q = true
        · have HG := Lib.hid hg
          have HN : Hid (t * q.1 = topL (l.take (k + 1)) ∧ u * q.2 = botL (l.take (k + 1)) ∧ ∀ p ∈ l.take (k + 1), GearP p) := Lib.hid ⟨by rw [HI.out.1, topL_take HQ.out], by rw [HI.out.2.1, botL_take HQ.out], gears_next HI.out.2.2 HQ.out (gearB_true.1 hg)⟩
          have ht := topL_pos HN.out.2.2 (by rw [List.length_take]; omega)
          have hu := botL_pos HN.out.2.2 (by rw [List.length_take]; omega)
          rw [← HN.out.1] at ht
          rw [← HN.out.2.1] at hu
          have ew1 : IntKind.i64.wrap (t * q.1) = t * q.1 := IntWalk.i64_in _ (by omega)
          have ew2 : IntKind.i64.wrap (u * q.2) = u * q.2 := IntWalk.i64_in _ (by omega)
          clear hg
          go_wp2_with fail
          refine (gearG_any q).mono ?_
          rintro e w2 ⟨rfl, hb2⟩
          rw [HG.out]
          have z1 := kept_b hb2 x1
          have z2 := kept_b hb2 y1
          have hb3 := bstep hbr hb2
          clear hb2 x1 y1 hbr
          go_wp2
          go_roundw
          case rel => exact ⟨k + 1, t * q.1, u * q.2, by omega, by go_num, by go_num, by go_num, HN, hb3⟩
          case measure => simp [intOf]; omega
        · have HG : Hid (gearB q = false) := Lib.hid (by simpa using hg)
          have HR : Hid (ratM l = (0, 0)) := Lib.hid (ratM_no (trainB_false.2 fun k2 => gearB_false.1 HG.out (k2.2 q (List.mem_of_getElem? HQ.out))))
          clear hg
          go_wp2_with fail
          refine (gearG_any q).mono ?_
          rintro e w2 ⟨rfl, hb2⟩
          rw [HG.out]
          have hb3 := bstep hbr hb2
          clear hb2 x1 y1 hbr
          go_wp2
          go_ret2
          exact ⟨by rw [HR.out]; rfl, hb3⟩
      · obtain rfl : k = l.length := by omega
        have HT : Hid (trainB l = true) := Lib.hid (trainB_true.2 ⟨h4, by have := HI.out.2.2; rwa [List.take_length] at this⟩)
        obtain ⟨x, y, hx, hy, hx1, hy1, hx2, hy2, hg1, hg2, hr⟩ := ratM_nat HT.out
        have HR := Lib.hid hr
        obtain rfl : t = (x : Int) := by rw [HI.out.1, List.take_length]; exact hx
        obtain rfl : u = (y : Int) := by rw [HI.out.2.1, List.take_length]; exact hy
        clear hr hx hy
        go_wp2_with fail
        refine (gcdG_any x y (by omega) (by omega)).mono ?_
        rintro e w2 ⟨rfl, hb2⟩
        have hb3 := bstep hbr hb2
        clear hb2 hbr
        generalize Nat.gcd x y = g at *
        have hgz : ((g : Int) == 0) = false := by rw [beq_eq_false_iff_ne]; omega
        have hgn : ¬ g = 0 := by omega
        have hdx : (x : Int).tdiv (g : Int) = (x : Int) / (g : Int) := Int.tdiv_eq_ediv_of_nonneg (by omega)
        have hdy : (y : Int).tdiv (g : Int) = (y : Int) / (g : Int) := Int.tdiv_eq_ediv_of_nonneg (by omega)
        have bx0 : 0 ≤ (x : Int) / (g : Int) := Int.ediv_nonneg (by omega) (by omega)
        have bx1 : (x : Int) / (g : Int) ≤ (x : Int) := Int.ediv_le_self _ (by omega)
        have by0 : 0 ≤ (y : Int) / (g : Int) := Int.ediv_nonneg (by omega) (by omega)
        have by1 : (y : Int) / (g : Int) ≤ (y : Int) := Int.ediv_le_self _ (by omega)
        have ewx : IntKind.i64.wrap ((x : Int) / (g : Int)) = (x : Int) / (g : Int) := IntWalk.i64_in _ (by omega)
        have ewy : IntKind.i64.wrap ((y : Int) / (g : Int)) = (y : Int) / (g : Int) := IntWalk.i64_in _ (by omega)
        go_wp2_with fail
        go_quiet (fail)
        go_wp2
        go_ret2
        exact ⟨by rw [HR.out]; rfl, below_drewN hb3 _⟩
  · have h4i : (4 : Int) < (l.length : Int) := by omega
    have HR : Hid (ratM l = (0, 0)) := Lib.hid (ratM_no (trainB_false.2 fun k => h4 k.1))
    go_enter Try.func21, Try.ntmps21
    go_wp2
    go_ret2
    exact ⟨by rw [HR.out]; rfl, Below.refl _ _⟩

theorem wholeG_any {w : World} {v : Value} {l : List (Int × Int)} (h : Rd2 w v l) :
    Calls Try.prog 25 #[v] w fun e w' => e = .returned (.int .i64 (ratM l).2) ∧ Below w.heap.size w w' := by
  go_enter Try.func25, Try.ntmps25
  go_wp2_with fail
  refine (ratioG_any h).mono ?_
  rintro e w1 ⟨rfl, hb1⟩
  go_wp2
  go_ret
  exact ⟨rfl, hb1⟩
end Go.Proofs.Ytgkkapedhiipdaa
