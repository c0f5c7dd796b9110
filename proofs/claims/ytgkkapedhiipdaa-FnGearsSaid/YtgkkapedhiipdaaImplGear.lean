/- The program's own gears: wheelOk, GearOk, trainOk with its closure and slices.ContainsFunc, greatestDivisor, ratioOf, TrainRatio, LeastWhole. No condition. -/
import Derived.Test.YtgkkapedhiipdaaGearPure
import Derived.Test.YtgkkapedhiipdaaGearSpec2
import Derived.Test.YtgkkapedhiipdaaRdCap
namespace Go.Proofs.Ytgkkapedhiipdaa
open Go.ChangeShapes Go.WideShapes Go.ChangeAt Go.RowKit

theorem wheel_yes {n : Int} (h : 6 ≤ n ∧ n ≤ 120) (w : World) : Calls Try.prog 36 #[.int .i64 n] w fun e w' => e = .returned (.bool true) ∧ w = w' := by
  have h1 : decide (6 ≤ n) = true := decide_eq_true h.1
  have h2 : decide (n ≤ 120) = true := decide_eq_true h.2
  go_enter Try.func36, Try.ntmps36
  go_wp2
  go_ret
  exact ⟨rfl, rfl⟩
theorem wheel_no {n : Int} (h : ¬ (6 ≤ n ∧ n ≤ 120)) (w : World) : Calls Try.prog 36 #[.int .i64 n] w fun e w' => e = .returned (.bool false) ∧ w = w' := by
  by_cases k : 6 ≤ n
  · have h1 : decide (6 ≤ n) = true := decide_eq_true k
    have h2 : decide (n ≤ 120) = false := decide_eq_false fun j => h ⟨k, j⟩
    go_enter Try.func36, Try.ntmps36
    go_wp2
    go_ret
    exact ⟨rfl, rfl⟩
  · have h1 : decide (6 ≤ n) = false := decide_eq_false k
    go_enter Try.func36, Try.ntmps36
    go_wp2
    go_ret
    exact ⟨rfl, rfl⟩

theorem igear_any (p : Int × Int) (w : World) :
    Calls Try.prog 16 #[.agg #[.int .i64 p.1, .int .i64 p.2]] w fun e w' => e = .returned (.bool (gearB p)) ∧ Below w.heap.size w w' := by
  have hb0 : Below w.heap.size w (w.alloc (.cells #[.int .i64 p.1, .int .i64 p.2] 34)) := (Below.refl _ _).alloc (Nat.le_refl _) _
  by_cases h1 : 6 ≤ p.1 ∧ p.1 ≤ 120
  · by_cases h2 : 6 ≤ p.2 ∧ p.2 ≤ 120
    · have HG : Hid (gearB p = true) := Lib.hid (gearB_true.2 ⟨h1, h2⟩)
      go_enter Try.func16, Try.ntmps16
      go_wp2_with fail
      refine (wheel_yes h1 _).mono ?_
      rintro e w1 ⟨rfl, rfl⟩
      go_wp2_with fail
      refine (wheel_yes h2 _).mono ?_
      rintro e w1 ⟨rfl, rfl⟩
      go_wp2
      go_ret
      exact ⟨by rw [HG.out]; rfl, hb0⟩
    · have HG : Hid (gearB p = false) := Lib.hid (gearB_false.2 fun k => h2 k.2)
      go_enter Try.func16, Try.ntmps16
      go_wp2_with fail
      refine (wheel_yes h1 _).mono ?_
      rintro e w1 ⟨rfl, rfl⟩
      go_wp2_with fail
      refine (wheel_no h2 _).mono ?_
      rintro e w1 ⟨rfl, rfl⟩
      go_wp2
      go_ret
      exact ⟨by rw [HG.out]; rfl, hb0⟩
  · have HG : Hid (gearB p = false) := Lib.hid (gearB_false.2 fun k => h1 k.1)
    go_enter Try.func16, Try.ntmps16
    go_wp2_with fail
    refine (wheel_no h1 _).mono ?_
    rintro e w1 ⟨rfl, rfl⟩
    go_wp2
    go_ret
    exact ⟨by rw [HG.out]; rfl, hb0⟩

theorem badgear_any (p : Int × Int) (w : World) :
    Calls Try.prog 42 (#[.agg #[.int .i64 p.1, .int .i64 p.2]] ++ #[]) w fun e w' => e = .returned (.bool (!gearB p)) ∧ Below w.heap.size w w' := by
  have hb0 : Below w.heap.size w (w.alloc (.cells #[.int .i64 p.1, .int .i64 p.2] 34)) := (Below.refl _ _).alloc (Nat.le_refl _) _
  show Calls Try.prog 42 #[.agg #[.int .i64 p.1, .int .i64 p.2]] w _
  go_enter Try.func42, Try.ntmps42
  go_wp2_with fail
  refine (igear_any p _).mono ?_
  rintro e w1 ⟨rfl, hb1⟩
  have g1 := bstep hb0 hb1
  clear hb0 hb1
  cases hb : gearB p <;> (have HG := Lib.hid hb; clear hb; go_wp2; go_ret; exact ⟨by rw [HG.out]; rfl, g1⟩)

/-- What is asked of a test of gears. -/
def TstG (w : World) (g : FuncId) (caps : Array Value) (b : Int × Int → Bool) : Prop :=
  ∀ (p : Int × Int) (W : World), Below w.heap.size w W → Calls Try.prog g (#[.agg #[.int .i64 p.1, .int .i64 p.2]] ++ caps) W fun e W' => e = .returned (.bool (b p)) ∧ Below W.heap.size W W'

set_option maxHeartbeats 2000000 in
theorem indexg_any {w : World} {v : Value} {l : List (Int × Int)} {g : FuncId} {caps : Array Value} {b : Int × Int → Bool} (h : Rd2 w v l) (hm : l.length ≤ 1048576) (eg : ∀ args w, (callFunc g args).run Try.prog w = .ok (.enter g args) w) (hc : TstG w g caps b) :
    Calls Try.prog 46 #[v, .func (.func g) #[] caps] w fun e w' => (∃ z : Int, e = .returned (.int .i64 z) ∧ decide (0 ≤ z) = l.any b) ∧ Below w.heap.size w w' := by
  obtain ⟨a1, cap1, rfl⟩ := Rd.slice h
  have HC := Lib.hid hc; clear hc
  go_enter Try.func46, Try.ntmps46
  go_wp2_with fail
  go_loopw [8] (fun v8 wr => ∃ j : Nat, j ≤ l.length ∧ v8 = .int .i64 (j : Int) ∧ Hid (∀ (m : Nat) (x : Int × Int), m < j → l[m]? = some x → b x = false) ∧ Below w.heap.size w wr) (fun v8 _ => l.length - (intOf v8).toNat)
  case atStart => exact ⟨0, Nat.zero_le _, rfl, Lib.hid fun m x hm => by omega, Below.refl _ _⟩
  case round =>
    obtain ⟨j, hj, rfl, HA, hbr⟩ := hrel
    by_cases hlt : j < l.length
    · obtain ⟨x, hx⟩ : ∃ x, l[j]? = some x := ⟨_, List.getElem?_eq_getElem hlt⟩
      obtain ⟨b3, o3, c4, hv3, x3, y3⟩ := Rd2.cells (Rd.below h hbr) hx
      simp only [Value.slice.injEq, true_and] at hv3
      obtain ⟨rfl, rfl⟩ := hv3
      have HX := Lib.hid hx
      clear hx
      go_wp2_with fail
      refine (HC.out x _ hbr).mono ?_
      rintro e w2 ⟨rfl, hb2⟩
      have hb3 := bstep hbr hb2
      clear hb2 x3 y3 hbr
      cases hb : b x with
      | true =>
        have HE := Lib.hid (show l.any b = true from List.any_eq_true.2 ⟨x, List.mem_of_getElem? HX.out, hb⟩)
        go_wp2
        go_ret
        exact ⟨⟨_, rfl, by rw [HE.out]; exact decide_eq_true (by omega)⟩, hb3⟩
      | false =>
        have HA2 : Hid (∀ (m : Nat) (x : Int × Int), m < j + 1 → l[m]? = some x → b x = false) := Lib.hid fun m y hm' hy => by
          by_cases hmj : m < j
          · exact HA.out m y hmj hy
          · obtain rfl : m = j := by omega
            rw [HX.out] at hy
            obtain rfl := Option.some.inj hy
            exact hb
        go_wp2
        go_roundw
        case rel => exact ⟨j + 1, by omega, by go_num, HA2, hb3⟩
        case measure => simp [intOf]; omega
    · obtain rfl : j = l.length := by omega
      have HE := Lib.hid (show l.any b = false from List.any_eq_false.2 fun x hx => by
        obtain ⟨m, hm'⟩ := List.mem_iff_getElem?.1 hx
        rw [HA.out m x (List.getElem?_eq_some_iff.1 hm').1 hm']; simp)
      go_wp2
      go_ret
      exact ⟨⟨_, rfl, by rw [HE.out]; rfl⟩, hbr⟩
set_option maxHeartbeats 1000000 in
theorem containsg_any {w : World} {v : Value} {l : List (Int × Int)} {g : FuncId} {caps : Array Value} {b : Int × Int → Bool} (h : Rd2 w v l) (hm : l.length ≤ 1048576) (eg : ∀ args w, (callFunc g args).run Try.prog w = .ok (.enter g args) w) (hc : TstG w g caps b) :
    Calls Try.prog 43 #[v, .func (.func g) #[] caps] w fun e w' => e = .returned (.bool (l.any b)) ∧ Below w.heap.size w w' := by
  have HI := Lib.hid (indexg_any h hm eg hc)
  clear hc
  go_enter Try.func43, Try.ntmps43
  go_wp2_with fail
  refine HI.out.mono ?_
  rintro e w1 ⟨⟨z, rfl, hz⟩, hb⟩
  have HZ := Lib.hid hz
  clear hz HI
  by_cases h0 : 0 ≤ z
  · have hd : decide (0 ≤ z) = true := decide_eq_true h0
    have HE := Lib.hid (show l.any b = true by rw [← HZ.out, hd])
    go_wp2
    go_ret
    exact ⟨by rw [HE.out]; rfl, hb⟩
  · have hd : decide (0 ≤ z) = false := decide_eq_false h0
    have HE := Lib.hid (show l.any b = false by rw [← HZ.out, hd])
    go_wp2
    go_ret
    exact ⟨by rw [HE.out]; rfl, hb⟩

theorem trainB_any {l : List (Int × Int)} (h : l.length ≤ 4) : trainB l = !(l.any fun p => !gearB p) := by
  cases ha : l.any fun p => !gearB p with
  | true =>
    obtain ⟨p, hp, hb⟩ := List.any_eq_true.1 ha
    exact trainB_false.2 fun k => gearB_false.1 (by simpa using hb) (k.2 p hp)
  | false => exact trainB_true.2 ⟨h, fun p hp => gearB_true.1 (by have := List.any_eq_false.1 ha p hp; simpa using this)⟩

set_option maxHeartbeats 1000000 in
theorem trainok_any {w : World} {v : Value} {l : List (Int × Int)} (h : Rd2 w v l) :
    Calls Try.prog 33 #[v] w fun e w' => e = .returned (.bool (trainB l)) ∧ Below w.heap.size w w' := by
  obtain ⟨a1, cap1, rfl⟩ := Rd.slice h
  have hm := h.2.1
  unfold maxLen at hm
  by_cases h4 : l.length ≤ 4
  · have hd : decide ((l.length : Int) ≤ 4) = true := decide_eq_true (by omega)
    have HT := Lib.hid (trainB_any h4)
    have HC := Lib.hid (containsg_any (g := 42) (caps := #[]) (b := fun p => !gearB p) h (by omega) (fun _ _ => rfl) (fun p W _ => badgear_any p W))
    go_enter Try.func33, Try.ntmps33
    go_wp2_with fail
    refine HC.out.mono ?_
    rintro e w1 ⟨rfl, hb⟩
    clear HC
    generalize (l.any fun p => !gearB p) = b at *
    cases b <;> (go_wp2; go_ret; exact ⟨by rw [HT.out]; rfl, hb⟩)
  · have hd : decide ((l.length : Int) ≤ 4) = false := decide_eq_false (by omega)
    have HT : Hid (trainB l = false) := Lib.hid (trainB_false.2 fun k => h4 k.1)
    go_enter Try.func33, Try.ntmps33
    go_wp2
    go_ret
    exact ⟨by rw [HT.out]; rfl, Below.refl _ _⟩

set_option maxHeartbeats 1000000 in
theorem divisor_any {w : World} (a b : Nat) (ha : a ≤ 1000000000000) (hb : b ≤ 1000000000000) :
    Calls Try.prog 44 #[.int .i64 (a : Int), .int .i64 (b : Int)] w fun e w' => e = .returned (.int .i64 ((Nat.gcd a b : Nat) : Int)) ∧ Below w.heap.size w w' := by
  obtain ⟨G, hG⟩ : ∃ G, Nat.gcd a b = G := ⟨_, rfl⟩
  rw [hG]
  have HG := Lib.hid hG
  clear hG
  go_enter Try.func44, Try.ntmps44
  go_wp2
  go_loopw [0, 1] (fun v0 v1 wr => ∃ x y : Nat, v0 = .int .i64 (x : Int) ∧ v1 = .int .i64 (y : Int) ∧ x ≤ 1000000000000 ∧ y ≤ 1000000000000 ∧ Hid (Nat.gcd x y = G) ∧ Below w.heap.size w wr) (fun _ v1 _ => (intOf v1).toNat)
  case atStart => exact ⟨a, b, rfl, rfl, ha, hb, HG, Below.refl _ _⟩
  case round =>
    obtain ⟨x, y, rfl, rfl, hx, hy, HR, hbr⟩ := hrel
    by_cases h0 : y = 0
    · subst h0
      have HN : Hid (x = G) := Lib.hid (by have := HR.out; rwa [Nat.gcd_zero_right] at this)
      go_wp2
      go_ret
      exact ⟨by rw [← HN.out]; rfl, hbr⟩
    · have hyz : ((y : Int) == 0) = false := by rw [beq_eq_false_iff_ne]; omega
      have hxy : x % y < y := Nat.mod_lt _ (by omega)
      have HN : Hid (Nat.gcd y (x % y) = G) := Lib.hid (gcd_step.trans HR.out)
      have ht : (x : Int).tmod (y : Int) = (x : Int) % (y : Int) := Int.tmod_eq_emod_of_nonneg (by omega)
      have hm : (x : Int) % (y : Int) = ((x % y : Nat) : Int) := (Int.natCast_emod x y).symm
      have ew : IntKind.i64.wrap ((x : Int) % (y : Int)) = (x : Int) % (y : Int) := IntWalk.i64_in _ (by omega)
      have HM := Lib.hid hm
      clear hm
      go_wp2_with fail
      go_quiet (fail)
      go_wp2
      go_roundw
      case rel => exact ⟨y, x % y, rfl, by first | rfl | (rw [← HM.out]) | go_num, hy, by omega, HN, below_drewN hbr _⟩
      case measure => simp [intOf]; omega

set_option maxHeartbeats 4000000 in
theorem ratioof_any {w : World} {v : Value} {l : List (Int × Int)} (h : Rd2 w v l) (hP : ProdOk l) :
    Calls Try.prog 34 #[v] w fun e w' => e = .returned (.tuple #[.int .i64 (ratL l).1, .int .i64 (ratL l).2]) ∧ Below w.heap.size w w' := by
  obtain ⟨a1, cap1, rfl⟩ := Rd.slice h
  have hm := h.2.1
  unfold maxLen at hm
  have HP := Lib.hid hP
  clear hP
  go_enter Try.func34, Try.ntmps34
  go_wp2
  go_loopw [4, 5, 11] (fun v4 v5 v11 wr => ∃ (k : Nat) (t u : Int), k ≤ l.length ∧ v11 = .int .i64 (k : Int) ∧ v4 = .int .i64 t ∧ v5 = .int .i64 u ∧ Hid (t = topL (l.take k) ∧ u = botL (l.take k)) ∧ Below w.heap.size w wr) (fun _ _ v11 _ => l.length - (intOf v11).toNat)
  case atStart => exact ⟨0, 1, 1, Nat.zero_le _, rfl, rfl, rfl, Lib.hid ⟨by simp [topL, mulL], by simp [botL, mulL]⟩, Below.refl _ _⟩
  case round =>
    obtain ⟨k, t, u, hk, rfl, rfl, rfl, HI, hbr⟩ := hrel
    by_cases hlt : k < l.length
    · obtain ⟨q, hq⟩ : ∃ q, l[k]? = some q := ⟨_, List.getElem?_eq_getElem hlt⟩
      have HQ := Lib.hid hq
      obtain ⟨b1, o1, c1, hv1, x1, y1⟩ := Rd2.cells (Rd.below h hbr) hq
      simp only [Value.slice.injEq, true_and] at hv1
      obtain ⟨rfl, rfl⟩ := hv1
      clear hq
      have HN : Hid (t * q.1 = topL (l.take (k + 1)) ∧ u * q.2 = botL (l.take (k + 1))) := Lib.hid ⟨by rw [HI.out.1, topL_take HQ.out], by rw [HI.out.2, botL_take HQ.out]⟩
      have hpr := HP.out (k + 1) (by omega)
      rw [← HN.out.1, ← HN.out.2] at hpr
      have ew1 : IntKind.i64.wrap (t * q.1) = t * q.1 := IntWalk.i64_in _ (by omega)
      have ew2 : IntKind.i64.wrap (u * q.2) = u * q.2 := IntWalk.i64_in _ (by omega)
      have hbs : Below w.heap.size w (wr.alloc (.cells #[.int .i64 q.1, .int .i64 q.2] 34)) := hbr.alloc hbr.size _
      clear hbr hpr
      go_wp2
      go_roundw
      case rel => exact ⟨k + 1, t * q.1, u * q.2, by omega, by go_num, by go_num, by go_num, HN, hbs⟩
      case measure => simp [intOf]; omega
    · obtain rfl : k = l.length := by omega
      obtain ⟨x, y, hx, hy, hx1, hy1, hx2, hy2, hg1, hg2, hr⟩ := ratL_nat HP.out
      have HR := Lib.hid hr
      obtain rfl : t = (x : Int) := by rw [HI.out.1, List.take_length]; exact hx
      obtain rfl : u = (y : Int) := by rw [HI.out.2, List.take_length]; exact hy
      clear hr hx hy
      go_wp2_with fail
      refine (divisor_any x y (by omega) (by omega)).mono ?_
      rintro e w2 ⟨rfl, hb2⟩
      have hb3 := bstep hbr hb2
      clear hb2 hbr
      generalize Nat.gcd x y = g at *
      have hgz : ((g : Int) == 0) = false := by rw [beq_eq_false_iff_ne]; omega
      have hgn : ¬ g = 0 := by omega
      have hdx : (x : Int).tdiv (g : Int) = (x : Int) / (g : Int) := Int.tdiv_eq_ediv_of_nonneg (by omega)
      have hdy : (y : Int).tdiv (g : Int) = (y : Int) / (g : Int) := Int.tdiv_eq_ediv_of_nonneg (by omega)
      have bx0 : 0 ≤ (x : Int) / (g : Int) := Int.ediv_nonneg (by omega) (by omega)
      have bx1 : (x : Int) / (g : Int) ≤ (x : Int) := Int.ediv_le_self _ (by omega)
      have by0 : 0 ≤ (y : Int) / (g : Int) := Int.ediv_nonneg (by omega) (by omega)
      have by1 : (y : Int) / (g : Int) ≤ (y : Int) := Int.ediv_le_self _ (by omega)
      have ewx : IntKind.i64.wrap ((x : Int) / (g : Int)) = (x : Int) / (g : Int) := IntWalk.i64_in _ (by omega)
      have ewy : IntKind.i64.wrap ((y : Int) / (g : Int)) = (y : Int) / (g : Int) := IntWalk.i64_in _ (by omega)
      go_wp2_with fail
      go_quiet (fail)
      go_wp2
      go_ret2
      exact ⟨by rw [HR.out]; rfl, below_drewN hb3 _⟩

theorem itrain_any {w : World} {v : Value} {l : List (Int × Int)} (h : Rd2 w v l) :
    Calls Try.prog 12 #[v] w fun e w' => e = .returned (.tuple #[.int .i64 (ratM l).1, .int .i64 (ratM l).2]) ∧ Below w.heap.size w w' := by
  cases ht : trainB l with
  | true =>
    have HT := Lib.hid ht
    have HR := Lib.hid (ratL_train ht)
    clear ht
    go_enter Try.func12, Try.ntmps12
    go_wp2_with fail
    refine (trainok_any h).mono ?_
    rintro e w1 ⟨rfl, hb1⟩
    rw [HT.out]
    go_wp2_with fail
    refine (ratioof_any (Rd.below h hb1) (prod_train HT.out)).mono ?_
    rintro e w2 ⟨rfl, hb2⟩
    rw [HR.out]
    have hb3 := bstep hb1 hb2
    clear hb1 hb2
    go_wp2
    go_ret2
    exact ⟨rfl, hb3⟩
  | false =>
    have HT := Lib.hid ht
    have HR := Lib.hid (ratM_no ht)
    clear ht
    go_enter Try.func12, Try.ntmps12
    go_wp2_with fail
    refine (trainok_any h).mono ?_
    rintro e w1 ⟨rfl, hb1⟩
    rw [HT.out]
    go_wp2
    go_ret2
    exact ⟨by rw [HR.out]; rfl, hb1⟩

theorem iwhole_any {w : World} {v : Value} {l : List (Int × Int)} (h : Rd2 w v l) :
    Calls Try.prog 14 #[v] w fun e w' => e = .returned (.int .i64 (ratM l).2) ∧ Below w.heap.size w w' := by
  go_enter Try.func14, Try.ntmps14
  go_wp2_with fail
  refine (itrain_any h).mono ?_
  rintro e w1 ⟨rfl, hb1⟩
  go_wp2
  go_ret
  exact ⟨rfl, hb1⟩
end Go.Proofs.Ytgkkapedhiipdaa
