/- The contracts of chapter 11's model: l11Ok, l11Far, ContinuedOf, CloserOf. No condition. -/
import Derived.Test.YtjikpkigncomfaaNearMath
import Derived.Test.YtjikpkigncomfaaGearSpec2
import Derived.Test.YtjikpkigncomfaaAssignSpec
namespace Go.Proofs.Ytjikpkigncomfaa
open Go.ChangeShapes Go.WideShapes Go.ChangeAt Go.RowKit

theorem ok11_yes {w : World} (n : Int) (h : ok11 n) : Calls Try.prog 40 #[.int .i64 n] w fun e w' => e = .returned (.bool true) ∧ w = w' := by
  go_enter Try.func40, Try.ntmps40
  go_wp2_with fail
  refine (in_yes _ _ _ h _).mono ?_
  rintro e w1 ⟨rfl, rfl⟩
  go_wp2
  go_ret
  exact ⟨rfl, rfl⟩
theorem ok11_no {w : World} (n : Int) (h : ¬ ok11 n) : Calls Try.prog 40 #[.int .i64 n] w fun e w' => e = .returned (.bool false) ∧ w = w' := by
  go_enter Try.func40, Try.ntmps40
  go_wp2_with fail
  refine (in_no _ _ _ h _).mono ?_
  rintro e w1 ⟨rfl, rfl⟩
  go_wp2
  go_ret
  exact ⟨rfl, rfl⟩
theorem wrap_in {x P : Int} (h : x = P) (h0 : -1000000000000000 ≤ P) (h1 : P ≤ 1000000000000000) : IntKind.i64.wrap x = P ∧ wrap64 x = P := by
  subst h
  have e : IntKind.i64.wrap x = x := IntWalk.i64_in _ (by omega)
  exact ⟨e, by unfold wrap64; omega⟩
theorem mul11 {x y : Int} (hx : ok11 x) (hy : ok11 y) : 1 ≤ x * y ∧ x * y ≤ 1000000 := by
  obtain ⟨a1, a2⟩ := hx
  obtain ⟨b1, b2⟩ := hy
  have h1 : 1 * 1 ≤ x * y := Int.mul_le_mul a1 b1 (by omega) (by omega)
  have h2 : x * y ≤ 1000 * 1000 := Int.mul_le_mul a2 b2 (by omega) (by omega)
  omega
theorem far_le {t u a b : Int} (ht : ok11 t) (hu : ok11 u) (ha : ok11 a) (hb : ok11 b) : farM t u a b ≤ 1000000 := by
  have h1 := mul11 ha hu
  have h2 := mul11 ht hb
  unfold farM; omega

theorem farS_any {w : World} (t u a b : Int) (ht : ok11 t) (hu : ok11 u) (ha : ok11 a) (hb : ok11 b) :
    Calls Try.prog 41 #[.int .i64 t, .int .i64 u, .int .i64 a, .int .i64 b] w fun e w' => e = .returned (.int .i64 (farM t u a b)) ∧ w = w' := by
  have h1 := mul11 ha hu
  have h2 := mul11 ht hb
  have HM : Hid (farM t u a b = max (a * u - t * b) (-(a * u - t * b))) := Lib.hid rfl
  obtain ⟨P, hP⟩ : ∃ P, a * u = P := ⟨_, rfl⟩
  obtain ⟨Q, hQ⟩ : ∃ Q, t * b = Q := ⟨_, rfl⟩
  rw [hP, hQ] at HM
  rw [hP] at h1
  rw [hQ] at h2
  obtain ⟨e1, e2⟩ := wrap_in hP (by omega) (by omega)
  obtain ⟨e3, e4⟩ := wrap_in hQ (by omega) (by omega)
  obtain ⟨X, hX⟩ : ∃ X, P - Q = X := ⟨_, rfl⟩
  rw [hX] at HM
  obtain ⟨e5, e6⟩ := wrap_in hX (by omega) (by omega)
  obtain ⟨e7, e8⟩ := wrap_in (x := -X) rfl (by omega) (by omega)
  clear hP hQ hX
  have emx : (if X < -X then -X else X) = max X (-X) := by split <;> omega
  go_enter Try.func41, Try.ntmps41
  go_wp2
  go_ret
  exact ⟨by rw [HM.out]; rfl, rfl⟩

set_option maxHeartbeats 2000000 in
theorem contS_any {w : World} (top bottom : Int) :
    Calls Try.prog 20 #[.int .i64 top, .int .i64 bottom] w (NewInts w (contM top bottom)) := by
  have hown0 : (w.alloc (.cells #[] 3)).ownsRow w.heap.size 3 1 (.slice (some ⟨w.heap.size, 0, none⟩) 0 0) 0 [] := World.ownsRow_made w #[] 0 (Nat.le_refl _) (by simp) rfl
  have hb0 : Below w.heap.size w (w.alloc (.cells #[] 3)) := (Below.refl _ _).alloc (Nat.le_refl _) _
  by_cases h1 : 0 ≤ top ∧ top ≤ 1000000
  · by_cases h2 : 1 ≤ bottom ∧ bottom ≤ 1000000
    · obtain ⟨a, rfl⟩ := Int.eq_ofNat_of_zero_le h1.1
      obtain ⟨b, rfl⟩ := Int.eq_ofNat_of_zero_le (show 0 ≤ bottom by omega)
      have HM := Lib.hid (contM_yes (a := a) (b := b) (by omega) (by omega))
      have hab : a ≤ 1000000 ∧ b ≤ 1000000 := by omega
      have HL := Lib.hid (contL_len a b)
      go_enter Try.func20, Try.ntmps20
      go_wp2_with fail
      refine (in_yes _ _ _ h1 _).mono ?_
      rintro e w1 ⟨rfl, rfl⟩
      go_wp2_with fail
      refine (in_yes _ _ _ h2 _).mono ?_
      rintro e w1 ⟨rfl, rfl⟩
      clear h1 h2
      go_wp2_with fail
      go_loopw [0, 1, 5] (fun v0 v1 v5 wr => ∃ (x y : Nat) (out : List Int), x ≤ 1000000 ∧ y ≤ 1000000 ∧ v0 = .int .i64 (x : Int) ∧ v1 = .int .i64 (y : Int) ∧ Hid (out ++ (contL x y).map Int.ofNat = (contL a b).map Int.ofNat) ∧ wr.ownsRow w.heap.size 3 1 v5 out.length (out.map intV) ∧ Below w.heap.size w wr) (fun _ v1 _ _ => (intOf v1).toNat)
      case atStart => exact ⟨a, b, [], hab.1, hab.2, rfl, rfl, Lib.hid (by simp), hown0, hb0⟩
      case round =>
        obtain ⟨x, y, out, hx, hy, rfl, rfl, HO, hown, hbr⟩ := hrel
        clear hown0 hb0
        by_cases h0 : y = 0
        · subst h0
          have HE : Hid (out = contM (a : Int) (b : Int)) := Lib.hid (by have := HO.out; rw [contL_zero] at this; rw [HM.out]; simpa using this)
          go_wp2
          go_ret
          rw [← HE.out]
          exact ⟨_, rfl, hown, hbr⟩
        · have hy1 : (0 : Int) < (y : Int) := by omega
          have hyz : ((y : Int) == 0) = false := by rw [beq_eq_false_iff_ne]; omega
          have hxy : x % y < y := Nat.mod_lt _ (by omega)
          have hxd : x / y ≤ x := Nat.div_le_self _ _
          have HN : Hid (out ++ [((x / y : Nat) : Int)] ++ (contL y (x % y)).map Int.ofNat = (contL a b).map Int.ofNat) := Lib.hid (by rw [← HO.out, contL_step h0, List.map_cons, List.append_assoc]; rfl)
          have hol : out.length ≤ 1000000 := by
            have h7 := congrArg List.length HO.out
            have h8 := HL.out
            rw [List.length_append, List.length_map, List.length_map] at h7
            omega
          have ht : (x : Int).tmod (y : Int) = (x : Int) % (y : Int) := Int.tmod_eq_emod_of_nonneg (by omega)
          have hd : (x : Int).tdiv (y : Int) = (x : Int) / (y : Int) := Int.tdiv_eq_ediv_of_nonneg (by omega)
          have HMD : Hid ((x : Int) % (y : Int) = ((x % y : Nat) : Int)) := Lib.hid (Int.natCast_emod x y).symm
          have HDV : Hid ((x : Int) / (y : Int) = ((x / y : Nat) : Int)) := Lib.hid (Int.natCast_ediv x y).symm
          have ew : IntKind.i64.wrap ((x : Int) % (y : Int)) = (x : Int) % (y : Int) := IntWalk.i64_in _ (by rw [HMD.out]; omega)
          have hz0 : (0 : Int) ≤ (x : Int) / (y : Int) := Int.ediv_nonneg (by omega) (by omega)
          have hz1 : (x : Int) / (y : Int) ≤ (x : Int) := Int.ediv_le_self _ (by omega)
          have ew2 : IntKind.i64.wrap ((x : Int) / (y : Int)) = (x : Int) / (y : Int) := IntWalk.i64_in _ (by omega)
          obtain ⟨v', w4, e4, ho4, hg4, -⟩ := app_int hown ((x : Int) / (y : Int)) (by omega) hbr.size
          have hb4 := (hbr.alloc hbr.size (.cells #[.int .i64 ((x : Int) / (y : Int))] 3)).grown hg4 (by rw [size_alloc]; have := hbr.size; omega) (fun z hz => (hown.lt z hz).1)
          have ho5 : Hid (w4.ownsRow w.heap.size 3 1 v' (out ++ [((x / y : Nat) : Int)]).length ((out ++ [((x / y : Nat) : Int)]).map intV)) := Lib.hid (by
            rw [HDV.out] at ho4; rw [List.length_append, List.map_append]; exact ho4)
          clear hown hbr hg4 ho4
          go_wp2_with (at_builtin; refine wpList_append_eq rfl _ _ _ rfl _ _ _ rfl rfl e4 ?_)
          go_quiet (fail)
          go_wp2
          go_roundw
          case rel => exact ⟨y, x % y, _, hy, by omega, rfl, by first | rfl | rw [← HMD.out], HN, ho5.out, below_drewN hb4 _⟩
          case measure => simp [intOf]; omega
    · have HM := Lib.hid (contM_no (top := top) (bottom := bottom) fun q => h2 q.2)
      go_enter Try.func20, Try.ntmps20
      go_wp2_with fail
      refine (in_yes _ _ _ h1 _).mono ?_
      rintro e w1 ⟨rfl, rfl⟩
      go_wp2_with fail
      refine (in_no _ _ _ h2 _).mono ?_
      rintro e w1 ⟨rfl, rfl⟩
      go_wp2
      go_ret
      rw [HM.out]
      exact ⟨_, rfl, hown0, hb0⟩
  · have HM := Lib.hid (contM_no (top := top) (bottom := bottom) fun q => h1 q.1)
    go_enter Try.func20, Try.ntmps20
    go_wp2_with fail
    refine (in_no _ _ _ h1 _).mono ?_
    rintro e w1 ⟨rfl, rfl⟩
    go_wp2
    go_ret
    rw [HM.out]
    exact ⟨_, rfl, hown0, hb0⟩

theorem mul12 {x y : Int} (hx : 0 ≤ x ∧ x ≤ 1000000) (hy : ok11 y) : 0 ≤ x * y ∧ x * y ≤ 1000000000 := by
  obtain ⟨b1, b2⟩ := hy
  have h1 : 0 ≤ x * y := Int.mul_nonneg hx.1 (by omega)
  have h2 : x * y ≤ 1000000 * 1000 := Int.mul_le_mul hx.2 b2 (by omega) (by omega)
  omega

set_option maxHeartbeats 4000000 in
theorem closS_any {w : World} (t u a b c d : Int) :
    Calls Try.prog 26 #[.int .i64 t, .int .i64 u, .int .i64 a, .int .i64 b, .int .i64 c, .int .i64 d] w fun e w' => e = .returned (.int .i64 (closM6 t u a b c d)) ∧ w = w' := by
  by_cases h1 : ok11 t
  · by_cases h2 : ok11 u
    · by_cases h3 : ok11 a
      · by_cases h4 : ok11 b
        · by_cases h5 : ok11 c
          · by_cases h6 : ok11 d
            · have hall : ok11 t ∧ ok11 u ∧ ok11 a ∧ ok11 b ∧ ok11 c ∧ ok11 d := ⟨h1, h2, h3, h4, h5, h6⟩
              have HL := Lib.hid (fun q => clos_less hall q)
              have HG := Lib.hid (fun q => clos_more hall q)
              have HS := Lib.hid (fun q => clos_same hall q)
              have HF1 := Lib.hid (fun W : World => farS_any (w := W) t u a b h1 h2 h3 h4)
              have HF2 := Lib.hid (fun W : World => farS_any (w := W) t u c d h1 h2 h5 h6)
              have n1 := mul12 ⟨farM_nonneg t u a b, far_le h1 h2 h3 h4⟩ h6
              have n2 := mul12 ⟨farM_nonneg t u c d, far_le h1 h2 h5 h6⟩ h4
              generalize closM6 t u a b c d = R at *
              generalize farM t u a b = F1 at *
              generalize farM t u c d = F2 at *
              obtain ⟨P, hP⟩ : ∃ P, F1 * d = P := ⟨_, rfl⟩
              obtain ⟨Q, hQ⟩ : ∃ Q, F2 * b = Q := ⟨_, rfl⟩
              rw [hP, hQ] at HL HG HS
              rw [hP] at n1
              rw [hQ] at n2
              obtain ⟨e1, e2⟩ := wrap_in hP (by omega) (by omega)
              obtain ⟨e3, e4⟩ := wrap_in hQ (by omega) (by omega)
              clear hP hQ hall n1 n2
              go_enter Try.func26, Try.ntmps26
              go_wp2_with fail
              refine (ok11_yes t h1).mono ?_
              rintro e w1 ⟨rfl, rfl⟩
              go_wp2_with fail
              refine (ok11_yes u h2).mono ?_
              rintro e w1 ⟨rfl, rfl⟩
              go_wp2_with fail
              refine (ok11_yes a h3).mono ?_
              rintro e w1 ⟨rfl, rfl⟩
              go_wp2_with fail
              refine (ok11_yes b h4).mono ?_
              rintro e w1 ⟨rfl, rfl⟩
              go_wp2_with fail
              refine (ok11_yes c h5).mono ?_
              rintro e w1 ⟨rfl, rfl⟩
              go_wp2_with fail
              refine (ok11_yes d h6).mono ?_
              rintro e w1 ⟨rfl, rfl⟩
              go_wp2_with fail
              refine (HF1.out _).mono ?_
              rintro e w1 ⟨rfl, rfl⟩
              go_wp2_with fail
              refine (HF2.out _).mono ?_
              rintro e w1 ⟨rfl, rfl⟩
              by_cases c1 : P < Q
              · have HR := Lib.hid (HL.out c1)
                go_wp2
                go_ret
                exact ⟨by rw [HR.out]; rfl, rfl⟩
              · by_cases c2 : Q < P
                · have HR := Lib.hid (HG.out c2)
                  go_wp2
                  go_ret
                  exact ⟨by rw [HR.out]; rfl, rfl⟩
                · have HR := Lib.hid (HS.out (by omega))
                  go_wp2
                  go_ret
                  exact ⟨by rw [HR.out]; rfl, rfl⟩
            · have HR := Lib.hid (clos_no (top := t) (bottom := u) (a := a) (b := b) (c := c) (d := d) fun q => h6 q.2.2.2.2.2)
              go_enter Try.func26, Try.ntmps26
              go_wp2_with fail
              refine (ok11_yes t h1).mono ?_
              rintro e w1 ⟨rfl, rfl⟩
              go_wp2_with fail
              refine (ok11_yes u h2).mono ?_
              rintro e w1 ⟨rfl, rfl⟩
              go_wp2_with fail
              refine (ok11_yes a h3).mono ?_
              rintro e w1 ⟨rfl, rfl⟩
              go_wp2_with fail
              refine (ok11_yes b h4).mono ?_
              rintro e w1 ⟨rfl, rfl⟩
              go_wp2_with fail
              refine (ok11_yes c h5).mono ?_
              rintro e w1 ⟨rfl, rfl⟩
              go_wp2_with fail
              refine (ok11_no d h6).mono ?_
              rintro e w1 ⟨rfl, rfl⟩
              go_wp2
              go_ret
              exact ⟨by rw [HR.out]; rfl, rfl⟩
          · have HR := Lib.hid (clos_no (top := t) (bottom := u) (a := a) (b := b) (c := c) (d := d) fun q => h5 q.2.2.2.2.1)
            go_enter Try.func26, Try.ntmps26
            go_wp2_with fail
            refine (ok11_yes t h1).mono ?_
            rintro e w1 ⟨rfl, rfl⟩
            go_wp2_with fail
            refine (ok11_yes u h2).mono ?_
            rintro e w1 ⟨rfl, rfl⟩
            go_wp2_with fail
            refine (ok11_yes a h3).mono ?_
            rintro e w1 ⟨rfl, rfl⟩
            go_wp2_with fail
            refine (ok11_yes b h4).mono ?_
            rintro e w1 ⟨rfl, rfl⟩
            go_wp2_with fail
            refine (ok11_no c h5).mono ?_
            rintro e w1 ⟨rfl, rfl⟩
            go_wp2
            go_ret
            exact ⟨by rw [HR.out]; rfl, rfl⟩
        · have HR := Lib.hid (clos_no (top := t) (bottom := u) (a := a) (b := b) (c := c) (d := d) fun q => h4 q.2.2.2.1)
          go_enter Try.func26, Try.ntmps26
          go_wp2_with fail
          refine (ok11_yes t h1).mono ?_
          rintro e w1 ⟨rfl, rfl⟩
          go_wp2_with fail
          refine (ok11_yes u h2).mono ?_
          rintro e w1 ⟨rfl, rfl⟩
          go_wp2_with fail
          refine (ok11_yes a h3).mono ?_
          rintro e w1 ⟨rfl, rfl⟩
          go_wp2_with fail
          refine (ok11_no b h4).mono ?_
          rintro e w1 ⟨rfl, rfl⟩
          go_wp2
          go_ret
          exact ⟨by rw [HR.out]; rfl, rfl⟩
      · have HR := Lib.hid (clos_no (top := t) (bottom := u) (a := a) (b := b) (c := c) (d := d) fun q => h3 q.2.2.1)
        go_enter Try.func26, Try.ntmps26
        go_wp2_with fail
        refine (ok11_yes t h1).mono ?_
        rintro e w1 ⟨rfl, rfl⟩
        go_wp2_with fail
        refine (ok11_yes u h2).mono ?_
        rintro e w1 ⟨rfl, rfl⟩
        go_wp2_with fail
        refine (ok11_no a h3).mono ?_
        rintro e w1 ⟨rfl, rfl⟩
        go_wp2
        go_ret
        exact ⟨by rw [HR.out]; rfl, rfl⟩
    · have HR := Lib.hid (clos_no (top := t) (bottom := u) (a := a) (b := b) (c := c) (d := d) fun q => h2 q.2.1)
      go_enter Try.func26, Try.ntmps26
      go_wp2_with fail
      refine (ok11_yes t h1).mono ?_
      rintro e w1 ⟨rfl, rfl⟩
      go_wp2_with fail
      refine (ok11_no u h2).mono ?_
      rintro e w1 ⟨rfl, rfl⟩
      go_wp2
      go_ret
      exact ⟨by rw [HR.out]; rfl, rfl⟩
  · have HR := Lib.hid (clos_no (top := t) (bottom := u) (a := a) (b := b) (c := c) (d := d) fun q => h1 q.1)
    go_enter Try.func26, Try.ntmps26
    go_wp2_with fail
    refine (ok11_no t h1).mono ?_
    rintro e w1 ⟨rfl, rfl⟩
    go_wp2
    go_ret
    exact ⟨by rw [HR.out]; rfl, rfl⟩
end Go.Proofs.Ytjikpkigncomfaa
