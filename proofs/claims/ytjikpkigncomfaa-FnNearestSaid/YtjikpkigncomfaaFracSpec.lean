/- The contract of chapter 11's model: FractionOf. No condition. -/
import Derived.Test.YtjikpkigncomfaaNearSpec
namespace Go.Proofs.Ytjikpkigncomfaa
open Go.ChangeShapes Go.WideShapes Go.ChangeAt Go.RowKit

theorem frac_dead {q : List Int} : ∀ {k : Nat}, k < q.length → fracR (q.drop k) = none → fracR q = none
  | 0, _, h => by simpa using h
  | k + 1, hk, h => by
    have hx : k < q.length := by omega
    refine frac_dead (k := k) hx ?_
    rw [List.drop_eq_getElem_cons hx]
    exact fracR_dead (fun e => by have := congrArg List.length e; rw [List.length_drop, List.length_nil] at this; omega) h
theorem frac_last {q : List Int} {x : Int} (h : q[q.length - 1]? = some x) : fracR (q.drop (q.length - 1)) = some (x, 1) := by
  obtain ⟨hk, e⟩ := List.getElem?_eq_some_iff.1 h
  rw [List.drop_eq_getElem_cons hk, e, show q.length - 1 + 1 = q.length by omega, List.drop_length]
  rfl
theorem frac_next {q : List Int} {k : Nat} {x a b : Int} (hx : q[k]? = some x) (h : fracR (q.drop (k + 1)) = some (a, b)) : fracR (q.drop k) = if x * a + b > 1000000 ∨ a > 1000000 then none else some (x * a + b, a) := by
  obtain ⟨hk, e⟩ := List.getElem?_eq_some_iff.1 hx
  rw [List.drop_eq_getElem_cons hk, e, fracR_cons h]
/-- The answer of FractionOf. -/
def FracAns (w : World) (p : Int × Int) (b : Bool) (e : Ending) (w' : World) : Prop := e = .returned (.tuple #[.int .i64 p.1, .int .i64 p.2, .bool b]) ∧ Below w.heap.size w w'

set_option maxHeartbeats 4000000 in
theorem fracS_any {w : World} {v : Value} {q : List Int} (h : Rd1 w v q) :
    Calls Try.prog 24 #[v] w (FracAns w (fracM q).1 (fracM q).2) := by
  have hR := Lib.hid h
  have hm := h.2.1
  unfold maxLen at hm
  by_cases h1 : 1 ≤ (q.length : Int) ∧ (q.length : Int) ≤ 12
  · obtain ⟨y, hy⟩ : ∃ y, q[0]? = some y := ⟨_, List.getElem?_eq_getElem (by omega)⟩
    obtain ⟨b0, o0, c0, hv0, x0⟩ := Rd1.cell h hy
    subst hv0
    have HY := Lib.hid hy
    rw [Nat.add_zero] at x0
    have hlen1 : 1 ≤ q.length := by omega
    have hlen0 : (0 : Int) < (q.length : Int) := by omega
    by_cases h2 : 0 ≤ y ∧ y ≤ 1000
    · have HH1 := Lib.hid h1
      have HH2 := Lib.hid h2
      clear h h1 h2 hy
      go_enter Try.func24, Try.ntmps24
      go_wp2_with fail
      refine (in_yes _ _ _ HH1.out _).mono ?_
      rintro e w1 ⟨rfl, rfl⟩
      go_wp2_with fail
      refine (in_yes _ _ _ HH2.out _).mono ?_
      rintro e w1 ⟨rfl, rfl⟩
      go_wp2_with fail
      go_loopw [6] (fun v6 wr => ∃ k : Nat, 1 ≤ k ∧ k ≤ q.length ∧ v6 = .int .i64 (k : Int) ∧ wr = w ∧ Hid (∀ (i : Nat) (x : Int), 1 ≤ i → i < k → q[i]? = some x → 1 ≤ x ∧ x ≤ 1000)) (fun v6 _ => q.length - (intOf v6).toNat)
      case atStart => exact ⟨1, by omega, hlen1, rfl, rfl, Lib.hid fun i x h1 h2 => by omega⟩
      case round =>
        obtain ⟨k, hk1, hk, rfl, rfl, HA⟩ := hrel
        by_cases hlt : k < q.length
        · obtain ⟨x, hx⟩ : ∃ x, q[k]? = some x := ⟨_, List.getElem?_eq_getElem hlt⟩
          have HX := Lib.hid hx
          obtain ⟨b1, o1, c1, hv1, x1⟩ := Rd1.cell hR.out hx
          simp only [Value.slice.injEq, true_and, Option.some.injEq, Addr.mk.injEq, and_true] at hv1
          obtain ⟨⟨rfl, rfl⟩, rfl⟩ := hv1
          clear hx
          by_cases h3 : 1 ≤ x ∧ x ≤ 1000
          · have HA2 : Hid (∀ (i : Nat) (z : Int), 1 ≤ i → i < k + 1 → q[i]? = some z → 1 ≤ z ∧ z ≤ 1000) := Lib.hid fun i z hi hik hz => by
              by_cases e : i = k
              · subst e
                rw [HX.out] at hz
                obtain rfl := Option.some.inj hz
                exact h3
              · exact HA.out i z hi (by omega) hz
            go_wp2_with fail
            refine (in_yes _ _ _ h3 _).mono ?_
            rintro e w1 ⟨rfl, rfl⟩
            go_wp2
            go_roundw
            case rel => exact ⟨k + 1, by omega, by omega, by go_num, trivial, HA2⟩
            case measure => simp [intOf]; omega
          · have HF : Hid (fracM q = ((0, 0), false)) := Lib.hid (fracM_no fun p => h3 (p.2.2 k x hk1 HX.out))
            go_wp2_with fail
            refine (in_no _ _ _ h3 _).mono ?_
            rintro e w1 ⟨rfl, rfl⟩
            go_wp2
            exact bodyPost_ret (v := .tuple #[.int .i64 0, .int .i64 0, .bool false]) (by simp [results, Try.results24, go_sem]) rfl ⟨by rw [HF.out], Below.refl _ _⟩
        · obtain rfl : k = q.length := by omega
          have HP : Hid (FracP q) := Lib.hid ⟨by have := HH1.out; omega, fun x hx => by rw [HY.out] at hx; obtain rfl := Option.some.inj hx; exact HH2.out, fun i x hi hx => HA.out i x hi (List.getElem?_eq_some_iff.1 hx).1 hx⟩
          obtain ⟨z, hz⟩ : ∃ z, q[q.length - 1]? = some z := ⟨_, List.getElem?_eq_getElem (by omega)⟩
          have HL := Lib.hid (frac_last hz)
          have hz01 : 0 ≤ z ∧ z ≤ 1000 := by
            by_cases e : q.length - 1 = 0
            · rw [e] at hz; exact HP.out.2.1 z hz
            · have := HP.out.2.2 _ z (by omega) hz; omega
          obtain ⟨b1, o1, c1, hv1, x1⟩ := Rd1.cell hR.out hz
          simp only [Value.slice.injEq, true_and, Option.some.injEq, Addr.mk.injEq, and_true] at hv1
          obtain ⟨⟨rfl, rfl⟩, rfl⟩ := hv1
          clear hz HA
          have hj1 : (0 : Int) ≤ (q.length : Int) - 1 := by omega
          have hj2 : (1 : Int) ≤ (q.length : Int) := by omega
          have hj3 : (q.length : Int) - 1 < (q.length : Int) := by omega
          have ej1 : IntKind.i64.wrap ((q.length : Int) - 1) = (q.length : Int) - 1 := IntWalk.i64_in _ (by omega)
          have ej2 : ((q.length : Int) - 1).toNat = q.length - 1 := by omega
          have ej3 : IntKind.i64.wrap ((q.length : Int) - 2) = (q.length : Int) - 2 := IntWalk.i64_in _ (by omega)
          go_wp2_with fail
          go_loopw [7, 8, 9] (fun v7 v8 v9 wx => ∃ (m : Nat) (a b : Int), m + 1 ≤ q.length ∧ v9 = .int .i64 ((m : Int) - 1) ∧ v7 = .int .i64 a ∧ v8 = .int .i64 b ∧ (0 ≤ a ∧ a ≤ 1000000) ∧ (0 ≤ b ∧ b ≤ 1000000) ∧ wx = wr ∧ Hid (fracR (q.drop m) = some (a, b))) (fun _ _ v9 _ => (intOf v9 + 1).toNat)
          case atStart => exact ⟨q.length - 1, z, 1, by omega, by first | go_num | (congr 1; omega), rfl, rfl, by omega, by omega, rfl, HL⟩
          case round =>
            obtain ⟨m, a, b, hmq, rfl, rfl, rfl, ha, hb, rfl, HI⟩ := hrel
            cases m with
            | zero =>
              have HF : Hid (fracM q = ((a, b), true)) := Lib.hid (fracM_some HP.out (by have := HI.out; simpa using this))
              go_wp2
              exact bodyPost_ret (v := .tuple #[.int .i64 a, .int .i64 b, .bool true]) (by simp [results, Try.results24, go_sem]) rfl ⟨by rw [HF.out], Below.refl _ _⟩
            | succ k2 =>
              obtain ⟨x, hx⟩ : ∃ x, q[k2]? = some x := ⟨_, List.getElem?_eq_getElem (by omega)⟩
              have hx01 : 0 ≤ x ∧ x ≤ 1000 := by
                by_cases e : k2 = 0
                · rw [e] at hx; exact HP.out.2.1 x hx
                · have := HP.out.2.2 k2 x (by omega) hx; omega
              have HN := Lib.hid (frac_next hx HI.out)
              obtain ⟨b2, o2, c2, hv2, x2⟩ := Rd1.cell hR.out hx
              simp only [Value.slice.injEq, true_and, Option.some.injEq, Addr.mk.injEq, and_true] at hv2
              obtain ⟨⟨rfl, rfl⟩, rfl⟩ := hv2
              clear hx
              have e0 : ((k2 + 1 : Nat) : Int) - 1 = (k2 : Int) := by omega
              rw [e0]
              have hki : (k2 : Int) < (q.length : Int) := by omega
              have hxa0 : 0 ≤ x * a := Int.mul_nonneg hx01.1 ha.1
              have hxa1 : x * a ≤ 1000 * 1000000 := Int.mul_le_mul hx01.2 ha.2 (by omega) (by omega)
              obtain ⟨P, hP⟩ : ∃ P, x * a = P := ⟨_, rfl⟩
              rw [hP] at hxa0 hxa1 HN
              obtain ⟨e1, e2⟩ := wrap_in hP (by omega) (by omega)
              obtain ⟨T, hT⟩ : ∃ T, P + b = T := ⟨_, rfl⟩
              rw [hT] at HN
              obtain ⟨e3, e4⟩ := wrap_in hT (by omega) (by omega)
              have hT0 : 0 ≤ T := by omega
              clear hP hT
              have hak : ¬ (1000000 : Int) < a := by omega
              by_cases hbig : (1000000 : Int) < T
              · have HF : Hid (fracM q = ((0, 0), false)) := Lib.hid (fracM_none (frac_dead (k := k2) (by omega) (by rw [HN.out]; exact if_pos (Or.inl hbig))))
                go_wp2
                exact bodyPost_ret (v := .tuple #[.int .i64 0, .int .i64 0, .bool false]) (by simp [results, Try.results24, go_sem]) rfl ⟨by rw [HF.out], Below.refl _ _⟩
              · have HN2 : Hid (fracR (q.drop k2) = some (T, a)) := Lib.hid (by rw [HN.out]; exact if_neg fun k => k.elim hbig hak)
                go_wp2
                go_roundw
                case rel => exact ⟨k2, T, a, by omega, by first | go_num | (congr 1; omega), rfl, rfl, by omega, ha, trivial, HN2⟩
                case measure => simp [intOf] <;> omega
    · have HF : Hid (fracM q = ((0, 0), false)) := Lib.hid (fracM_no fun p => h2 (p.2.1 y HY.out))
      go_enter Try.func24, Try.ntmps24
      go_wp2_with fail
      refine (in_yes _ _ _ h1 _).mono ?_
      rintro e w1 ⟨rfl, rfl⟩
      go_wp2_with fail
      refine (in_no _ _ _ h2 _).mono ?_
      rintro e w1 ⟨rfl, rfl⟩
      go_wp2
      exact bodyPost_ret (v := .tuple #[.int .i64 0, .int .i64 0, .bool false]) (by simp [results, Try.results24, go_sem]) rfl ⟨by rw [HF.out], Below.refl _ _⟩
  · have HF : Hid (fracM q = ((0, 0), false)) := Lib.hid (fracM_no fun p => h1 (by have := p.1; omega))
    obtain ⟨a1, cap1, rfl⟩ := Rd.slice h
    go_enter Try.func24, Try.ntmps24
    go_wp2_with fail
    refine (in_no _ _ _ h1 _).mono ?_
    rintro e w1 ⟨rfl, rfl⟩
    go_wp2
    exact bodyPost_ret (v := .tuple #[.int .i64 0, .int .i64 0, .bool false]) (by simp [results, Try.results24, go_sem]) rfl ⟨by rw [HF.out], Below.refl _ _⟩
end Go.Proofs.Ytjikpkigncomfaa
