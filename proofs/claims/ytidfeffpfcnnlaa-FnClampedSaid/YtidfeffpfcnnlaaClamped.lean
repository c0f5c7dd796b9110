/- For every code of bytes the law FnClamped returns true: a clamped number is in the range, is not changed again, and equals the number if this is in the range. No condition. -/
import Derived.Test.YtidfeffpfcnnlaaDraw
namespace Go.Proofs.Ytidfeffpfcnnlaa
open Go.ChangeShapes Go.WideShapes Go.ChangeAt Go.RowKit

theorem big_any {w : World} {v : Value} {n : Nat} {B : Nat} (hC : Code w B v n) :
    Calls Try.prog 8 #[v] w fun e w' => e = .returned (.bool (decide (1048576 < n))) ∧ w = w' := by
  rcases hC with ⟨rfl, a, cap, rfl⟩ | ⟨b, off, cap, rfl, hn, hbB, hcell⟩
  · go_enter Try.func8, Try.ntmps8
    go_wp2
    go_ret
    exact ⟨rfl, rfl⟩
  · unfold maxLen at hn
    clear hcell
    go_enter Try.func8, Try.ntmps8
    go_wp2
    go_ret
    exact ⟨by simp; omega, rfl⟩
theorem big_yes {w : World} {v : Value} {n : Nat} {B : Nat} (hC : Code w B v n) (h : 1048576 < n) :
    Calls Try.prog 8 #[v] w fun e w' => e = .returned (.bool true) ∧ w = w' :=
  (big_any hC).mono fun _ _ ⟨he, hw⟩ => ⟨by rw [he, decide_eq_true h], hw⟩
theorem big_no {w : World} {v : Value} {n : Nat} {B : Nat} (hC : Code w B v n) (h : ¬ 1048576 < n) :
    Calls Try.prog 8 #[v] w fun e w' => e = .returned (.bool false) ∧ w = w' :=
  (big_any hC).mono fun _ _ ⟨he, hw⟩ => ⟨by rw [he, decide_eq_false h], hw⟩

def ThreeInts (w : World) (e : Ending) (w' : World) : Prop :=
  ∃ x y z : Int, -9223372036854775808 ≤ x ∧ x ≤ 9223372036854775807 ∧ -9223372036854775808 ≤ y ∧ y ≤ 9223372036854775807 ∧ -9223372036854775808 ≤ z ∧ z ≤ 9223372036854775807 ∧
    e = .returned (.tuple #[.int .i64 x, .int .i64 y, .int .i64 z]) ∧ Below w.heap.size w w'

set_option maxHeartbeats 400000 in
theorem drawclamp_any {w : World} {v : Value} {n : Nat} (hC : Code w w.heap.size v n) :
    Calls Try.prog 9 #[v] w (ThreeInts w) := by
  go_enter Try.func9, Try.ntmps9
  go_wp2_with (first
    | (go_at_call 21; refine (new_any hC).mono ?_; rintro e w1 ⟨c, rfl, hb0, hC1⟩)
    | (go_at_call 22; refine (once_any _ (by omega) (by omega) (by assumption)).mono ?_; rintro e w1 ⟨x, rfl, hg1, hC1⟩; replace hg1 := (by assumption : Below w.heap.size w _).trans (below_of_only hg1 hC1.1 (by assumption : Below w.heap.size w _).size))
    | (go_at_call 24; refine (below_any _ (by omega) (by omega) (by assumption)).mono ?_; rintro e w1 ⟨x, hx0, hx1, rfl, hg1, hC1⟩; replace hg1 := (by assumption : Below w.heap.size w _).trans (below_of_only hg1 hC1.1 (by assumption : Below w.heap.size w _).size))
    | (go_at_call 23; refine (number_any (by assumption)).mono ?_; rintro e w1 ⟨x, hx0, hx1, rfl, hg1, hC1⟩; replace hg1 := (by assumption : Below w.heap.size w _).trans (below_of_only hg1 hC1.1 (by assumption : Below w.heap.size w _).size)))
  all_goals go_ret3
  all_goals exact ⟨_, _, _, by omega, by omega, by omega, by omega, by omega, by omega, rfl, by assumption⟩

def clampI (n l h : Int) : Int := if h < l then l else if n < l then l else if h < n then h else n
theorem clampI_in {n l h : Int} (hh : l ≤ h) : l ≤ clampI n l h ∧ clampI n l h ≤ h := by unfold clampI; omega
theorem clampI_same {n l h : Int} (h1 : l ≤ n) (h2 : n ≤ h) : clampI n l h = n := by unfold clampI; omega
theorem clampI_low {n l h : Int} (h1 : h < l) : clampI n l h = l := by unfold clampI; omega

set_option maxHeartbeats 400000 in
theorem clamp_any (n l h : Int) (w : World) :
    Calls Try.prog 10 #[.int .i64 n, .int .i64 l, .int .i64 h] w fun e w' => e = .returned (.int .i64 (clampI n l h)) ∧ w = w' := by
  by_cases h1 : h < n <;> by_cases h2 : l < n <;> by_cases h3 : l < h
  all_goals
    go_enter Try.func10, Try.ntmps10
    go_wp2
    go_ret
    refine ⟨?_, rfl⟩
    unfold clampI
    first | (rw [if_pos (by omega)]; done) | (rw [if_pos (by omega)]; rfl) | (simp; omega) | (go_goals; fail)

set_option maxHeartbeats 1000000 in
theorem clamped_walk {w : World} {v : Value} {n : Nat} (hC : Code w w.heap.size v n) :
    Calls Try.prog 3 #[v] w fun e w' => e = .returned (.bool true) ∧ Below w.heap.size w w' := by
  by_cases hbig : 1048576 < n
  · go_enter Try.func3, Try.ntmps3
    go_wp2_with (go_at_call 8; refine (big_yes hC hbig).mono ?_; rintro e w1 ⟨rfl, rfl⟩)
    go_ret
    exact ⟨rfl, Below.refl _ _⟩
  · go_enter Try.func3, Try.ntmps3
    go_wp2_with (go_at_call 8; refine (big_no hC hbig).mono ?_; rintro e w1 ⟨rfl, rfl⟩)
    refine (drawclamp_any hC).mono ?_
    rintro e w1 ⟨x, y, z, hx0, hx1, hy0, hy1, hz0, hz1, rfl, hb⟩
    have h7 : clampI 7 3 5 = 5 := by decide
    by_cases hzy : z < y
    · have hr := clampI_low (n := x) hzy
      go_wp2_with (go_at_call 10; refine (clamp_any _ _ _ _).mono ?_; rintro e w1 ⟨rfl, rfl⟩)
      go_ret
      exact ⟨rfl, hb⟩
    · by_cases hn1 : x < y
      · have hr := clampI_in (n := x) (show y ≤ z by omega)
        have hr2 := clampI_same hr.1 hr.2
        obtain ⟨hr0, hr1⟩ := hr
        go_wp2_with (go_at_call 10; refine (clamp_any _ _ _ _).mono ?_; rintro e w1 ⟨rfl, rfl⟩)
        go_ret
        exact ⟨rfl, hb⟩
      · by_cases hn2 : z < x
        · have hr := clampI_in (n := x) (show y ≤ z by omega)
          have hr2 := clampI_same hr.1 hr.2
          obtain ⟨hr0, hr1⟩ := hr
          go_wp2_with (go_at_call 10; refine (clamp_any _ _ _ _).mono ?_; rintro e w1 ⟨rfl, rfl⟩)
          go_ret
          exact ⟨rfl, hb⟩
        · have hr2 := clampI_same (n := x) (l := y) (h := z) (by omega) (by omega)
          have hr0 : y ≤ x := by omega
          have hr1 : x ≤ z := by omega
          go_wp2_with (go_at_call 10; refine (clamp_any _ _ _ _).mono ?_; rintro e w1 ⟨rfl, rfl⟩)
          go_ret
          exact ⟨rfl, hb⟩

namespace fnClamped
theorem own : ownKnob Try.prog.godebug = none := by kernel_rfl
theorem laidOut : laidOutB Try.prog = true := by kernel_rfl
set_option maxRecDepth 100000 in
theorem lifted (os : Os) (started : os.Started) (H : Type) (enc : TypeId × Value → H) :
    ReturnsInHanded {} Try.checked os 3 .any (Rows.fnClampedSpec.pre6 enc Try.prog Try.f3 Rows.fnClampedRow.domain false) (Rows.fnClampedSpec.post enc Try.prog Try.f3 false true false false) := by
  refine returnsInHanded_of_change (C := Try.checked) own started (by kernel_rfl) Try.func3
    (ChangeSpec.witness6 (enc := enc) (C := Try.checked) false ⟨#[], #[.slice none 0 0], []⟩ 8 (by kernel_rfl) (by kernel_rfl) (by kernel_rfl) (by kernel_rfl)) ?_
  intro W base args ds gs before hval0 hW hcnd _
  have hval : ∀ (j : Nat) t v, Try.f3.params[j]? = some t → args[j]? = some v → Value.okWide Try.prog W .any base t v := hval0
  have hW' := hW
  obtain ⟨p, q, hA0, hV, rfl, hfz, hnd⟩ := hW
  have hA : DataW.TrodAll enc Try.prog W 0 (fun _ => true) true Try.f3.params.toList args.toList ds p := hA0
  have hAk := hA
  rw [Try.params3] at hA hval
  obtain ⟨v0, d0, rfl, rfl, h0⟩ := trodAll_one hA
  obtain ⟨rfl, rfl⟩ := trodVars_none hV
  obtain ⟨n, hC⟩ := code_of_trod Try.underlying22 Try.underlying5 (by kernel_rfl) (hval 0 22 v0 rfl rfl) h0
  clear hA0 hval0
  simp only [List.append_nil] at hW'
  have hlt : ∀ x ∈ p, x.block < W.heap.size := fun x hx => hW'.lt x hx
  refine (clamped_walk hC).mono fun e W' ⟨he, hb⟩ => ?_
  subst he
  exact ⟨_, rfl, post_of_below (pa := p) (pv := []) hW' (fun _ _ _ => (trodAll_cons_mk (shut_bool Try.underlying4 _) trodAll_mk0)) (fun sp hsp => trodAll_stays laidOut hb (by rw [Try.params3]; intro t ht; obtain rfl : t = 22 := (by simpa using ht); exact ⟨by kernel_rfl, of_decide_eq_true (by kernel_rfl)⟩) hAk hlt hsp) (fun _ _ => rfl) (by simp)
    hb (ok_one (by kernel_rfl) rfl (okWide_bool_mk Try.underlying4 _))⟩

theorem over : Rows.fnClampedRow.holds Try.pinned (OpenSpec.ofChange Rows.fnClampedSpec) :=
  OpenClaim.holds_of_wide 3 Try.f3 rfl rfl rfl rfl rfl rfl rfl ⟨rfl, rfl, rfl, rfl, rfl⟩ rfl rfl rfl rfl rfl (by kernel_rfl) Try.func3 (by kernel_rfl)
    (of_decide_eq_true (by kernel_rfl)) (by unfold Func.isWrapper; first | (rw [if_pos (by decide +kernel)]; kernel_rfl) | (rw [if_neg (by decide +kernel)]; exact ⟨rfl, rfl⟩))
    (fun os started H enc _ => lifted os started H enc)

/-- THE STATEMENT -/
theorem proved : Rows.FnClampedSaid :=
  over
end fnClamped
end Go.Proofs.Ytidfeffpfcnnlaa
