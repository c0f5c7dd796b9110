/- The contracts of the program's Higher, Later, Slower. No condition. -/
import Derived.Test.YtglehmffmailkaaImplTry
import Derived.Test.YtglehmffmailkaaChangeMath
namespace Go.Proofs.Ytglehmffmailkaa
open Go.ChangeShapes Go.WideShapes Go.ChangeAt Go.RowKit

theorem sort_ss {l : List (Int × Int)} (hl : l.length ≤ 40) (h : SS l) : dedM (mergeM l) = l := by
  rw [sort_eq hl]; unfold sortM; rw [if_pos hl, fold_self h]
/-- A change that moves all notes is the model's. -/
theorem try_shift {ok : Bool} {f : Int × Int → Int × Int} {a b c : Int} {l : List (Int × Int)} (ha : ok = true → 1 ≤ a) (hf : ∀ p : Int × Int, f p = (p.1 * a + b, p.2 + c)) : tryM ok f l = changeM ok a b c l := by
  by_cases h1 : ok = true
  · by_cases h2 : tuneB l = true
    · obtain ⟨hl, hs, -⟩ := tune_parts h2
      have e : l.map f = shiftL a b c l := List.map_congr_left fun p _ => hf p
      have e2 : dedM (mergeM (l.map f)) = shiftL a b c l := by rw [e]; exact sort_ss (by rw [shiftL_len]; exact hl) (shift_ss (ha h1) hs)
      by_cases h3 : tuneB (shiftL a b c l) = true
      · rw [changeM_yes h1 h2 h3, tryM_yes h1 h2 (by rw [e2]; exact h3), e2]
      · rw [changeM_no fun h => h3 h.2.2, tryM_no fun h => h3 (by rw [← e2]; exact h.2.2)]
    · rw [changeM_no fun h => h2 h.2.1, tryM_no fun h => h2 h.2.1]
  · rw [changeM_no fun h => h1 h.1, tryM_no fun h => h1 h.1]
theorem enters_mv : ∀ args w, (callFunc 80 args).run Try.prog w = .ok (.enter 80 args) w := enters_of Try.func80 (by kernel_rfl) rfl
theorem enters_sl : ∀ args w, (callFunc 70 args).run Try.prog w = .ok (.enter 70 args) w := enters_of Try.func70 (by kernel_rfl) rfl

/-- The change that moveBy makes. -/
theorem mv_chg {w : World} {l : List (Int × Int)} {dt dp : Int} {bt bp : Nat} (ht : w.cell? ⟨bt, 0, none⟩ = some (.int .i64 dt)) (hp : w.cell? ⟨bp, 0, none⟩ = some (.int .i64 dp))
    (h1 : ∀ p ∈ l, IntKind.i64.wrap (p.1 + dt) = p.1 + dt) (h2 : ∀ p ∈ l, IntKind.i64.wrap (p.2 + dp) = p.2 + dp) :
    Chg w 80 #[.pointer (some ⟨bt, 0, none⟩), .pointer (some ⟨bp, 0, none⟩)] (fun p => (p.1 + dt, p.2 + dp)) l :=
  fun p hpl W hW => mvlit_any dt dp p (kept_b hW ht) (kept_b hW hp) (h1 p hpl) (h2 p hpl)
theorem mv_below (w : World) (a b : Obj) : Below w.heap.size w ((w.alloc a).alloc b) := ((Below.refl _ _).alloc (Nat.le_refl _) _).alloc (by simp) _

set_option maxHeartbeats 1000000 in
theorem ihigher_any {w : World} {v : Value} {l : List (Int × Int)} (n : Int) (h : Rd2 w v l) (hl : l.length ≤ 1048576) :
    Calls Try.prog 41 #[v, .int .i64 n] w (NewNotesB w (higherM n l).1 (higherM n l).2) := by
  obtain ⟨a1, cap1, rfl⟩ := Rd.slice h
  have HM := Lib.hid (show tryM (inB n (-60) 60) (fun p => (p.1 + 0, p.2 + n)) l = higherM n l from try_shift (fun _ => by omega) fun p => by simp)
  have HC : Hid (inB n (-60) 60 = true → tuneB l = true → Chg ((w.alloc (.cells #[.int .i64 0] 3)).alloc (.cells #[.int .i64 n] 3)) 80 #[.pointer (some ⟨w.heap.size, 0, none⟩), .pointer (some ⟨w.heap.size + 1, 0, none⟩)] (fun p => (p.1 + 0, p.2 + n)) l) := Lib.hid fun hn ht => by
    have hn' := of_decide_eq_true hn
    refine mv_chg (cell_at1' _ _ _ _) (cell_at2 _ _ _ _) (fun p hp => IntWalk.i64_in _ ?_) (fun p hp => IntWalk.i64_in _ ?_)
    · have := ((tune_parts ht).2.2 p hp).1; omega
    · have := ((tune_parts ht).2.2 p hp).2; omega
  have HW := Lib.hid (mv_below w (.cells #[.int .i64 0] 3) (.cells #[.int .i64 n] 3))
  by_cases h1 : -60 ≤ n
  all_goals by_cases h2 : n ≤ 60
  all_goals
    go_enter Try.func41, Try.ntmps41
    go_wp2_with fail
    refine (moveby_any 0 n).mono ?_
    rintro e w1 ⟨rfl, rfl⟩
    go_wp2_with fail
    have ht := try_any (inB n (-60) 60) (Rd.below h HW.out) hl enters_mv HC.out
    first
      | rw [show inB n (-60) 60 = true from decide_eq_true ⟨h1, h2⟩] at ht HM
      | rw [show inB n (-60) 60 = false from decide_eq_false (by omega)] at ht HM
    rw [HM.out] at ht
    refine ht.mono ?_
    rintro e w2 ⟨v2, rfl, ho2, hb2⟩
    have ho3 := ownS_mono ho2 HW.out.size
    have hb3 := bstep HW.out hb2
    clear ho2 hb2
    go_wp2
    go_ret2
    exact ⟨v2, rfl, ho3, hb3⟩

set_option maxHeartbeats 1000000 in
theorem ilater_any {w : World} {v : Value} {l : List (Int × Int)} (n : Int) (h : Rd2 w v l) (hl : l.length ≤ 1048576) :
    Calls Try.prog 42 #[v, .int .i64 n] w (NewNotesB w (laterM n l).1 (laterM n l).2) := by
  obtain ⟨a1, cap1, rfl⟩ := Rd.slice h
  have HM := Lib.hid (show tryM (inB n (-1000) 1000) (fun p => (p.1 + n, p.2 + 0)) l = laterM n l from try_shift (fun _ => by omega) fun p => by simp)
  have HC : Hid (inB n (-1000) 1000 = true → tuneB l = true → Chg ((w.alloc (.cells #[.int .i64 n] 3)).alloc (.cells #[.int .i64 0] 3)) 80 #[.pointer (some ⟨w.heap.size, 0, none⟩), .pointer (some ⟨w.heap.size + 1, 0, none⟩)] (fun p => (p.1 + n, p.2 + 0)) l) := Lib.hid fun hn ht => by
    have hn' := of_decide_eq_true hn
    refine mv_chg (cell_at1' _ _ _ _) (cell_at2 _ _ _ _) (fun p hp => IntWalk.i64_in _ ?_) (fun p hp => IntWalk.i64_in _ ?_)
    · have := ((tune_parts ht).2.2 p hp).1; omega
    · have := ((tune_parts ht).2.2 p hp).2; omega
  have HW := Lib.hid (mv_below w (.cells #[.int .i64 n] 3) (.cells #[.int .i64 0] 3))
  by_cases h1 : -1000 ≤ n
  all_goals by_cases h2 : n ≤ 1000
  all_goals
    go_enter Try.func42, Try.ntmps42
    go_wp2_with fail
    refine (moveby_any n 0).mono ?_
    rintro e w1 ⟨rfl, rfl⟩
    go_wp2_with fail
    have ht := try_any (inB n (-1000) 1000) (Rd.below h HW.out) hl enters_mv HC.out
    first
      | rw [show inB n (-1000) 1000 = true from decide_eq_true ⟨h1, h2⟩] at ht HM
      | rw [show inB n (-1000) 1000 = false from decide_eq_false (by omega)] at ht HM
    rw [HM.out] at ht
    refine ht.mono ?_
    rintro e w2 ⟨v2, rfl, ho2, hb2⟩
    have ho3 := ownS_mono ho2 HW.out.size
    have hb3 := bstep HW.out hb2
    clear ho2 hb2
    go_wp2
    go_ret2
    exact ⟨v2, rfl, ho3, hb3⟩

set_option maxHeartbeats 1000000 in
theorem islower_any {w : World} {v : Value} {l : List (Int × Int)} (n : Int) (h : Rd2 w v l) (hl : l.length ≤ 1048576) :
    Calls Try.prog 43 #[v, .int .i64 n] w (NewNotesB w (slowerM n l).1 (slowerM n l).2) := by
  obtain ⟨a1, cap1, rfl⟩ := Rd.slice h
  have hmf : ∀ (fn : Fn) (first cap : Array Value) (w : World), (Instr.makeFunc fn first cap).run Try.prog w = .ok (.func fn first cap) w := fun _ _ _ _ => rfl
  have HM := Lib.hid (show tryM (inB n 1 100) (fun p => (p.1 * n, p.2)) l = slowerM n l from try_shift (fun h => (of_decide_eq_true h).1) fun p => by simp)
  have HC : Hid (inB n 1 100 = true → tuneB l = true → Chg (w.alloc (.cells #[.int .i64 n] 3)) 70 #[.pointer (some ⟨w.heap.size, 0, none⟩)] (fun p => (p.1 * n, p.2)) l) := Lib.hid fun hn ht => by
    have hn' := of_decide_eq_true hn
    refine fun p hp W hW => slowlit_any n p (kept_b hW (cell_at1 _ _ _)) (IntWalk.i64_in _ ?_)
    have r := ((tune_parts ht).2.2 p hp).1
    have m0 := Int.mul_nonneg r.1 (by omega : 0 ≤ n)
    have m1 := Int.mul_le_mul r.2 hn'.2 (by omega : 0 ≤ n) (by omega : (0 : Int) ≤ 1000)
    omega
  have HW := Lib.hid ((Below.refl w.heap.size w).alloc (Nat.le_refl _) (.cells #[.int .i64 n] 3))
  by_cases h1 : 1 ≤ n
  all_goals by_cases h2 : n ≤ 100
  all_goals
    go_enter Try.func43, Try.ntmps43
    go_wp2_with fail
    have ht := try_any (inB n 1 100) (Rd.below h HW.out) hl enters_sl HC.out
    first
      | rw [show inB n 1 100 = true from decide_eq_true ⟨h1, h2⟩] at ht HM
      | rw [show inB n 1 100 = false from decide_eq_false (by omega)] at ht HM
    rw [HM.out] at ht
    refine ht.mono ?_
    rintro e w2 ⟨v2, rfl, ho2, hb2⟩
    have ho3 := ownS_mono ho2 HW.out.size
    have hb3 := bstep HW.out hb2
    clear ho2 hb2
    go_wp2
    go_ret2
    exact ⟨v2, rfl, ho3, hb3⟩
end Go.Proofs.Ytglehmffmailkaa
