/- The contract of chapter 9's model: ExtraTeeth. No condition. -/
import Derived.Test.YtcbdoldcdgaooaaForAllSpec
namespace Go.Proofs.Ytcbdoldcdgaooaa
open Go.ChangeShapes Go.WideShapes Go.ChangeAt Go.RowKit

theorem orw_all : ∀ S : Fin 256, ∀ k : Fin 8, bits .or .i64 (S.1 : Int) (IntKind.i64.wrap (2 ^ k.1)) = ((S.1 ||| 2 ^ k.1 : Nat) : Int) := by decide +kernel
theorem orw_eq {S k : Nat} (hS : S < 256) (hk : k < 8) : bits .or .i64 (S : Int) (IntKind.i64.wrap (2 ^ k)) = ((S ||| 2 ^ k : Nat) : Int) := orw_all ⟨S, hS⟩ ⟨k, hk⟩

open Classical in
noncomputable def extraI (r : Int) (ll : List (List (Int × Int))) (c : List Int) (k : Int) : Int :=
  match allO r ll c with
  | some S => if 0 ≤ k ∧ k ≤ (ll.length : Int) - 1 then allS r ll (S ||| 2 ^ k.toNat) - allS r ll S else -1
  | none => -1
theorem extraI_none {r : Int} {ll : List (List (Int × Int))} {c : List Int} (k : Int) (h : allO r ll c = none) : extraI r ll c k = -1 := by unfold extraI; rw [h]
theorem extraI_no {r : Int} {ll : List (List (Int × Int))} {c : List Int} {S : Nat} {k : Int} (h : allO r ll c = some S) (hk : ¬ (0 ≤ k ∧ k ≤ (ll.length : Int) - 1)) : extraI r ll c k = -1 := by unfold extraI; rw [h]; exact if_neg hk
theorem extraI_yes {r : Int} {ll : List (List (Int × Int))} {c : List Int} {S : Nat} {k : Int} (h : allO r ll c = some S) (hk : 0 ≤ k ∧ k ≤ (ll.length : Int) - 1) : extraI r ll c k = allS r ll (S ||| 2 ^ k.toNat) - allS r ll S := by unfold extraI; rw [h]; exact if_pos hk

set_option maxHeartbeats 2000000 in
theorem extra_any {w : World} {v vc : Value} {us : List Value} {ll : List (List (Int × Int))} {c : List Int} (k r : Int) (h : RdN w v us ll) (hc : Rd1 w vc c) :
    Calls Try.prog 40 #[v, vc, .int .i64 k, .int .i64 r] w fun e w' => e = .returned (.int .i64 (extraI r ll c k)) ∧ Below w.heap.size w w' := by
  obtain ⟨a1, cap1, rfl⟩ := h.slice
  have hm := h.len
  unfold maxLen at hm
  cases hs : allO r ll c with
  | none =>
    have HB := Lib.hid (extraI_none k hs)
    have HI := Lib.hid (allI_none hs)
    clear hs
    go_enter Try.func40, Try.ntmps40
    go_wp2_with fail
    refine (forall_any r h hc).mono ?_
    rintro e w1 ⟨rfl, hb1⟩
    rw [HI.out]
    go_wp2
    go_ret
    exact ⟨by rw [HB.out]; rfl, hb1⟩
  | some S =>
    have HI := Lib.hid (allI_some hs)
    have HP := Lib.hid (allO_some hs)
    have hS := allO_none_of hs
    have hl8 := (progB_true.1 HP.out.1).2.1
    have hs1 := allS_nonneg (S := S) HP.out.1
    have hd0 : decide (allS r ll S < 0) = false := decide_eq_false (by omega)
    by_cases hk : 0 ≤ k ∧ k ≤ (ll.length : Int) - 1
    · have HB := Lib.hid (extraI_yes hs hk)
      obtain ⟨k', rfl⟩ := Int.eq_ofNat_of_zero_le hk.1
      have hk8 : k' < 8 := by omega
      have hs2 := allS_nonneg (S := S ||| 2 ^ k') HP.out.1
      have hS2 : S ||| 2 ^ k' < 256 := or_lt hS hk8
      have HE := Lib.hid (orw_eq hS hk8)
      have ew : IntKind.i64.wrap ((ll.length : Int) - 1) = (ll.length : Int) - 1 := IntWalk.i64_in _ (by omega)
      have hn7 : -1 ≤ (ll.length : Int) - 1 ∧ (ll.length : Int) - 1 ≤ 7 := by omega
      clear hs
      go_enter Try.func40, Try.ntmps40
      go_wp2_with fail
      refine (forall_any r h hc).mono ?_
      rintro e w1 ⟨rfl, hb1⟩
      rw [HI.out]
      go_wp2_with fail
      refine (in_yes _ _ _ hk _).mono ?_
      rintro e w2 ⟨rfl, rfl⟩
      clear hk
      go_wp2_with fail
      have g1 := hb1.drew
      have HN : ∀ {W : World}, Below w.heap.size w W → Calls Try.prog 93 #[.slice a1 ll.length cap1, .int .i64 ((S ||| 2 ^ k' : Nat) : Int), .int .i64 r] W (NewInts W (needSL r ll (S ||| 2 ^ k') ll.length)) := fun g => l09needs_any r _ hS2 HP.out.1 (h.below g)
      have HSET := Lib.hid (setI_some HP.out.2)
      have HSUM := Lib.hid (needSL_le (S := S ||| 2 ^ k') HP.out.1)
      go_region_held3 (fun _ => True) (trivial) ((first
        | (go_at_call 94; (refine (l09set_any ((ll.length : Int) - 1) hn7 (Rd.below hc g1)).mono ?_); rintro e w2 ⟨rfl, hb2⟩; have g2 := bstep g1 hb2; rw [HSET.out])
        | (go_at_call 93; rw [HE.out]; (refine (HN g2).mono ?_); rintro e w3 ⟨v3, rfl, ho3, hb3⟩; have g3 := bstep g2 hb3)
        | (go_at_call 92; (refine (l09sum_any (Rd.of_own ho3) (by rw [needSL_len]; omega) HSUM.out).mono ?_); rintro e w4 ⟨rfl, rfl⟩)))
      have HD : Hid (IntKind.i64.wrap ((needSL r ll (S ||| 2 ^ k') ll.length).sum - allS r ll S) = extraI r ll c (k' : Int)) := Lib.hid (by
        rw [HB.out, Int.toNat_natCast]; exact IntWalk.i64_in _ (by have e : (needSL r ll (S ||| 2 ^ k') ll.length).sum = allS r ll (S ||| 2 ^ k') := rfl
                                                                   omega))
      rw [HD.out]
      go_wp2
      go_ret
      exact ⟨rfl, g3⟩
    · have HB := Lib.hid (extraI_no hs hk)
      clear hs
      have ew : IntKind.i64.wrap ((ll.length : Int) - 1) = (ll.length : Int) - 1 := IntWalk.i64_in _ (by omega)
      go_enter Try.func40, Try.ntmps40
      go_wp2_with fail
      refine (forall_any r h hc).mono ?_
      rintro e w1 ⟨rfl, hb1⟩
      rw [HI.out]
      go_wp2_with fail
      refine (in_no _ _ _ hk _).mono ?_
      rintro e w2 ⟨rfl, rfl⟩
      go_wp2
      go_ret
      exact ⟨by rw [HB.out]; rfl, hb1⟩
end Go.Proofs.Ytcbdoldcdgaooaa
