/- The contract of the program's LongestRest. No condition. -/
import Derived.Test.YtpjkajephloipaaImplAssign
import Derived.Test.YtpjkajephloipaaRestSpec
namespace Go.Proofs.Ytpjkajephloipaa
open Go.ChangeShapes Go.WideShapes Go.ChangeAt Go.RowKit

set_option maxHeartbeats 2000000 in
set_option maxRecDepth 100000 in
theorem irest_any {w : World} {vc vt : Value} {c : List Int} {t : List (Int × Int)} (hc : Rd1 w vc c) (ht : Rd2 w vt t) :
    Calls Try.prog 18 #[vc, vt] w fun e w' => e = .returned (.int .i64 (restM c t : Nat)) ∧ Below w.heap.size w w' := by
  obtain ⟨a1, cap1, rfl⟩ := Rd.slice hc
  obtain ⟨a2, cap2, rfl⟩ := Rd.slice ht
  go_enter Try.func18, Try.ntmps18
  go_wp2_with fail
  go_loopw [5] (fun v5 wr => ∃ r : Nat, r ≤ 100 ∧ v5 = .int .i64 (r : Int) ∧ Hid (restM c t = restTo c t r) ∧ Below w.heap.size w wr) (fun v5 _ => (intOf v5).toNat)
  case atStart => exact ⟨100, Nat.le_refl _, rfl, Lib.hid rfl, Below.refl _ _⟩
  case round =>
    obtain ⟨r, hr, rfl, HR, hbr⟩ := hrel
    by_cases h1 : 1 ≤ r
    · obtain ⟨q, rfl⟩ : ∃ q, r = q + 1 := ⟨r - 1, by omega⟩
      have HY := Lib.hid (fun h => restTo_yes (c := c) (t := t) (r := q) h)
      have HN := Lib.hid (fun h => restTo_no (c := c) (t := t) (r := q) h)
      have hcast : (((q + 1 : Nat)) : Int) = (q : Int) + 1 := by omega
      have hd1 : decide ((1 : Int) ≤ (q : Int) + 1) = true := decide_eq_true (by omega)
      rw [hcast] at HY HN
      rw [hcast]
      go_wp2_with fail
      refine (iassign_any ((q : Int) + 1) (Rd.below hc hbr) (Rd.below ht hbr)).mono ?_
      rintro e w1 ⟨v1, rfl, ho1, hb1⟩
      have g1 := bstep hbr hb1
      obtain ⟨a3, cap3, rfl⟩ := ownS_slice ho1
      clear ho1 hb1 hbr
      generalize (assignM c t ((q : Int) + 1)).2 = ok at *
      cases ok with
      | true =>
        have HE := Lib.hid (HR.out.trans (HY.out (by trivial)))
        go_wp2
        go_ret
        exact ⟨by rw [HE.out, hcast]; rfl, g1⟩
      | false =>
        have HE := Lib.hid (HR.out.trans (HN.out (by simp)))
        go_wp2
        go_roundw
        case rel => exact ⟨q, by omega, by go_num, HE, g1⟩
        case measure => simp [intOf]
    · obtain rfl : r = 0 := by omega
      have HE := Lib.hid (HR.out.trans (show restTo c t 0 = 0 from rfl))
      go_wp2
      go_ret
      exact ⟨by rw [HE.out]; rfl, hbr⟩
end Go.Proofs.Ytpjkajephloipaa
