/- The contracts of chapter 10's model: GearOk, l10Gcd, TrainRatio, TurnsOf, LeastWhole. No condition. -/
import Derived.Test.YtcbdoldcdgaooaaGearMath
import Derived.Test.YtcbdoldcdgaooaaGears
import Derived.Test.YtcbdoldcdgaooaaSortSpec
namespace Go.Proofs.Ytcbdoldcdgaooaa
open Go.ChangeShapes Go.WideShapes Go.ChangeAt Go.RowKit

theorem gcd_step {x y : Nat} : Nat.gcd y (x % y) = Nat.gcd x y := by rw [Nat.gcd_comm, ← Nat.gcd_rec, Nat.gcd_comm]
theorem tmod_nat (x y : Nat) : (x : Int).tmod (y : Int) = ((x % y : Nat) : Int) := rfl

set_option maxHeartbeats 1000000 in
theorem gcdG_any {w : World} (a b : Nat) (ha : a ≤ 1000000000000) (hb : b ≤ 1000000000000) :
    Calls Try.prog 103 #[.int .i64 (a : Int), .int .i64 (b : Int)] w fun e w' => e = .returned (.int .i64 ((Nat.gcd a b : Nat) : Int)) ∧ Below w.heap.size w w' := by
  obtain ⟨G, hG⟩ : ∃ G, Nat.gcd a b = G := ⟨_, rfl⟩
  rw [hG]
  have HG := Lib.hid hG
  clear hG
  go_enter Try.func103, Try.ntmps103
  go_wp2
  go_loopw [0, 1] (fun v0 v1 wr => ∃ x y : Nat, v0 = .int .i64 (x : Int) ∧ v1 = .int .i64 (y : Int) ∧ x ≤ 1000000000000 ∧ y ≤ 1000000000000 ∧ Hid (Nat.gcd x y = G) ∧ Below w.heap.size w wr) (fun _ v1 _ => (intOf v1).toNat)
  case atStart => exact ⟨a, b, rfl, rfl, ha, hb, HG, Below.refl _ _⟩
  case round =>
    obtain ⟨x, y, rfl, rfl, hx, hy, HR, hbr⟩ := hrel
    by_cases h0 : y = 0
    · subst h0
      have HN : Hid (x = G) := Lib.hid (by have := HR.out; rwa [Nat.gcd_zero_right] at this)
      go_wp2
      go_ret
      exact ⟨by rw [← HN.out]; rfl, hbr⟩
    · have hyz : ((y : Int) == 0) = false := by rw [beq_eq_false_iff_ne]; omega
      have hxy : x % y < y := Nat.mod_lt _ (by omega)
      have HN : Hid (Nat.gcd y (x % y) = G) := Lib.hid (gcd_step.trans HR.out)
      have ht : (x : Int).tmod (y : Int) = (x : Int) % (y : Int) := Int.tmod_eq_emod_of_nonneg (by omega)
      have hm : (x : Int) % (y : Int) = ((x % y : Nat) : Int) := (Int.natCast_emod x y).symm
      have ew : IntKind.i64.wrap ((x : Int) % (y : Int)) = (x : Int) % (y : Int) := IntWalk.i64_in _ (by omega)
      have HM := Lib.hid hm
      clear hm
      go_wp2_with fail
      go_quiet (fail)
      go_wp2
      go_roundw
      case rel => exact ⟨y, x % y, rfl, by first | rfl | (rw [← HM.out]) | go_num, hy, by omega, HN, below_drewN hbr _⟩
      case measure => simp [intOf]; omega

theorem ratM_nat {l : List (Int × Int)} (h : trainB l = true) : ∃ x y : Nat, topL l = (x : Int) ∧ botL l = (y : Int) ∧ 1 ≤ x ∧ 1 ≤ y ∧ x ≤ 207360000 ∧ y ≤ 207360000 ∧ 1 ≤ Nat.gcd x y ∧ Nat.gcd x y ≤ x ∧ ratM l = ((x : Int) / ((Nat.gcd x y : Nat) : Int), (y : Int) / ((Nat.gcd x y : Nat) : Int)) := by
  have hp := trainB_true.1 h
  have ht := topL_pos hp.2 hp.1
  have hb := botL_pos hp.2 hp.1
  obtain ⟨x, hx⟩ := Int.eq_ofNat_of_zero_le (show 0 ≤ topL l by omega)
  obtain ⟨y, hy⟩ := Int.eq_ofNat_of_zero_le (show 0 ≤ botL l by omega)
  refine ⟨x, y, hx, hy, by omega, by omega, by omega, by omega, Nat.gcd_pos_of_pos_left _ (by omega), Nat.gcd_le_left _ (by omega), ?_⟩
  rw [ratM_yes h, hx, hy]; rfl

end Go.Proofs.Ytcbdoldcdgaooaa
