/- The contracts of math/bits.Mul64 and math/bits.Mul at 1 and a small number. No condition. -/
import Derived.Test.YtcbdoldcdgaooaaKit
namespace Go.Proofs.Ytcbdoldcdgaooaa
open Go.ChangeShapes Go.WideShapes Go.ChangeAt Go.RowKit

theorem and_small {m : Nat} (hm : m ≤ 100) : bits .and .u64 (m : Int) 4294967295 = (m : Int) := by
  have h : ∀ k : Fin 101, bits .and .u64 ((k.val : Nat) : Int) 4294967295 = ((k.val : Nat) : Int) := by decide +kernel
  exact h ⟨m, by omega⟩
theorem wrap_small {m : Nat} (hm : m ≤ 100) : IntKind.u64.wrap (m : Int) = (m : Int) := by
  have h : ∀ k : Fin 101, IntKind.u64.wrap ((k.val : Nat) : Int) = ((k.val : Nat) : Int) := by decide +kernel
  exact h ⟨m, by omega⟩
set_option maxHeartbeats 2000000 in
theorem mul64_any {m : Nat} (hm : m ≤ 100) (w : World) : Calls Try.prog 155 #[.int .u64 1, .int .u64 (m : Int)] w fun e w' => e = .returned (.tuple #[.int .u64 0, .int .u64 (m : Int)]) ∧ w = w' := by
  have h1 : bits .and .u64 1 4294967295 = 1 := by decide +kernel
  have h0 : bits .and .u64 0 4294967295 = 0 := by decide +kernel
  have hA := and_small hm
  have hW := wrap_small hm
  have hW0 : IntKind.u64.wrap 0 = 0 := by decide +kernel
  have hD : (m : Int) / 4294967296 = 0 := by omega
  go_enter Try.func155, Try.ntmps155
  go_wp2
  go_ret2
  exact ⟨rfl, rfl⟩
theorem mul_any {m : Nat} (hm : m ≤ 100) (w : World) : Calls Try.prog 143 #[.int .u64 1, .int .u64 (m : Int)] w fun e w' => e = .returned (.tuple #[.int .u64 0, .int .u64 (m : Int)]) ∧ w = w' := by
  go_enter Try.func143, Try.ntmps143
  go_wp2_with fail
  refine (mul64_any hm _).mono ?_
  rintro e w2 ⟨rfl, rfl⟩
  go_wp2
  go_ret2
  exact ⟨rfl, rfl⟩
end Go.Proofs.Ytcbdoldcdgaooaa
