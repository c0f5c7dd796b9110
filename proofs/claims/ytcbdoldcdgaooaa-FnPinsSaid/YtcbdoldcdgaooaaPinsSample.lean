/- The sample of the law FnPins: a tune of two notes and its teeth. No program. -/
import Derived.Test.YtcbdoldcdgaooaaCylOfSpec
namespace Go.Proofs.Ytcbdoldcdgaooaa
open Go.ChangeShapes Go.WideShapes Go.ChangeAt Go.RowKit

theorem sample_fold : foldP id (pinsOf [2, 0] [(1, 5), (3, 5)]) = [(2, 1), (0, 3)] := by decide +kernel
theorem sample_fresh : Fresh (pinsOf [2, 0] [(1, 5), (3, 5)]) 2 := by
  intro i x hi hx
  match i, hi with
  | 0, _ => simp
  | 1, _ =>
    obtain rfl : (0, 3) = x := by simpa [pinsOf] using hx
    decide
theorem sample_sp : SP [(2, 1), (0, 3)] := sp_pw.2 (by
  refine List.pairwise_cons.2 ⟨fun a ha => ?_, List.pairwise_singleton _ _⟩
  obtain rfl : a = (0, 3) := by simpa using ha
  decide)
theorem sample_cyl : CylP 8 3 [(2, 1), (0, 3)] := cyl_of (by omega) (by omega) (by decide) sample_sp fun p hp => by
  rcases List.mem_cons.1 hp with rfl | hp
  · simp
  · obtain rfl : p = (0, 3) := by simpa using hp
    simp
theorem sample_tune : tuneB [(1, 5), (3, 5)] = true := by
  refine tuneB_true.2 ⟨by decide, fun k p hk => ?_⟩
  match k, hk with
  | 0, hk =>
    obtain rfl : (1, 5) = p := by simpa using hk
    exact ⟨by simp, by simp, fun i q h => by omega⟩
  | 1, hk =>
    obtain rfl : (3, 5) = p := by simpa using hk
    refine ⟨by simp, by simp, fun i q h hq => ?_⟩
    obtain rfl : i = 0 := by omega
    obtain rfl : (1, 5) = q := by simpa using hq
    decide
theorem sample_of : ofM [(1, 5), (3, 5)] [2, 0] 8 3 = ((8, 3, [(2, 1), (0, 3)]), true) := by
  have h := ofM_yes (t := [(1, 5), (3, 5)]) (c := [2, 0]) (s := 8) (r := 3) sample_tune rfl sample_fresh (by rw [sample_fold]; exact cylB_true.2 sample_cyl)
  rw [sample_fold] at h
  exact h
theorem samp_tune {w : World} {n : Nat} (hn : w.heap.size = n) (o : Obj) : Rd2 ((w.alloc (.cells #[.int .i64 1, .int .i64 5, .int .i64 3, .int .i64 5] 41)).alloc o) (.slice (some ⟨n, 0, none⟩) 2 2) [(1, 5), (3, 5)] := by
  subst hn
  exact Rd.of_own ((World.ownsRow_lit (e := 41) (size := 2) w #[.int .i64 1, .int .i64 5, .int .i64 3, .int .i64 5] 2 (Nat.le_refl _) (by simp [maxLen]) rfl).alloc o)
theorem samp_teeth {w : World} {n : Nat} (hn : w.heap.size = n) (o : Obj) : Rd1 ((w.alloc o).alloc (.cells #[.int .i64 2, .int .i64 0] 3)) (.slice (some ⟨n + 1, 0, none⟩) 2 2) [2, 0] := by
  subst hn
  have h := World.ownsRow_lit (base := 0) (e := 3) (size := 1) (w.alloc o) #[.int .i64 2, .int .i64 0] 2 (Nat.zero_le _) (by simp [maxLen]) rfl
  rw [size_alloc] at h
  exact Rd.of_own h
end Go.Proofs.Ytcbdoldcdgaooaa
