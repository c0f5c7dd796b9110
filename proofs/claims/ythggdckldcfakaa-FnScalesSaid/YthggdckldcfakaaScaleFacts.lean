/- Chapter 17, pure: what FnScales asks. No condition. -/
import Derived.Test.YthggdckldcfakaaScaleMath
import Derived.Test.YthggdckldcfakaaChangeSpec2
import Derived.Test.YthggdckldcfakaaTuneDraw
namespace Go.Proofs.Ythggdckldcfakaa
open Go.ChangeShapes Go.WideShapes Go.ChangeAt Go.RowKit

def up2 (p : Int × Int) : Int × Int := (p.1, p.2 + 2)
theorem up2_shift (t : List (Int × Int)) : shiftL 1 0 2 t = t.map up2 := by
  unfold shiftL up2
  refine List.map_congr_left fun p _ => ?_
  exact Prod.ext (by simp) rfl
theorem ss_up2 {l : List (Int × Int)} (h : SS l) : SS (l.map up2) := by
  unfold SS
  refine List.pairwise_map.2 (List.Pairwise.imp (fun {p q} hab => ?_) h)
  unfold lessB at hab ⊢
  have := of_decide_eq_true hab
  refine decide_eq_true ?_
  unfold up2
  simp only
  omega
/-- A drawn tune two steps higher. -/
theorem drawn_up2 {t : List (Int × Int)} (h : TuneDrawn t) : higherM 2 t = (t.map up2, true) ∧ tuneB (t.map up2) = true ∧ stepsM (t.map up2) = ((rotN (useN t) 2 : Nat) : Int) := by
  obtain ⟨hl, ht, hd⟩ := h
  have tp := tuneB_true.1 ht
  have hs : SS t := tune_ss tp
  have h2 : tuneB (t.map up2) = true := tuneB_true.2 (tuneP_of (ss_up2 hs) (by rw [List.length_map]; omega) fun p hp => by
    obtain ⟨q, hq, rfl⟩ := List.mem_map.1 hp
    have := hd q hq
    unfold up2
    simp only
    omega)
  refine ⟨?_, h2, ?_⟩
  · have := changeM_yes (ok := inB 2 (-60) 60) (a := 1) (b := 0) (c := 2) (by decide) ht (by rw [up2_shift]; exact h2)
    rw [up2_shift] at this
    exact this
  · rw [stepsM_yes h2, use_up (d := 2) (by omega) fun p => by unfold stepN up2; simp only; omega]
theorem use_in {t : List (Int × Int)} {k : Nat} {p : Int × Int} (h : t[k]? = some p) : (useN t).testBit (stepN p) = true := by
  rw [use_bit, List.any_eq_true]
  exact ⟨p, List.mem_of_getElem? h, by simp⟩
theorem maj_rot {r : Nat} (hr : r < 12) : rotI ((majN 0 : Nat) : Int) (r : Int) = ((majN r : Nat) : Int) := by
  rw [rotI_yes (maj_lt 0) hr]
  have e : majN 0 = 2741 := rot_zero (by omega)
  rw [e]; rfl
theorem sym_1365 : symI 1365 = 6 := by
  rw [show (1365 : Int) = ((1365 : Nat) : Int) from rfl, symI_yes (by omega), symN_1365]; rfl
end Go.Proofs.Ythggdckldcfakaa
