/- What the law FnChords asks, by the pure functions. No condition. -/
import Derived.Test.YtceebblokibapaaDoorChordMath
import Derived.Test.YtceebblokibapaaDoorChangeSpec2
import Derived.Test.YtceebblokibapaaDoorTuneDraw
namespace Go.Proofs.YtceebblokibapaaDoor
open Go.ChangeShapes Go.WideShapes Go.ChangeAt Go.RowKit

theorem chord_two {a b : Int} (ha : 0 ≤ a ∧ a ≤ 60) (hb : 0 ≤ b ∧ b ≤ 60) : chordB [a, b] = sweetB a b := by
  have ht : togB [a, b] = true := by
    unfold togB
    simp only [List.length_cons, List.length_nil, List.all_cons, List.all_nil, Bool.and_true]
    rw [inB_true ha, inB_true hb]; rfl
  unfold chordB
  rw [ht]
  simp [swAll, List.range_succ, sweetB_comm b a]
theorem tog_two {a b : Int} (ha : 0 ≤ a ∧ a ≤ 60) (hb : 0 ≤ b ∧ b ≤ 60) : TogP [a, b] := ⟨by simp, fun k x hk => by
  have := List.mem_of_getElem? hk
  simp only [List.mem_cons, List.not_mem_nil, or_false] at this
  omega⟩
theorem sf_mem {a b p : Int} (ha : 0 ≤ a ∧ a ≤ 60) (hb : 0 ≤ b ∧ b ≤ 60) (hp : 0 ≤ p ∧ p ≤ 60) : decide (p ∈ sweetForL [a, b] 0 60) = (sweetB p a && sweetB p b) := by
  rw [sweetForL_yes ⟨tog_two ha hb, by omega, by omega⟩, Bool.eq_iff_iff, decide_eq_true_iff, sfL_mem]
  unfold swAll
  simp only [List.all_cons, List.all_nil, Bool.and_true]
  constructor
  · exact fun h => h.2
  · exact fun h => ⟨by omega, h⟩
theorem chord_tri : ∀ r : Fin 12, rootI [((r.1 : Nat) : Int) + 7, ((r.1 : Nat) : Int) + 16, ((r.1 : Nat) : Int), ((r.1 : Nat) : Int) + 24] = ((r.1 : Nat) : Int) ∧ rootI [((r.1 : Nat) : Int), ((r.1 : Nat) : Int) + 3, ((r.1 : Nat) : Int) + 7] = ((r.1 : Nat) : Int) ∧
    chordB [((r.1 : Nat) : Int) + 7, ((r.1 : Nat) : Int) + 16, ((r.1 : Nat) : Int), ((r.1 : Nat) : Int) + 24] = true ∧ rootI [((r.1 : Nat) : Int), ((r.1 : Nat) : Int) + 1] = -1 := by decide +kernel
theorem chord_root {r : Int} (h : 0 ≤ r ∧ r < 12) : rootI [r + 7, r + 16, r, r + 24] = r ∧ rootI [r, r + 3, r + 7] = r ∧ chordB [r + 7, r + 16, r, r + 24] = true ∧ rootI [r, r + 1] = -1 := by
  obtain ⟨n, rfl⟩ := Int.eq_ofNat_of_zero_le h.1
  exact chord_tri ⟨n, by omega⟩
theorem up_shift (t : List (Int × Int)) : shiftL 1 0 12 t = t.map up12 := by
  unfold shiftL up12
  refine List.map_congr_left fun p _ => ?_
  exact Prod.ext (by simp) rfl
theorem ss_up {l : List (Int × Int)} (h : SS l) : SS (l.map up12) := by
  unfold SS
  refine List.pairwise_map.2 (List.Pairwise.imp (fun {p q} hab => ?_) h)
  unfold lessB at hab ⊢
  have := of_decide_eq_true hab
  refine decide_eq_true ?_
  unfold up12
  simp only
  omega
/-- A drawn tune an octave higher. -/
theorem drawn_up {t : List (Int × Int)} (h : TuneDrawn t) : higherM 12 t = (t.map up12, true) ∧ tuneB (t.map up12) = true ∧ harshI (t.map up12) = harshI t ∧ harshI t = (harshN t t.length : Int) := by
  obtain ⟨hl, ht, hd⟩ := h
  have tp := tuneB_true.1 ht
  have hs : SS t := tune_ss tp
  have h2 : tuneB (t.map up12) = true := tuneB_true.2 (tuneP_of (ss_up hs) (by rw [List.length_map]; omega) fun p hp => by
    obtain ⟨q, hq, rfl⟩ := List.mem_map.1 hp
    have := hd q hq
    unfold up12
    simp only
    omega)
  refine ⟨?_, h2, ?_, ?_⟩
  · have := changeM_yes (ok := inB 12 (-60) 60) (a := 1) (b := 0) (c := 12) (by decide) ht (by rw [up_shift]; exact h2)
    rw [up_shift] at this
    exact this
  · unfold harshI
    rw [h2, ht, List.length_map, harshN_up fun k q hq => by have := hd q (List.mem_of_getElem? hq); omega]
  · unfold harshI; rw [ht]; rfl
end Go.Proofs.YtceebblokibapaaDoor
