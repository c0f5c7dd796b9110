/- The contract of chapter 3's model: UpsideDown. No condition. -/
import Derived.Test.YtkciolegfonabaaTurnSpec
namespace Go.Proofs.Ytkciolegfonabaa
open Go.ChangeShapes Go.WideShapes Go.ChangeAt Go.RowKit

theorem minP_bd (l : List (Int × Int)) (x : Int) (hx : 0 ≤ x ∧ x ≤ 60) (h : ∀ p ∈ l, 0 ≤ p.2 ∧ p.2 ≤ 60) : 0 ≤ minP x l ∧ minP x l ≤ 60 := by
  unfold minP
  induction l generalizing x with
  | nil => exact hx
  | cons q r ih =>
    refine ih _ ?_ (fun p hp => h p (List.mem_cons_of_mem _ hp))
    have := h q (List.mem_cons_self ..)
    dsimp only; split <;> omega
theorem maxP_bd (l : List (Int × Int)) (x : Int) (hx : 0 ≤ x ∧ x ≤ 60) (h : ∀ p ∈ l, 0 ≤ p.2 ∧ p.2 ≤ 60) : 0 ≤ maxP x l ∧ maxP x l ≤ 60 := by
  unfold maxP
  induction l generalizing x with
  | nil => exact hx
  | cons q r ih =>
    refine ih _ ?_ (fun p hp => h p (List.mem_cons_of_mem _ hp))
    have := h q (List.mem_cons_self ..)
    dsimp only; split <;> omega
theorem pitch_bd {l : List (Int × Int)} (h : tuneB l = true) (h0 : 0 < l.length) : (0 ≤ (pitchM l).1 ∧ (pitchM l).1 ≤ 60) ∧ (0 ≤ (pitchM l).2 ∧ (pitchM l).2 ≤ 60) := by
  obtain ⟨a, ha⟩ : ∃ a, l[0]? = some a := ⟨_, List.getElem?_eq_getElem h0⟩
  rw [pitchM_yes h ha]
  have tp := tuneB_true.1 h
  have hall : ∀ p ∈ l, 0 ≤ p.2 ∧ p.2 ≤ 60 := fun p hp => by
    obtain ⟨i, hi⟩ := List.mem_iff_getElem?.1 hp
    exact (tp.2 _ _ hi).2.1
  have h1 := (tp.2 _ _ ha).2.1
  exact ⟨minP_bd l _ h1 hall, maxP_bd l _ h1 hall⟩
noncomputable def upM (l : List (Int × Int)) : List (Int × Int) := sortM (if 0 ≤ (pitchM l).1 then flipL ((pitchM l).1 + (pitchM l).2) l else [])
theorem upM_yes {l : List (Int × Int)} (h : 0 ≤ (pitchM l).1) : upM l = sortM (flipL ((pitchM l).1 + (pitchM l).2) l) := by unfold upM; rw [if_pos h]
theorem upM_no {l : List (Int × Int)} (h : ¬ 0 ≤ (pitchM l).1) : upM l = sortM [] := by unfold upM; rw [if_neg h]
theorem pitch_cases (l : List (Int × Int)) : (tuneB l = true ∧ 0 < l.length) ∨ (pitchM l = (-1, -1)) := by
  by_cases ht : tuneB l = true
  · rcases Nat.eq_zero_or_pos l.length with hz | hz
    · obtain rfl := List.length_eq_zero_iff.1 hz
      exact Or.inr pitchM_nil
    · exact Or.inl ⟨ht, hz⟩
  · exact Or.inr (pitchM_no (by simpa using ht))

set_option maxHeartbeats 4000000 in
theorem up_any {w : World} {v : Value} {l : List (Int × Int)} (h : Rd2 w v l) :
    Calls Try.prog 25 #[v] w (NewNotes w (upM l)) := by
  obtain ⟨a1, cap1, rfl⟩ := Rd.slice h
  have hm := h.2.1
  unfold maxLen at hm
  have hown0 : (w.alloc (.cells #[] 35)).ownsRow w.heap.size 35 2 (.slice (some ⟨w.heap.size, 0, none⟩) 0 0) 0 (flat2 []) := World.ownsRow_made w #[] 0 (Nat.le_refl _) (by simp) rfl
  have hb2 : Below w.heap.size w (w.alloc (.cells #[] 35)) := (Below.refl _ _).alloc (Nat.le_refl _) _
  rcases pitch_cases l with ⟨ht, h0⟩ | hpm
  · have HT := Lib.hid ht
    have pb := pitch_bd ht h0
    have HM := Lib.hid (upM_yes pb.1.1)
    have h40 := (tuneB_true.1 ht).1
    clear ht
    have HP := Lib.hid (pitch_any (Rd.below h hb2))
    generalize hlo : (pitchM l).1 = lo at *
    generalize hhi : (pitchM l).2 = hi at *
    clear hlo hhi
    obtain ⟨⟨p0, p1⟩, p2, p3⟩ := pb
    go_enter Try.func25, Try.ntmps25
    go_wp2_with fail
    refine HP.out.mono ?_
    rintro e w1 ⟨rfl, hb1⟩
    have g0 := bstep hb2 hb1
    have hown1 := ownS_below hown0 hb1
    clear hown0 hb1 hb2 HP
    go_wp2_with fail
    go_loopw [3, 6] (fun v3 v6 wr => ∃ k : Nat, k ≤ l.length ∧ v6 = .int .i64 k ∧ wr.ownsRow w.heap.size 35 2 v3 k (flat2 (flipL (lo + hi) (l.take k))) ∧ Below w.heap.size w wr) (fun _ v6 _ => l.length - (intOf v6).toNat)
    case atStart => exact ⟨0, Nat.zero_le _, rfl, hown1, g0⟩
    case round =>
      obtain ⟨k, hk, rfl, hown, hbr⟩ := hrel
      clear hown1 g0
      by_cases hlt : k < l.length
      · obtain ⟨p, hp⟩ : ∃ p, l[k]? = some p := ⟨_, List.getElem?_eq_getElem hlt⟩
        have HN := Lib.hid (flipL_succ (s := lo + hi) hp)
        have tp := tuneB_true.1 HT.out
        have r1 := (tp.2 _ _ hp).2.1
        clear tp
        obtain ⟨b1, o1, c1, hv1, x0, y0⟩ := Rd2.cells h hp
        simp only [Value.slice.injEq, true_and] at hv1
        obtain ⟨rfl, rfl⟩ := hv1
        clear hp
        have z0 := kept_b hbr x0
        have z1 := kept_b hbr y0
        have e1 : IntKind.i64.wrap (lo + hi) = lo + hi := IntWalk.i64_in _ (by omega)
        have e2 : IntKind.i64.wrap (lo + hi - p.2) = lo + hi - p.2 := IntWalk.i64_in _ (by omega)
        have hbd : k + 1 ≤ 10000 := by omega
        go_wp2_with fail
        go_region_held3 (fun w' => w'.cell? ⟨b1, o1 + k * 2, none⟩ = some (.int .i64 p.1) ∧ w'.cell? ⟨b1, o1 + k * 2 + 1, none⟩ = some (.int .i64 p.2)) (go_keep)
          (first
            | (refine step_append_notes rfl _ _ rfl ((hbr.alloc hbr.size _).drew) (by rfl) ((hown.alloc _).drew) [(p.1, lo + hi - p.2)] (by rfl) (by rfl) (fun j u hj => (one_row0 hbr (p.1, lo + hi - p.2)).drew.cells (by rfl) j u hj) hbd ?_
               intro v2 w2 hv2 bv2 hg2
               have q1 := kept_b bv2 x0
               have q2 := kept_b bv2 y0))
        rw [← HN.out] at hv2
        clear hown hbr x0 y0 z0 z1 q1 q2 hg2 e1 e2 r1
        go_wp2
        go_roundw
        case rel => exact ⟨k + 1, by omega, by go_num, hv2, bv2⟩
        case measure => simp [intOf]; omega
      · obtain rfl : k = l.length := by omega
        have hfull : l.take l.length = l := List.take_length
        rw [hfull] at hown
        clear hfull
        have hR2 : Rd2 wr u3 (flipL (lo + hi) l) := by
          have hlen := flipL_len (lo + hi) l
          rw [← hlen] at hown
          exact Rd.of_own hown
        go_wp2_with fail
        refine (sort_any hR2).mono ?_
        rintro e w7 ⟨v7, rfl, ho8, hb8⟩
        go_wp2
        go_ret
        rw [HM.out]
        exact ⟨v7, rfl, ownS_mono ho8 hbr.size, bstep hbr hb8⟩
  · have HP := Lib.hid (pitch_any (Rd.below h hb2))
    have HM := Lib.hid (upM_no (l := l) (by rw [hpm]; decide))
    rw [hpm] at HP
    clear hpm
    go_enter Try.func25, Try.ntmps25
    go_wp2_with fail
    refine HP.out.mono ?_
    rintro e w1 ⟨rfl, hb1⟩
    have g0 := bstep hb2 hb1
    have hown1 := ownS_below hown0 hb1
    clear hown0 hb1 hb2 HP
    go_wp2_with fail
    go_loopw [3, 6] (fun v3 v6 wr => v6 = .int .i64 0 ∧ wr.ownsRow w.heap.size 35 2 v3 0 (flat2 []) ∧ Below w.heap.size w wr) (fun _ v6 _ => 1)
    case atStart => exact ⟨rfl, hown1, g0⟩
    case round =>
      obtain ⟨rfl, hown, hbr⟩ := hrel
      clear hown1 g0
      have hR2 : Rd2 wr u3 [] := Rd.of_own hown
      by_cases hlt : 0 < l.length
      all_goals
        go_wp2_with fail
        refine (sort_any hR2).mono ?_
        rintro e w7 ⟨v7, rfl, ho8, hb8⟩
        go_wp2
        go_ret
        rw [HM.out]
        exact ⟨v7, rfl, ownS_mono ho8 hbr.size, bstep hbr hb8⟩
end Go.Proofs.Ytkciolegfonabaa
