/- The contracts of chapter 3's model: Backward, UpsideDown. No condition. -/
import Derived.Test.YtacdogojefgniaaSortSpec
namespace Go.Proofs.Ytacdogojefgniaa
open Go.ChangeShapes Go.WideShapes Go.ChangeAt Go.RowKit

/-- Each time from s. -/
def turnL (s : Int) (l : List (Int × Int)) : List (Int × Int) := l.map fun p => (s - p.1, p.2)
theorem turnL_len (s : Int) (l : List (Int × Int)) : (turnL s l).length = l.length := by unfold turnL; simp
theorem turnL_succ {s : Int} {l : List (Int × Int)} {k : Nat} {p : Int × Int} (h : l[k]? = some p) : turnL s (l.take (k + 1)) = turnL s (l.take k) ++ [(s - p.1, p.2)] := by
  unfold turnL; rw [List.take_add_one, h]; simp
/-- Each pitch from s. -/
def flipL (s : Int) (l : List (Int × Int)) : List (Int × Int) := l.map fun p => (p.1, s - p.2)
theorem flipL_len (s : Int) (l : List (Int × Int)) : (flipL s l).length = l.length := by unfold flipL; simp
theorem flipL_succ {s : Int} {l : List (Int × Int)} {k : Nat} {p : Int × Int} (h : l[k]? = some p) : flipL s (l.take (k + 1)) = flipL s (l.take k) ++ [(p.1, s - p.2)] := by
  unfold flipL; rw [List.take_add_one, h]; simp
/-- The first and the last time together. -/
def endsS (l : List (Int × Int)) : Int := match l.head?, l.getLast? with | some a, some b => a.1 + b.1 | _, _ => 0
theorem endsS_eq {l : List (Int × Int)} {a b : Int × Int} (h1 : l[0]? = some a) (h2 : l[l.length - 1]? = some b) : endsS l = a.1 + b.1 := by
  unfold endsS; rw [List.head?_eq_getElem?, List.getLast?_eq_getElem?, h1, h2]
noncomputable def backM (l : List (Int × Int)) : List (Int × Int) := sortM (if tuneB l = true then turnL (endsS l) l else [])
theorem backM_yes {l : List (Int × Int)} (h : tuneB l = true) : backM l = sortM (turnL (endsS l) l) := by unfold backM; rw [if_pos h]
theorem backM_no {l : List (Int × Int)} (h : tuneB l = false) : backM l = sortM [] := by unfold backM; rw [h]; rfl

set_option maxHeartbeats 4000000 in
theorem back_any {w : World} {v : Value} {l : List (Int × Int)} (h : Rd2 w v l) :
    Calls Try.prog 45 #[v] w (NewNotes w (backM l)) := by
  obtain ⟨a1, cap1, rfl⟩ := Rd.slice h
  have hm := h.2.1
  unfold maxLen at hm
  by_cases ht : tuneB l = true
  · have HT := Lib.hid ht
    have HM := Lib.hid (backM_yes ht)
    have h40 := (tuneB_true.1 ht).1
    clear ht
    go_enter Try.func45, Try.ntmps45
    go_wp2_with fail
    have hown0 : (w.alloc (.cells #[] 42)).ownsRow w.heap.size 42 2 (.slice (some ⟨w.heap.size, 0, none⟩) 0 0) 0 (flat2 []) := World.ownsRow_made w #[] 0 (Nat.le_refl _) (by simp) rfl
    have hb2 : Below w.heap.size w (w.alloc (.cells #[] 42)) := (Below.refl _ _).alloc (Nat.le_refl _) _
    go_loopw [3, 4] (fun v3 v4 wr => ∃ k : Nat, k ≤ l.length ∧ v4 = .int .i64 k ∧ wr.ownsRow w.heap.size 42 2 v3 k (flat2 (turnL (endsS l) (l.take k))) ∧ Below w.heap.size w wr) (fun _ v4 _ => l.length - (intOf v4).toNat)
    case atStart => exact ⟨0, Nat.zero_le _, rfl, hown0, hb2⟩
    case round =>
      obtain ⟨k, hk, rfl, hown, hbr⟩ := hrel
      clear hown0 hb2
      by_cases hlt : k < l.length
      · obtain ⟨p, hp⟩ : ∃ p, l[k]? = some p := ⟨_, List.getElem?_eq_getElem hlt⟩
        obtain ⟨a, ha⟩ : ∃ a, l[0]? = some a := ⟨_, List.getElem?_eq_getElem (by omega)⟩
        obtain ⟨b, hb⟩ : ∃ b, l[l.length - 1]? = some b := ⟨_, List.getElem?_eq_getElem (by omega)⟩
        have HN := Lib.hid (turnL_succ (s := endsS l) hp)
        have HE := Lib.hid (endsS_eq ha hb)
        have tp := tuneB_true.1 HT.out
        have r1 := (tp.2 _ _ hp).1
        have ra := (tp.2 _ _ ha).1
        have rb := (tp.2 _ _ hb).1
        clear tp
        obtain ⟨b1, o1, c1, hv1, x0, y0⟩ := Rd2.cells h ha
        obtain ⟨b2, o2, c2, hv2, x2, y2⟩ := Rd2.cells h hb
        obtain ⟨b3, o3, c3, hv3, x3, y3⟩ := Rd2.cells h hp
        simp only [Value.slice.injEq, true_and] at hv1
        obtain ⟨rfl, rfl⟩ := hv1
        simp only [Value.slice.injEq, true_and, Option.some.injEq, Addr.mk.injEq, and_true] at hv2
        obtain ⟨⟨rfl, rfl⟩, rfl⟩ := hv2
        simp only [Value.slice.injEq, true_and, Option.some.injEq, Addr.mk.injEq, and_true] at hv3
        obtain ⟨⟨rfl, rfl⟩, rfl⟩ := hv3
        rw [Nat.zero_mul, Nat.add_zero] at x0
        clear ha hb hp y0 y2
        go_wp2_with fail
        refine (tuneok_yes (Rd.below h hbr) HT.out).mono ?_
        rintro e w1 ⟨rfl, hb1⟩
        have g1 := bstep hbr hb1
        have hown1 := ownS_below hown hb1
        clear hown hbr hb1
        have z0 := kept_b g1 x0
        have z2 := kept_b g1 x2
        have z3 := kept_b g1 x3
        have z4 := kept_b g1 y3
        have e1 : IntKind.i64.wrap (a.1 + b.1) = a.1 + b.1 := IntWalk.i64_in _ (by omega)
        have e2 : IntKind.i64.wrap (a.1 + b.1 - p.1) = a.1 + b.1 - p.1 := IntWalk.i64_in _ (by omega)
        have hpos : 0 < l.length := by omega
        have j1 : (0 : Int) ≤ (l.length : Int) - 1 := by omega
        have j2 : (1 : Int) ≤ (l.length : Int) := by omega
        have j3 : (l.length : Int) - 1 < (l.length : Int) := by omega
        have j4 : 1 ≤ l.length := by omega
        have ej1 : IntKind.i64.wrap ((l.length : Int) - 1) = (l.length : Int) - 1 := IntWalk.i64_in _ (by omega)
        have ej2 : ((l.length : Int) - 1).toNat = l.length - 1 := by omega
        have hbd : k + 1 ≤ 10000 := by omega
        go_wp2_with fail
        go_region_held3 (fun w' => w'.cell? ⟨b1, o1, none⟩ = some (.int .i64 a.1) ∧ w'.cell? ⟨b1, o1 + (l.length - 1) * 2, none⟩ = some (.int .i64 b.1) ∧ w'.cell? ⟨b1, o1 + k * 2, none⟩ = some (.int .i64 p.1) ∧ w'.cell? ⟨b1, o1 + k * 2 + 1, none⟩ = some (.int .i64 p.2)) (go_keep)
          (first
            | (refine step_append_notes rfl (.tmp 16) (.tmp 41) rfl ((g1.alloc g1.size _).drew) (by rfl) ((hown1.alloc _).drew) [(a.1 + b.1 - p.1, p.2)] (by rfl) (by rfl) (fun j u hj => (one_row0 g1 (a.1 + b.1 - p.1, p.2)).drew.cells (by rfl) j u hj) hbd ?_
               intro v2 w2 hv2 bv2 hg2
               have q1 := kept_b bv2 x0
               have q2 := kept_b bv2 x2
               have q3 := kept_b bv2 x3
               have q4 := kept_b bv2 y3))
        rw [← HE.out, ← HN.out] at hv2
        clear hown1 g1 x0 x2 x3 y3 z0 z2 z3 z4 q1 q2 q3 q4 hg2 e1 e2 r1 ra rb j1 j2 j3 j4 ej1 ej2
        go_wp2
        go_roundw
        case rel => exact ⟨k + 1, by omega, by go_num, hv2, bv2⟩
        case measure => simp [intOf]; omega
      · obtain rfl : k = l.length := by omega
        have hfull : l.take l.length = l := List.take_length
        rw [hfull] at hown
        clear hfull
        have hR2 : Rd2 wr u3 (turnL (endsS l) l) := by
          have hlen := turnL_len (endsS l) l
          rw [← hlen] at hown
          exact Rd.of_own hown
        go_wp2_with fail
        refine (sort_any hR2).mono ?_
        rintro e w7 ⟨v7, rfl, ho8, hb8⟩
        go_wp2
        go_ret
        rw [HM.out]
        exact ⟨v7, rfl, ownS_mono ho8 hbr.size, bstep hbr hb8⟩
  · have ht' : tuneB l = false := by simpa using ht
    have HT := Lib.hid ht'
    have HM := Lib.hid (backM_no ht')
    have hne : 0 < l.length := by
      rcases Nat.eq_zero_or_pos l.length with hz | hz
      · obtain rfl := List.length_eq_zero_iff.1 hz
        have h0 : tuneB [] = true := tuneB_true.2 ⟨by simp, fun k p hk => by simp at hk⟩
        rw [h0] at ht'; cases ht'
      · exact hz
    clear ht ht'
    go_enter Try.func45, Try.ntmps45
    go_wp2_with fail
    have hown0 : (w.alloc (.cells #[] 42)).ownsRow w.heap.size 42 2 (.slice (some ⟨w.heap.size, 0, none⟩) 0 0) 0 (flat2 []) := World.ownsRow_made w #[] 0 (Nat.le_refl _) (by simp) rfl
    have hb2 : Below w.heap.size w (w.alloc (.cells #[] 42)) := (Below.refl _ _).alloc (Nat.le_refl _) _
    go_loopw [3, 4] (fun v3 v4 wr => v4 = .int .i64 0 ∧ wr.ownsRow w.heap.size 42 2 v3 0 (flat2 []) ∧ Below w.heap.size w wr) (fun _ v4 _ => 1)
    case atStart => exact ⟨rfl, hown0, hb2⟩
    case round =>
      obtain ⟨rfl, hown, hbr⟩ := hrel
      clear hown0 hb2
      go_wp2_with fail
      refine (tuneok_no (Rd.below h hbr) HT.out).mono ?_
      rintro e w1 ⟨rfl, hb1⟩
      have g1 := bstep hbr hb1
      have hR2 : Rd2 w1 u3 [] := Rd.of_own (ownS_below hown hb1)
      go_wp2_with fail
      refine (sort_any hR2).mono ?_
      rintro e w7 ⟨v7, rfl, ho8, hb8⟩
      go_wp2
      go_ret
      rw [HM.out]
      exact ⟨v7, rfl, ownS_mono ho8 g1.size, bstep g1 hb8⟩
end Go.Proofs.Ytacdogojefgniaa
