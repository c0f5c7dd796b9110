/- The contracts of the program's Backward and UpsideDown. No condition. -/
import Derived.Test.YtglehmffmailkaaImplMoves
import Derived.Test.YtglehmffmailkaaImplTune2
import Derived.Test.YtglehmffmailkaaChangeMath2
namespace Go.Proofs.Ytglehmffmailkaa
open Go.ChangeShapes Go.WideShapes Go.ChangeAt Go.RowKit

theorem enters_bk : ∀ args w, (callFunc 65 args).run Try.prog w = .ok (.enter 65 args) w := enters_of Try.func65 (by kernel_rfl) rfl
theorem enters_up : ∀ args w, (callFunc 67 args).run Try.prog w = .ok (.enter 67 args) w := enters_of Try.func67 (by kernel_rfl) rfl
theorem back_chg {w : World} {l : List (Int × Int)} {s : Int} {b : Nat} (hs : w.cell? ⟨b, 0, none⟩ = some (.int .i64 s)) (h : ∀ p ∈ l, IntKind.i64.wrap (s - p.1) = s - p.1) :
    Chg w 65 #[.pointer (some ⟨b, 0, none⟩)] (fun p => (s - p.1, p.2)) l :=
  fun p hp _ hW => backlit_any s p (kept_b hW hs) (h p hp)
theorem up_chg {w : World} {l : List (Int × Int)} {s t : Int} {b c : Nat} (hs : w.cell? ⟨b, 0, none⟩ = some (.int .i64 s)) (ht : w.cell? ⟨c, 0, none⟩ = some (.int .i64 t)) (h0 : IntKind.i64.wrap (s + t) = s + t) (h : ∀ p ∈ l, IntKind.i64.wrap (s + t - p.2) = s + t - p.2) :
    Chg w 67 #[.pointer (some ⟨b, 0, none⟩), .pointer (some ⟨c, 0, none⟩)] (fun p => (p.1, s + t - p.2)) l :=
  fun p hp _ hW => uplit_any s t p (kept_b hW hs) (kept_b hW ht) h0 (h p hp)

set_option maxHeartbeats 1000000 in
set_option maxRecDepth 100000 in
theorem iback_any {w : World} {v : Value} {l : List (Int × Int)} (h : Rd2 w v l) :
    Calls Try.prog 39 #[v] w (NewNotes w (backM l)) := by
  obtain ⟨a1, cap1, rfl⟩ := Rd.slice h
  have hmf : ∀ (fn : Fn) (first cap : Array Value) (w : World), (Instr.makeFunc fn first cap).run Try.prog w = .ok (.func fn first cap) w := fun _ _ _ _ => rfl
  by_cases ht : tuneB l = true
  · have HT := Lib.hid ht
    have h40 := (tuneB_true.1 ht).1
    by_cases h0 : l.length = 0
    · obtain rfl : l = [] := List.length_eq_zero_iff.1 h0
      have h' : Rd2 w (.slice a1 0 cap1) [] := h
      have HM := Lib.hid (show backM [] = [] by rw [backM_yes ht]; rfl)
      clear ht h h0 h40
      go_enter Try.func39, Try.ntmps39
      go_wp2_with fail
      refine (itune_yes h' HT.out).mono ?_
      rintro e w1 ⟨rfl, hb1⟩
      go_wp2
      go_ret
      exact ⟨_, rfl, by rw [HM.out]; exact World.ownsRow_nil _ _ _ _, hb1⟩
    · obtain ⟨a, ha⟩ : ∃ a, l[0]? = some a := ⟨_, List.getElem?_eq_getElem (by omega)⟩
      obtain ⟨b, hb⟩ : ∃ b, l[l.length - 1]? = some b := ⟨_, List.getElem?_eq_getElem (by omega)⟩
      have tp := tuneB_true.1 ht
      have ra := (tp.2 _ _ ha).1
      have rb := (tp.2 _ _ hb).1
      have HE := Lib.hid (endsS_eq ha hb)
      have HM := Lib.hid (show dedM (mergeM (l.map fun p => (a.1 + b.1 - p.1, p.2))) = backM l by
        rw [backM_yes ht, endsS_eq ha hb, sort_eq (by rw [List.length_map]; exact h40)]; rfl)
      have HR : Hid (∀ p ∈ l, IntKind.i64.wrap (a.1 + b.1 - p.1) = a.1 + b.1 - p.1) := Lib.hid fun p hp => IntWalk.i64_in _ (by
        have := ((tune_parts ht).2.2 p hp).1; omega)
      have HA := Lib.hid ha
      have HB := Lib.hid hb
      have hpos : 0 < l.length := by omega
      have h0' : (l.length == 0) = false := by simpa using h0
      have e1 : IntKind.i64.wrap (a.1 + b.1) = a.1 + b.1 := IntWalk.i64_in _ (by omega)
      clear tp ha hb ht ra rb
      go_enter Try.func39, Try.ntmps39
      go_wp2_with fail
      refine (itune_yes h HT.out).mono ?_
      rintro e w1 ⟨rfl, hb1⟩
      obtain ⟨b1, o1, c1, hv1, x0, y0⟩ := Rd2.cells (Rd.below h hb1) HA.out
      obtain ⟨b2, o2, c2, hv2, x2, y2⟩ := Rd2.cells (Rd.below h hb1) HB.out
      simp only [Value.slice.injEq, true_and] at hv1
      obtain ⟨rfl, rfl⟩ := hv1
      simp only [Value.slice.injEq, true_and, Option.some.injEq, Addr.mk.injEq, and_true] at hv2
      obtain ⟨⟨rfl, rfl⟩, rfl⟩ := hv2
      rw [Nat.zero_mul, Nat.add_zero] at x0
      clear y0 y2
      have j1 : (0 : Int) ≤ (l.length : Int) - 1 := by omega
      have j2 : (1 : Int) ≤ (l.length : Int) := by omega
      have j3 : (l.length : Int) - 1 < (l.length : Int) := by omega
      have j4 : 1 ≤ l.length := by omega
      have ej1 : IntKind.i64.wrap ((l.length : Int) - 1) = (l.length : Int) - 1 := IntWalk.i64_in _ (by omega)
      have ej2 : ((l.length : Int) - 1).toNat = l.length - 1 := by omega
      go_wp2_with fail
      go_region_held3 (fun w' => w'.cell? ⟨b1, o1, none⟩ = some (.int .i64 a.1) ∧ w'.cell? ⟨b1, o1 + (l.length - 1) * 2, none⟩ = some (.int .i64 b.1)) (go_keep)
        (fail)
      have hs : ((w1.alloc (.cells #[.int .i64 (a.1 + b.1)] 3)).drew).cell? ⟨w1.heap.size, 0, none⟩ = some (.int .i64 (a.1 + b.1)) := cell_at1 w1 _ _
      have hb2 : Below w.heap.size w ((w1.alloc (.cells #[.int .i64 (a.1 + b.1)] 3)).drew) := (hb1.alloc hb1.size _).drew
      generalize (w1.alloc (.cells #[.int .i64 (a.1 + b.1)] 3)).drew = W2 at *
      clear x0 x2 j1 j2 j3 j4 ej1 ej2 e1 hb1
      go_wp2_with fail
      refine (chg_any (f := fun p => (a.1 + b.1 - p.1, p.2)) (Rd.below h hb2) (by omega) enters_bk (back_chg hs HR.out)).mono ?_
      rintro e w3 ⟨v3, rfl, ho3, hb3⟩
      rw [HM.out] at ho3
      have ho4 := ownS_mono ho3 hb2.size
      have hb4 := bstep hb2 hb3
      clear ho3 hb3
      go_wp2
      go_ret
      exact ⟨v3, rfl, ho4, hb4⟩
  · have ht' : tuneB l = false := by simpa using ht
    have HT := Lib.hid ht'
    have HM := Lib.hid (show backM l = [] by rw [backM_no ht']; rfl)
    clear ht ht'
    go_enter Try.func39, Try.ntmps39
    go_wp2_with fail
    refine (itune_no h HT.out).mono ?_
    rintro e w1 ⟨rfl, hb1⟩
    go_wp2
    go_ret
    exact ⟨_, rfl, by rw [HM.out]; exact World.ownsRow_nil _ _ _ _, hb1⟩

set_option maxHeartbeats 1000000 in
theorem iup_any {w : World} {v : Value} {l : List (Int × Int)} (h : Rd2 w v l) :
    Calls Try.prog 40 #[v] w (NewNotes w (upM l)) := by
  obtain ⟨a1, cap1, rfl⟩ := Rd.slice h
  have hmf : ∀ (fn : Fn) (first cap : Array Value) (w : World), (Instr.makeFunc fn first cap).run Try.prog w = .ok (.func fn first cap) w := fun _ _ _ _ => rfl
  by_cases ht : tuneB l = true
  · have HT := Lib.hid ht
    have h40 := (tuneB_true.1 ht).1
    have HX : Hid (dedM (mergeM (l.map fun p => (p.1, (pitchM l).1 + (pitchM l).2 - p.2))) = upM l ∧ IntKind.i64.wrap ((pitchM l).1 + (pitchM l).2) = (pitchM l).1 + (pitchM l).2 ∧ ∀ p ∈ l, IntKind.i64.wrap ((pitchM l).1 + (pitchM l).2 - p.2) = (pitchM l).1 + (pitchM l).2 - p.2) := Lib.hid (by
      by_cases h0 : l.length = 0
      · obtain rfl : l = [] := List.length_eq_zero_iff.1 h0
        exact ⟨by rw [up_nil, List.map_nil, sort_eq (Nat.zero_le _)]; rfl, by rw [pitchM_nil]; rfl, fun p hp => by simp at hp⟩
      · obtain ⟨r1, r2⟩ := pitch_bd ht (by omega)
        refine ⟨?_, IntWalk.i64_in _ (by omega), fun p hp => IntWalk.i64_in _ (by have := ((tune_parts ht).2.2 p hp).2; omega)⟩
        rw [up_eq ht (by omega), sort_eq (by rw [List.length_map]; exact h40)]; rfl)
    clear ht
    go_enter Try.func40, Try.ntmps40
    go_wp2_with fail
    refine (itune_yes h HT.out).mono ?_
    rintro e w1 ⟨rfl, hb1⟩
    go_wp2_with fail
    refine (ipitch_any (Rd.below h hb1)).mono ?_
    rintro e w2 ⟨rfl, hb2⟩
    have hb3 := bstep hb1 hb2
    clear hb1 hb2
    generalize (pitchM l).1 = lo at *
    generalize (pitchM l).2 = hi at *
    go_wp2_with fail
    refine (chg_any (f := fun p => (p.1, lo + hi - p.2)) (Rd.below h (hb3.trans (mv_below w2 _ _ |>.mono hb3.size))) (by omega) enters_up (up_chg (cell_at1' _ _ _ _) (cell_at2 _ _ _ _) HX.out.2.1 HX.out.2.2)).mono ?_
    rintro e w3 ⟨v3, rfl, ho3, hb4⟩
    rw [HX.out.1] at ho3
    have hb5 : Below w.heap.size w w3 := bstep (hb3.trans (mv_below w2 _ _ |>.mono hb3.size)) hb4
    have ho4 := ownS_mono ho3 (show w.heap.size ≤ ((w2.alloc (.cells #[.int .i64 lo] 3)).alloc (.cells #[.int .i64 hi] 3)).heap.size by have := hb3.size; simp; omega)
    clear ho3 hb4
    go_wp2
    go_ret
    exact ⟨v3, rfl, ho4, hb5⟩
  · have ht' : tuneB l = false := by simpa using ht
    have HT := Lib.hid ht'
    have HM := Lib.hid (show upM l = [] by
      rcases pitch_cases l with h | h
      · exact absurd h.1 ht
      · rw [upM_no (by rw [h]; decide)]; rfl)
    clear ht ht'
    go_enter Try.func40, Try.ntmps40
    go_wp2_with fail
    refine (itune_no h HT.out).mono ?_
    rintro e w1 ⟨rfl, hb1⟩
    go_wp2
    go_ret
    exact ⟨_, rfl, by rw [HM.out]; exact World.ownsRow_nil _ _ _ _, hb1⟩
end Go.Proofs.Ytglehmffmailkaa
