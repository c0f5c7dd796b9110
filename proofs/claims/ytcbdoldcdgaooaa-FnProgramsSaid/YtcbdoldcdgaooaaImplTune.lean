/- The contract of the program's TuneOk. No condition. -/
import Derived.Test.YtcbdoldcdgaooaaCmp
namespace Go.Proofs.Ytcbdoldcdgaooaa
open Go.ChangeShapes Go.WideShapes Go.ChangeAt Go.RowKit

set_option maxHeartbeats 2000000 in
theorem itune_any {w : World} {v : Value} {l : List (Int × Int)} (h : Rd2 w v l) :
    Calls Try.prog 72 #[v] w fun e w' => e = .returned (.bool (tuneB l)) ∧ Below w.heap.size w w' := by
  obtain ⟨a1, cap1, rfl⟩ := Rd.slice h
  have hm := h.2.1
  unfold maxLen at hm
  by_cases h40 : 40 < l.length
  · have ht : tuneB l = false := tuneB_false.2 fun hp => by have := hp.1; omega
    have HT := Lib.hid ht; clear ht
    go_enter Try.func72, Try.ntmps72
    go_wp2
    go_ret
    exact ⟨by rw [HT.out]; rfl, Below.refl _ _⟩
  · have h40' : l.length ≤ 40 := by omega
    have hd40 : decide ((40 : Int) < (l.length : Int)) = false := decide_eq_false (by omega)
    go_enter Try.func72, Try.ntmps72
    go_wp2
    go_loopw [10] (fun v10 wr => ∃ j : Nat, j ≤ l.length ∧ v10 = .int .i64 j ∧ Below w.heap.size w wr ∧ (∀ k p, k < j → l[k]? = some p → NoteOk l k p)) (fun v10 _ => l.length - (intOf v10).toNat)
    case atStart => exact ⟨0, Nat.zero_le _, rfl, Below.refl _ _, fun k p hk => by omega⟩
    case round =>
      obtain ⟨j, hj, rfl, hbr, hall⟩ := hrel
      have HA := Lib.hid hall; clear hall
      by_cases hlt : j < l.length
      · obtain ⟨p, hp⟩ : ∃ p, l[j]? = some p := ⟨_, List.getElem?_eq_getElem hlt⟩
        have HP := Lib.hid hp
        obtain ⟨b1, o1, c1, hv1, x1, y1⟩ := Rd2.cells (Rd.below h hbr) hp
        simp only [Value.slice.injEq, true_and] at hv1
        obtain ⟨rfl, rfl⟩ := hv1
        clear hp
        go_wp2_with fail
        obtain ⟨z1, z2, u1, hbs, hsz⟩ : (∀ n os, (Sort.grow ((wr.alloc (.cells #[.int .i64 p.1, .int .i64 p.2] 41)).drewN n) os).cell? ⟨wr.heap.size, 0, none⟩ = some (.int .i64 p.1)) ∧
          (∀ n os, (Sort.grow ((wr.alloc (.cells #[.int .i64 p.1, .int .i64 p.2] 41)).drewN n) os).cell? ⟨wr.heap.size, 1, none⟩ = some (.int .i64 p.2)) ∧ Below wr.heap.size wr (wr.alloc (.cells #[.int .i64 p.1, .int .i64 p.2] 41)) ∧ Below w.heap.size w (wr.alloc (.cells #[.int .i64 p.1, .int .i64 p.2] 41)) ∧ wr.heap.size < (wr.alloc (.cells #[.int .i64 p.1, .int .i64 p.2] 41)).heap.size :=
          ⟨fun n os => cell_grown (by simp) (cell0 _ _ _ _) n os, fun n os => cell_grown (by simp) (cell0 _ _ _ _) n os, (Below.refl _ _).alloc (Nat.le_refl _) _, hbr.alloc hbr.size _, by simp⟩
        generalize wr.alloc (.cells #[.int .i64 p.1, .int .i64 p.2] 41) = W1 at *
        by_cases r1 : nOkB p = true
        · by_cases hj0 : 0 < j
          · obtain ⟨q, hq⟩ : ∃ q, l[j - 1]? = some q := ⟨_, List.getElem?_eq_getElem (by omega)⟩
            have HQ := Lib.hid hq
            obtain ⟨b2, o2, c2, hv2, x2, y2⟩ := Rd2.cells (Rd.below h hbs) hq
            simp only [Value.slice.injEq, true_and, Option.some.injEq, Addr.mk.injEq, and_true] at hv2
            obtain ⟨⟨rfl, rfl⟩, rfl⟩ := hv2
            clear hq
            have x3 := fun n os => cell_grown (World.block_lt_of_cell? _ _ x2) x2 n os
            have y3 := fun n os => cell_grown (World.block_lt_of_cell? _ _ y2) y2 n os
            have hj1 : (0 : Int) ≤ (j : Int) - 1 := by omega
            have hj2 : (1 : Int) ≤ (j : Int) := by omega
            have hj3 : (j : Int) - 1 < (l.length : Int) := by omega
            have hj4 : 1 ≤ j := by omega
            have ej1 : IntKind.i64.wrap ((j : Int) - 1) = (j : Int) - 1 := IntWalk.i64_in _ (by omega)
            have ej2 : ((j : Int) - 1).toNat = j - 1 := by omega
            clear x1 y1 x2 y2
            by_cases hls : lessB q p = true
            · have hn : ∀ k p, k < j + 1 → l[k]? = some p → NoteOk l k p := fun k r hk hr => by
                by_cases hkj : k < j
                · exact HA.out k r hkj hr
                · obtain rfl : k = j := by omega
                  have := HP.out; rw [this] at hr
                  obtain rfl := Option.some.inj hr
                  exact ⟨(nOkB_true.1 r1).1, (nOkB_true.1 r1).2, fun i t hi ht => by
                    obtain rfl : i = k - 1 := by omega
                    have := HQ.out; rw [this] at ht
                    obtain rfl := Option.some.inj ht
                    exact hls⟩
              have HN := Lib.hid hn; clear hn
              have hcn : decide (0 ≤ cmpN q p) = false := decide_eq_false (by rw [cmpN_ge]; simp [hls])
              have HR1 := Lib.hid r1; clear r1 hls
              refine wp_region_quiet_grown (by kernel_rfl) (by kernel_rfl) ?_
              repeat (go_big_quiet_step ((first | (go_at_call 113; exact grown_gr (noteok_yes HR1.out _)) | (go_at_call 114; exact grown_gr (comp_any q p _)))))
              refine wpQuiet_nil ?_
              intro _ hw'
              obtain ⟨⟨nq, osq⟩, hw''⟩ := hw'
              subst hw''
              have hbe := bstep hbs (Gr.below ⟨nq, osq, rfl⟩ : Below W1.heap.size W1 (Sort.grow (W1.drewN nq) osq))
              generalize Sort.grow (W1.drewN nq) osq = W2 at *
              clear z1 z2 x3 y3 u1 hbs hsz ej1 ej2 hj1 hj2 hj3 hcn hbr
              go_wp2
              go_roundw
              case rel => exact ⟨j + 1, by omega, by go_num, hbe, HN.out⟩
              case measure => simp [intOf]; omega
            · have hbad : ¬ TuneP l := fun ht => hls ((ht.2 _ _ HP.out).2.2 (j - 1) q (by omega) HQ.out)
              have HB := Lib.hid (tuneB_false.2 hbad); clear hbad
              have hcn : decide (0 ≤ cmpN q p) = true := decide_eq_true (by rw [cmpN_ge]; simpa using hls)
              have HR1 := Lib.hid r1; clear r1 hls
              refine wp_region_quiet_grown (by kernel_rfl) (by kernel_rfl) ?_
              repeat (go_big_quiet_step ((first | (go_at_call 113; exact grown_gr (noteok_yes HR1.out _)) | (go_at_call 114; exact grown_gr (comp_any q p _)))))
              refine wpQuiet_nil ?_
              intro _ hw'
              obtain ⟨⟨nq, osq⟩, hw''⟩ := hw'
              subst hw''
              have hbe := bstep hbs (Gr.below ⟨nq, osq, rfl⟩ : Below W1.heap.size W1 (Sort.grow (W1.drewN nq) osq))
              generalize Sort.grow (W1.drewN nq) osq = W2 at *
              clear z1 z2 x3 y3 u1 hbs hsz ej1 ej2 hj1 hj2 hj3 hcn hbr
              go_wp2
              go_ret
              exact ⟨by rw [HB.out]; rfl, hbe⟩
          · have hn : ∀ k p, k < j + 1 → l[k]? = some p → NoteOk l k p := fun k q hk hq => by
              obtain rfl : k = j := by omega
              have := HP.out; rw [this] at hq
              obtain rfl := Option.some.inj hq
              exact ⟨(nOkB_true.1 r1).1, (nOkB_true.1 r1).2, fun i q h => by omega⟩
            have HN := Lib.hid hn; clear hn
            have hj1 : decide (0 < j) = false := decide_eq_false hj0
            have HR1 := Lib.hid r1; clear r1
            refine wp_region_quiet_grown (by kernel_rfl) (by kernel_rfl) ?_
            repeat (go_big_quiet_step ((first | (go_at_call 113; exact grown_gr (noteok_yes HR1.out _)))))
            refine wpQuiet_nil ?_
            intro _ hw'
            obtain ⟨⟨nq, osq⟩, hw''⟩ := hw'
            subst hw''
            have hbe := bstep hbs (Gr.below ⟨nq, osq, rfl⟩ : Below W1.heap.size W1 (Sort.grow (W1.drewN nq) osq))
            generalize Sort.grow (W1.drewN nq) osq = W2 at *
            clear z1 z2 u1 hbs hsz hbr x1 y1
            go_wp2
            go_roundw
            case rel => exact ⟨j + 1, by omega, by go_num, hbe, HN.out⟩
            case measure => simp [intOf]; omega
        · have hbad : ¬ TuneP l := fun ht => r1 (nOkB_true.2 ⟨(ht.2 _ _ HP.out).1, (ht.2 _ _ HP.out).2.1⟩)
          have HB := Lib.hid (tuneB_false.2 hbad); clear hbad
          have HR1 := Lib.hid (show nOkB p = false by simpa using r1); clear r1
          refine wp_region_quiet_grown (by kernel_rfl) (by kernel_rfl) ?_
          repeat (go_big_quiet_step ((first | (go_at_call 113; exact grown_gr (noteok_no HR1.out _)))))
          refine wpQuiet_nil ?_
          intro _ hw'
          obtain ⟨⟨nq, osq⟩, hw''⟩ := hw'
          subst hw''
          have hbe := bstep hbs (Gr.below ⟨nq, osq, rfl⟩ : Below W1.heap.size W1 (Sort.grow (W1.drewN nq) osq))
          generalize Sort.grow (W1.drewN nq) osq = W2 at *
          clear z1 z2 u1 hbs hsz hbr x1 y1
          go_wp2
          go_ret
          exact ⟨by rw [HB.out]; rfl, hbe⟩
      · obtain rfl : j = l.length := by omega
        have hall : ∀ k p, l[k]? = some p → NoteOk l k p := fun k p hk => HA.out k p (List.getElem?_eq_some_iff.1 hk).1 hk
        have HT := Lib.hid (tuneB_true.2 ⟨h40', hall⟩); clear hall
        go_wp2
        go_ret
        exact ⟨by rw [HT.out]; rfl, hbr⟩

theorem itune_yes {w : World} {v : Value} {l : List (Int × Int)} (h : Rd2 w v l) (ht : tuneB l = true) :
    Calls Try.prog 72 #[v] w fun e w' => e = .returned (.bool true) ∧ Below w.heap.size w w' :=
  (itune_any h).mono fun _ _ ⟨he, hb⟩ => ⟨by rw [he, ht], hb⟩
theorem itune_no {w : World} {v : Value} {l : List (Int × Int)} (h : Rd2 w v l) (ht : tuneB l = false) :
    Calls Try.prog 72 #[v] w fun e w' => e = .returned (.bool false) ∧ Below w.heap.size w w' :=
  (itune_any h).mono fun _ _ ⟨he, hb⟩ => ⟨by rw [he, ht], hb⟩
end Go.Proofs.Ytcbdoldcdgaooaa
