/- The contracts of chapter 16's model: IsChord, HarshPairs, SweetFor. No condition. Made by gen_chord.py. -/
import Derived.Test.YtceebblokibapaaDoorStepSpec
import Derived.Test.YtceebblokibapaaDoorCmp
import Derived.Test.YtceebblokibapaaDoorRdCap
namespace Go.Proofs.YtceebblokibapaaDoor
open Go.ChangeShapes Go.WideShapes Go.ChangeAt Go.RowKit

theorem gr_same {w w' : World} (h : w = w') : Gr w w' := ⟨0, #[], by subst h; exact (by cases w; simp [Sort.grow, World.drewN])⟩
theorem sweetG_yes {a b : Int} (h : sweetB a b = true) (w : World) :
    Calls Tryd.prog 20 #[.int .i64 a, .int .i64 b] w fun e w' => e = .returned (.bool true) ∧ Gr w w' :=
  (sweetG_any a b).mono fun _ _ ⟨he, hw⟩ => ⟨by rw [he, h], gr_same hw⟩
theorem sweetG_no {a b : Int} (h : sweetB a b = false) (w : World) :
    Calls Tryd.prog 20 #[.int .i64 a, .int .i64 b] w fun e w' => e = .returned (.bool false) ∧ Gr w w' :=
  (sweetG_any a b).mono fun _ _ ⟨he, hw⟩ => ⟨by rw [he, h], gr_same hw⟩

set_option maxHeartbeats 2000000 in
theorem chordG_any {w : World} {v : Value} {l : List Int} (h : Rd1 w v l) :
    Calls Tryd.prog 21 #[v] w fun e w' => e = .returned (.bool (chordB l)) ∧ Below w.heap.size w w' := by
  obtain ⟨a1, cap1, rfl⟩ := Rd.slice h
  have hm := h.2.1
  unfold maxLen at hm
  by_cases ht : (decide (1 ≤ l.length) && togB l) = true
  · have HT := Lib.hid ht
    have h8 : l.length ≤ 8 ∧ 1 ≤ l.length := by
      rw [Bool.and_eq_true, decide_eq_true_iff, togB_true] at ht
      exact ⟨ht.2.1, ht.1⟩
    clear ht
    go_enter Tryd.func21, Tryd.ntmps21
    go_wp2_with fail
    refine (okG_any 1 (by omega) h).mono ?_
    rintro e w1 ⟨rfl, rfl⟩
    rw [HT.out]
    go_wp2_with fail
    go_loopw [3] (fun v3 wr => ∃ i : Nat, i ≤ l.length ∧ v3 = .int .i64 i ∧ Hid (∀ (p : Nat) (a : Int), p < i → l[p]? = some a → ∀ (k : Nat) (b : Int), k < p → l[k]? = some b → sweetB a b = true) ∧ Below w.heap.size w wr) (fun v3 _ => l.length - (intOf v3).toNat)
    case atStart => exact ⟨0, Nat.zero_le _, rfl, Lib.hid (fun p a hp => by omega), Below.refl _ _⟩
    case round =>
      obtain ⟨i, hi, rfl, HI, hbr⟩ := hrel
      by_cases hlt : i < l.length
      · obtain ⟨a, ha⟩ : ∃ a, l[i]? = some a := ⟨_, List.getElem?_eq_getElem hlt⟩
        have HA := Lib.hid ha
        clear ha
        go_wp2_with fail
        go_loopw [4] (fun v4 wx => ∃ j : Nat, j ≤ i ∧ v4 = .int .i64 j ∧ Hid (∀ (k : Nat) (b : Int), k < j → l[k]? = some b → sweetB a b = true) ∧ Below w.heap.size w wx) (fun v4 _ => i - (intOf v4).toNat)
        case atStart => exact ⟨0, Nat.zero_le _, rfl, Lib.hid (fun k b hk => by omega), hbr⟩
        case round =>
          obtain ⟨j, hj, rfl, HJ, hbx⟩ := hrel
          by_cases hlj : j < i
          · obtain ⟨b, hb⟩ : ∃ b, l[j]? = some b := ⟨_, List.getElem?_eq_getElem (by omega)⟩
            have HB := Lib.hid hb
            have hjl : j < l.length := by omega
            obtain ⟨b1, o1, c1, hv1, x1⟩ := Rd1.cell (Rd.below h hbx) HA.out
            simp only [Value.slice.injEq, true_and] at hv1
            obtain ⟨rfl, rfl⟩ := hv1
            obtain ⟨b2, o2, c2, hv2, x2⟩ := Rd1.cell (Rd.below h hbx) hb
            simp only [Value.slice.injEq, true_and, Option.some.injEq, Addr.mk.injEq, and_true] at hv2
            obtain ⟨⟨rfl, rfl⟩, rfl⟩ := hv2
            have x3 := fun n os => cell_grown (World.block_lt_of_cell? _ _ x1) x1 n os
            have x4 := fun n os => cell_grown (World.block_lt_of_cell? _ _ x2) x2 n os
            clear x1 x2 hb
            by_cases hs : sweetB a b = true
            · have HK : Hid (∀ (k : Nat) (b : Int), k < j + 1 → l[k]? = some b → sweetB a b = true) := Lib.hid (fun k c hk hc => by
                by_cases hkj : k < j
                · exact HJ.out k c hkj hc
                · obtain rfl : k = j := by omega
                  have := HB.out; rw [this] at hc
                  obtain rfl := Option.some.inj hc
                  exact hs)
              have HS := Lib.hid hs
              clear hs hbr HI
              go_wp2_with fail
              refine wp_region_quiet_grown (by kernel_rfl) (by kernel_rfl) ?_
              repeat (go_big_quiet_step ((first | (go_at_call 20; exact grown_gr (sweetG_yes HS.out _)))))
              refine wpQuiet_nil ?_
              intro _ hw'
              obtain ⟨⟨nq, osq⟩, hw''⟩ := hw'
              subst hw''
              have hbe := bstep hbx (Gr.below ⟨nq, osq, rfl⟩ : Below wr.heap.size wr (Sort.grow (wr.drewN nq) osq))
              generalize Sort.grow (wr.drewN nq) osq = W2 at *
              clear x3 x4 hbx
              go_wp2
              go_roundw
              case rel => exact ⟨j + 1, by omega, by go_num, HK, hbe⟩
              case measure => simp [intOf]; omega
            · have HC : Hid (chordB l = false) := Lib.hid (chordB_false.2 fun k => hs (k.2.2 i a HA.out j b hlj HB.out))
              have HS : Hid (sweetB a b = false) := Lib.hid (by simpa using hs)
              clear hs hbr HI
              go_wp2_with fail
              refine wp_region_quiet_grown (by kernel_rfl) (by kernel_rfl) ?_
              repeat (go_big_quiet_step ((first | (go_at_call 20; exact grown_gr (sweetG_no HS.out _)))))
              refine wpQuiet_nil ?_
              intro _ hw'
              obtain ⟨⟨nq, osq⟩, hw''⟩ := hw'
              subst hw''
              have hbe := bstep hbx (Gr.below ⟨nq, osq, rfl⟩ : Below wr.heap.size wr (Sort.grow (wr.drewN nq) osq))
              generalize Sort.grow (wr.drewN nq) osq = W2 at *
              clear x3 x4 hbx
              go_wp2
              go_ret
              exact ⟨by rw [HC.out]; rfl, hbe⟩
          · obtain rfl : j = i := by omega
            have HK : Hid (∀ (p : Nat) (a : Int), p < j + 1 → l[p]? = some a → ∀ (k : Nat) (b : Int), k < p → l[k]? = some b → sweetB a b = true) := Lib.hid (fun p c hp hc k b hk hb => by
              by_cases hpj : p < j
              · exact HI.out p c hpj hc k b hk hb
              · obtain rfl : p = j := by omega
                have := HA.out; rw [this] at hc
                obtain rfl := Option.some.inj hc
                exact HJ.out k b hk hb)
            go_wp2
            go_roundw
            case rel => exact ⟨j + 1, by omega, by go_num, HK, hbx⟩
            case measure => simp [intOf]; omega
      · obtain rfl : i = l.length := by omega
        have HC : Hid (chordB l = true) := Lib.hid (chordB_true.2 ⟨fun k => by rw [k] at h8; simp at h8, by have := HT.out; rw [Bool.and_eq_true, togB_true] at this; exact this.2, fun p a hp => HI.out p a (List.getElem?_eq_some_iff.1 hp).1 hp⟩)
        go_wp2
        go_ret
        exact ⟨by rw [HC.out]; rfl, hbr⟩
  · have HT : Hid ((decide (1 ≤ l.length) && togB l) = false) := Lib.hid (by simpa using ht)
    have HC : Hid (chordB l = false) := Lib.hid (by unfold chordB; rw [HT.out]; rfl)
    clear ht
    go_enter Tryd.func21, Tryd.ntmps21
    go_wp2_with fail
    refine (okG_any 1 (by omega) h).mono ?_
    rintro e w1 ⟨rfl, rfl⟩
    rw [HT.out]
    go_wp2
    go_ret
    exact ⟨by rw [HC.out]; rfl, Below.refl _ _⟩

set_option maxHeartbeats 2000000 in
theorem harshG_any {w : World} {v : Value} {l : List (Int × Int)} (h : Rd2 w v l) :
    Calls Tryd.prog 25 #[v] w fun e w' => e = .returned (.int .i64 (harshI l)) ∧ Below w.heap.size w w' := by
  obtain ⟨a1, cap1, rfl⟩ := Rd.slice h
  have hm := h.2.1
  unfold maxLen at hm
  by_cases ht : tuneB l = true
  · have HT := Lib.hid ht
    have h40 : l.length ≤ 40 := (tuneB_true.1 ht).1
    have HR : Hid (harshI l = (harshN l l.length : Int)) := Lib.hid (by unfold harshI; rw [if_pos HT.out])
    clear ht
    go_enter Tryd.func25, Tryd.ntmps25
    go_wp2_with fail
    refine (tuneok_yes h HT.out).mono ?_
    rintro e w1 ⟨rfl, hb1⟩
    go_wp2_with fail
    go_loopw [3, 4] (fun v3 v4 wr => ∃ i : Nat, i ≤ l.length ∧ v4 = .int .i64 i ∧ v3 = .int .i64 (harshN l i : Int) ∧ Below w.heap.size w wr) (fun _ v4 _ => l.length - (intOf v4).toNat)
    case atStart => exact ⟨0, Nat.zero_le _, rfl, rfl, hb1⟩
    case round =>
      obtain ⟨i, hi, rfl, rfl, hbr⟩ := hrel
      clear hb1
      by_cases hlt : i < l.length
      · obtain ⟨a, ha⟩ : ∃ a, l[i]? = some a := ⟨_, List.getElem?_eq_getElem hlt⟩
        have HA := Lib.hid ha
        have HN := Lib.hid (harshN_step ha)
        have hle := harshN_le l i (by omega)
        clear ha
        generalize hg : harshN l i = n0 at *
        clear hg
        go_wp2_with fail
        go_loopw [3, 5] (fun v3 v5 wx => ∃ j : Nat, j ≤ i ∧ v5 = .int .i64 j ∧ v3 = .int .i64 ((n0 + harshRow l a j : Nat) : Int) ∧ Below w.heap.size w wx) (fun _ v5 _ => i - (intOf v5).toNat)
        case atStart => exact ⟨0, Nat.zero_le _, rfl, rfl, hbr⟩
        case round =>
          obtain ⟨j, hj, rfl, rfl, hbx⟩ := hrel
          clear hbr
          by_cases hlj : j < i
          · obtain ⟨b, hb⟩ : ∃ b, l[j]? = some b := ⟨_, List.getElem?_eq_getElem (by omega)⟩
            have HB := Lib.hid hb
            have hjl : j < l.length := by omega
            have hle2 := harshRow_le l a j
            obtain ⟨b1, o1, c1, hv1, x1, y1⟩ := Rd2.cells (Rd.below h hbx) HA.out
            simp only [Value.slice.injEq, true_and] at hv1
            obtain ⟨rfl, rfl⟩ := hv1
            obtain ⟨b2, o2, c2, hv2, x2, y2⟩ := Rd2.cells (Rd.below h hbx) hb
            simp only [Value.slice.injEq, true_and, Option.some.injEq, Addr.mk.injEq, and_true] at hv2
            obtain ⟨⟨rfl, rfl⟩, rfl⟩ := hv2
            have x3 := fun n os => cell_grown (World.block_lt_of_cell? _ _ x1) x1 n os
            have x4 := fun n os => cell_grown (World.block_lt_of_cell? _ _ x2) x2 n os
            have y3 := fun n os => cell_grown (World.block_lt_of_cell? _ _ y1) y1 n os
            have y4 := fun n os => cell_grown (World.block_lt_of_cell? _ _ y2) y2 n os
            clear x1 x2 y1 y2 hb
            have hw1 : IntKind.i64.wrap (((n0 + harshRow l a j : Nat) : Int) + 1) = ((n0 + harshRow l a j : Nat) : Int) + 1 := IntWalk.i64_in _ (by omega)
            have HY := Lib.hid (harshRow_yes (a := a) HB.out)
            have HX := Lib.hid (harshRow_no (a := a) HB.out)
            generalize hgr : harshRow l a j = m at *
            clear hgr
            obtain ⟨a0, ap⟩ := a
            obtain ⟨b0, bp⟩ := b
            simp only at x3 x4 y3 y4
            by_cases he : a0 = b0
            · subst he
              by_cases hs : sweetB ap bp = true
              · have HS := Lib.hid hs
                have HZ := Lib.hid (HX.out fun k => by rw [hs] at k; exact absurd k.2 (by decide))
                clear hs HY HX hw1
                go_wp2_with fail
                refine wp_region_quiet_grown (by kernel_rfl) (by kernel_rfl) ?_
                repeat (go_big_quiet_step ((first | (go_at_call 20; exact grown_gr (sweetG_yes HS.out _)))))
                refine wpQuiet_nil ?_
                intro _ hw'
                obtain ⟨⟨nq, osq⟩, hw''⟩ := hw'
                subst hw''
                have hbe := bstep hbx (Gr.below ⟨nq, osq, rfl⟩ : Below wr.heap.size wr (Sort.grow (wr.drewN nq) osq))
                generalize Sort.grow (wr.drewN nq) osq = W2 at *
                clear x3 x4 y3 y4 hbx
                go_wp2
                go_roundw
                case rel => exact ⟨j + 1, by omega, by go_num, by rw [HZ.out], hbe⟩
                case measure => simp [intOf]; omega
              · have HS : Hid (sweetB ap bp = false) := Lib.hid (by simpa using hs)
                have HZ := Lib.hid (HY.out rfl HS.out)
                clear hs HY HX
                go_wp2_with fail
                refine wp_region_quiet_grown (by kernel_rfl) (by kernel_rfl) ?_
                repeat (go_big_quiet_step ((first | (go_at_call 20; exact grown_gr (sweetG_no HS.out _)))))
                refine wpQuiet_nil ?_
                intro _ hw'
                obtain ⟨⟨nq, osq⟩, hw''⟩ := hw'
                subst hw''
                have hbe := bstep hbx (Gr.below ⟨nq, osq, rfl⟩ : Below wr.heap.size wr (Sort.grow (wr.drewN nq) osq))
                generalize Sort.grow (wr.drewN nq) osq = W2 at *
                clear x3 x4 y3 y4 hbx
                go_wp2
                go_roundw
                case rel => exact ⟨j + 1, by omega, by go_num, by rw [HZ.out]; go_num, hbe⟩
                case measure => simp [intOf]; omega
            · have he' : (a0 == b0) = false := by rw [beq_eq_false_iff_ne]; exact he
              have HZ := Lib.hid (HX.out fun k => he k.1)
              clear HY HX hw1 he
              go_wp2_with fail
              refine wp_region_quiet_grown (by kernel_rfl) (by kernel_rfl) ?_
              repeat (go_big_quiet_step ((first | (go_at_call 20; exact grown_gr (sweetG_no (a := ap) (b := bp) (by assumption) _)))))
              refine wpQuiet_nil ?_
              intro _ hw'
              obtain ⟨⟨nq, osq⟩, hw''⟩ := hw'
              subst hw''
              have hbe := bstep hbx (Gr.below ⟨nq, osq, rfl⟩ : Below wr.heap.size wr (Sort.grow (wr.drewN nq) osq))
              generalize Sort.grow (wr.drewN nq) osq = W2 at *
              clear x3 x4 y3 y4 hbx
              go_wp2
              go_roundw
              case rel => exact ⟨j + 1, by omega, by go_num, by rw [HZ.out], hbe⟩
              case measure => simp [intOf]; omega
          · obtain rfl : j = i := by omega
            go_wp2
            go_roundw
            case rel => exact ⟨j + 1, by omega, by go_num, by rw [HN.out], hbx⟩
            case measure => simp [intOf]; omega
      · obtain rfl : i = l.length := by omega
        go_wp2
        go_ret
        exact ⟨by rw [HR.out]; rfl, hbr⟩
  · have HT : Hid (tuneB l = false) := Lib.hid (by simpa using ht)
    have HR : Hid (harshI l = -1) := Lib.hid (by unfold harshI; rw [HT.out]; rfl)
    clear ht
    go_enter Tryd.func25, Tryd.ntmps25
    go_wp2_with fail
    refine (tuneok_no h HT.out).mono ?_
    rintro e w1 ⟨rfl, hb1⟩
    go_wp2
    go_ret
    exact ⟨by rw [HR.out]; rfl, hb1⟩

theorem swAll_step {p : Int} {l : List Int} {j : Nat} {a : Int} (h : l[j]? = some a) : swAll p (l.take (j + 1)) = (swAll p (l.take j) && sweetB p a) := by
  unfold swAll
  rw [List.take_add_one, h]
  simp
theorem sweetG_is {a b : Int} {c : Bool} (h : sweetB a b = c) (w : World) :
    Calls Tryd.prog 20 #[.int .i64 a, .int .i64 b] w fun e w' => e = .returned (.bool c) ∧ w = w' :=
  (sweetG_any a b).mono fun _ _ ⟨he, hw⟩ => ⟨by rw [he, h], hw⟩

set_option maxHeartbeats 2000000 in
theorem sfG_any {w : World} {v : Value} {l : List Int} (lo hi : Int) (h : Rd1 w v l) :
    Calls Tryd.prog 28 #[v, .int .i64 lo, .int .i64 hi] w (NewInts w (sweetForL l lo hi)) := by
  obtain ⟨a1, cap1, rfl⟩ := Rd.slice h
  have hm := h.2.1
  unfold maxLen at hm
  obtain ⟨i0, hi0, hz0, hz1, hz2⟩ := info_parts infoInt
  have hb0 : Below w.heap.size w (w.alloc (.cells #[] 3)) := (Below.refl _ _).alloc (Nat.le_refl _) _
  have ho0 : (w.alloc (.cells #[] 3)).ownsRow w.heap.size 3 1 (.slice (some ⟨w.heap.size, 0, none⟩) 0 0) 0 [] := World.ownsRow_made w #[] 0 (Nat.le_refl _) (by simp) rfl
  have HG := Lib.hid (okG_any 0 (by omega) (Rd.below h hb0))
  have he0 : (decide (0 ≤ l.length) && togB l) = togB l := by simp
  rw [he0] at HG
  clear he0
  by_cases ht : togB l = true
  · have HT := Lib.hid ht
    by_cases hlo : 0 ≤ lo ∧ lo ≤ 60
    · have HLO := Lib.hid hlo
      by_cases hhi : 0 ≤ hi ∧ hi ≤ 60
      · have HR := Lib.hid (sweetForL_yes ⟨togB_true.1 ht, hlo, hhi⟩)
        have HHI := Lib.hid hhi
        have h8 : l.length ≤ 8 := (togB_true.1 ht).1
        clear ht
        rw [HT.out] at HG
        go_enter Tryd.func28, Tryd.ntmps28
        go_wp2_with fail
        generalize w.alloc (.cells #[] 3) = W at *
        generalize hbs : w.heap.size = bs at *
        refine HG.out.mono ?_
        rintro e w1 ⟨rfl, rfl⟩
        clear HG
        go_wp2_with fail
        refine (in_yes _ _ _ HLO.out _).mono ?_
        rintro e w1 ⟨rfl, rfl⟩
        go_wp2_with fail
        refine (in_yes _ _ _ HHI.out _).mono ?_
        rintro e w1 ⟨rfl, rfl⟩
        go_wp2_with fail
        go_loopw [7, 8] (fun v7 v8 wr => ∃ n : Nat, n ≤ (hi - lo + 1).toNat ∧ v8 = .int .i64 (lo + (n : Int)) ∧ wr.ownsRow bs 3 1 v7 (sfL l lo n).length ((sfL l lo n).map intV) ∧ Below bs w wr) (fun _ v8 _ => (hi + 1 - intOf v8).toNat)
        case atStart => exact ⟨0, Nat.zero_le _, by simp, ho0, hb0⟩
        case round =>
          obtain ⟨n, hn, rfl, hown, hbr⟩ := hrel
          clear ho0 hb0
          by_cases hlt : lo + (n : Int) ≤ hi
          · have hw1 : IntKind.i64.wrap (lo + (n : Int) + 1) = lo + (n : Int) + 1 := IntWalk.i64_in _ (by omega)
            have hlen := sfL_len l lo n
            have HY := Lib.hid (sfL_yes (l := l) (lo := lo) (n := n))
            have HN := Lib.hid (sfL_no (l := l) (lo := lo) (n := n))
            obtain ⟨p, hp⟩ : ∃ p, p = lo + (n : Int) := ⟨_, rfl⟩
            rw [← hp] at HY HN hw1 hlt ⊢
            have HP := Lib.hid hp
            clear hp
            go_wp2_with fail
            go_loopw [9, 10] (fun v9 v10 wx => ∃ j : Nat, j ≤ l.length ∧ v10 = .int .i64 j ∧ v9 = .bool (swAll p (l.take j)) ∧ wr = wx) (fun _ v10 _ => l.length - (intOf v10).toNat)
            case atStart => exact ⟨0, Nat.zero_le _, rfl, rfl, rfl⟩
            case round =>
              obtain ⟨j, hj, rfl, rfl, rfl⟩ := hrel
              by_cases hlj : j < l.length
              · obtain ⟨q, hq⟩ : ∃ q, l[j]? = some q := ⟨_, List.getElem?_eq_getElem hlj⟩
                have HQ := Lib.hid (swAll_step (p := p) hq)
                obtain ⟨b1, o1, c1, hv1, x1⟩ := Rd1.cell (Rd.below h (by rw [hbs]; exact hbr)) hq
                simp only [Value.slice.injEq, true_and] at hv1
                obtain ⟨rfl, rfl⟩ := hv1
                clear hq
                generalize swAll p (l.take j) = c at *
                cases c with
                | true =>
                  go_wp2_with fail
                  refine (sweetG_is (a := p) (b := q) (c := sweetB p q) rfl _).mono ?_
                  rintro e w1 ⟨rfl, rfl⟩
                  go_wp2
                  go_roundw
                  case rel => exact ⟨j + 1, by omega, by go_num, by rw [HQ.out]; rfl, by first | trivial | rfl⟩
                  case measure => simp [intOf]; omega
                | false =>
                  go_wp2
                  go_roundw
                  case rel => exact ⟨j + 1, by omega, by go_num, by rw [HQ.out]; rfl, by first | trivial | rfl⟩
                  case measure => simp [intOf]; omega
              · obtain rfl : j = l.length := by omega
                rw [List.take_length]
                generalize swAll p l = c at *
                cases c with
                | true =>
                  have HA := Lib.hid (HY.out rfl)
                  go_wp2_with (at_builtin; refine wpList_append_own _ rfl _ _ 26 rfl bs 3 i0 (.int .i64 0) 1 8 Tryd.underlying26 hi0 hz0 hz1 hz2 rfl (by decide) _ (sfL l lo n).length _ rfl (hown.alloc _) ⟨wr.heap.size, 0, none⟩ 1 1 [.int .i64 p] rfl rfl ?c1 ?c2 ?c3 ?c4 ?c5 ?_)
                  try (case c1 => first | exact World.news_of_block (heap_alloc_new wr _) | exact fun _ _ h => h)
                  case c2 => simp [Value.oneCell']
                  case c3 => unfold maxLen; omega
                  case c4 => omega
                  case c5 => have := hbr.size; simp; omega
                  intro v' w2 hown2 hgrow _
                  have hsz : bs ≤ wr.heap.size := by rw [← hbs]; have := hbr.size; rw [hbs] at this ⊢; exact this
                  have hb2 := (hbr.alloc hsz _).grown hgrow (by simp; omega) (fun q hq => (hown.lt q hq).1)
                  have hown3 : w2.ownsRow bs 3 1 v' (sfL l lo (n + 1)).length ((sfL l lo (n + 1)).map intV) := by
                    rw [HA.out, List.map_append, List.length_append]; exact hown2
                  clear hown hown2 hgrow hbr
                  go_wp2
                  go_roundw
                  case rel => exact ⟨n + 1, by have hp := HP.out; omega, by have hp := HP.out; clear HP HY HN; subst hp; go_num, hown3, hb2⟩
                  case measure => have hp := HP.out; simp [intOf]; omega
                | false =>
                  have HA := Lib.hid (HN.out rfl)
                  have hown3 : wr.ownsRow bs 3 1 u7 (sfL l lo (n + 1)).length ((sfL l lo (n + 1)).map intV) := by
                    rw [HA.out]; exact hown
                  clear hown
                  go_wp2
                  go_roundw
                  case rel => exact ⟨n + 1, by have hp := HP.out; omega, by have hp := HP.out; clear HP HY HN; subst hp; go_num, hown3, hbr⟩
                  case measure => have hp := HP.out; simp [intOf]; omega
          · obtain rfl : n = (hi - lo + 1).toNat := by omega
            go_wp2
            go_ret
            exact ⟨_, rfl, by rw [hbs, HR.out]; exact hown, by rw [hbs]; exact hbr⟩
      · have HHI := Lib.hid hhi
        clear ht
        have HR := Lib.hid (sweetForL_no (l := l) (lo := lo) (hi := hi) fun k => hhi k.2.2)
        go_enter Tryd.func28, Tryd.ntmps28
        go_wp2_with fail
        generalize w.alloc (.cells #[] 3) = W at *
        refine HG.out.mono ?_
        rintro e w1 ⟨rfl, rfl⟩
        rw [HT.out]
        go_wp2_with fail
        refine (in_yes _ _ _ HLO.out _).mono ?_
        rintro e w1 ⟨rfl, rfl⟩
        go_wp2_with fail
        refine (in_no _ _ _ HHI.out _).mono ?_
        rintro e w1 ⟨rfl, rfl⟩
        go_wp2
        go_ret
        exact ⟨_, rfl, by rw [HR.out]; exact ho0, hb0⟩
    · have HLO := Lib.hid hlo
      clear ht
      have HR := Lib.hid (sweetForL_no (l := l) (lo := lo) (hi := hi) fun k => hlo k.2.1)
      go_enter Tryd.func28, Tryd.ntmps28
      go_wp2_with fail
      generalize w.alloc (.cells #[] 3) = W at *
      refine HG.out.mono ?_
      rintro e w1 ⟨rfl, rfl⟩
      rw [HT.out]
      go_wp2_with fail
      refine (in_no _ _ _ HLO.out _).mono ?_
      rintro e w1 ⟨rfl, rfl⟩
      go_wp2
      go_ret
      exact ⟨_, rfl, by rw [HR.out]; exact ho0, hb0⟩
  · have HT : Hid (togB l = false) := Lib.hid (by simpa using ht)
    clear ht
    have HR := Lib.hid (sweetForL_no (l := l) (lo := lo) (hi := hi) fun k => togB_false.1 HT.out k.1)
    go_enter Tryd.func28, Tryd.ntmps28
    go_wp2_with fail
    generalize w.alloc (.cells #[] 3) = W at *
    refine HG.out.mono ?_
    rintro e w1 ⟨rfl, rfl⟩
    rw [HT.out]
    go_wp2
    go_ret
    exact ⟨_, rfl, by rw [HR.out]; exact ho0, hb0⟩
end Go.Proofs.YtceebblokibapaaDoor
