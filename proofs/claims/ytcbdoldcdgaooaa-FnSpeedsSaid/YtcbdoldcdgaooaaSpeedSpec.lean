/- The contracts of chapter 14's model: TurnTime, PlayTime, TurnsForTime, BeatsOf, Shortened, FitsTurn. No condition. Made by gen_speed.py. -/
import Derived.Test.YtcbdoldcdgaooaaSpeedMath
import Derived.Test.YtcbdoldcdgaooaaGearSpec
import Derived.Deep.RegionHeld3
namespace Go.Proofs.Ytcbdoldcdgaooaa
open Go.ChangeShapes Go.WideShapes Go.ChangeAt Go.RowKit

theorem gcdZ_any {w : World} (g d : Nat) (z : Int) (hz : z = (d : Int)) (hg : g ≤ 1000000) (hd : d ≤ 1000000) :
    Calls Try.prog 103 #[.int .i64 (g : Int), .int .i64 z] w fun e w' => e = .returned (.int .i64 ((Nat.gcd g d : Nat) : Int)) ∧ Below w.heap.size w w' := by
  subst hz; exact gcdG_any g d (by omega) (by omega)
theorem gcdL_take_le {l : List (Int × Int)} (h : tuneB l = true) (k : Nat) : gcdL (headT l) (l.take k) ≤ 1000 := gcdL_le fun p hp => (tune_head h p (List.mem_of_mem_take hp)).2
theorem mapF_succ {f : Int × Int → Int × Int} {l : List (Int × Int)} {k : Nat} {p : Int × Int} (h : l[k]? = some p) : (l.take (k + 1)).map f = (l.take k).map f ++ [f p] := by
  rw [List.take_add_one, h]; simp

set_option maxHeartbeats 2000000 in
set_option maxRecDepth 100000 in
theorem beatsG_any {w : World} {v : Value} {l : List (Int × Int)} (h : Rd2 w v l) :
    Calls Try.prog 53 #[v] w fun e w' => e = .returned (.int .i64 (beatsM l : Int)) ∧ Below w.heap.size w w' := by
  obtain ⟨a1, cap1, rfl⟩ := Rd.slice h
  by_cases ht : tuneB l = true
  · have HT := Lib.hid ht
    have h40 := (tuneB_true.1 ht).1
    have HM := Lib.hid (beatsM_yes ht)
    clear ht
    go_enter Try.func53, Try.ntmps53
    go_wp2
    go_loopw [3, 4] (fun v3 v4 wr => ∃ (k G : Nat), k ≤ l.length ∧ v4 = .int .i64 (k : Int) ∧ v3 = .int .i64 (G : Int) ∧ Hid (G = gcdL (headT l) (l.take k)) ∧ Below w.heap.size w wr) (fun _ v4 _ => l.length - (intOf v4).toNat)
    case atStart => exact ⟨0, 0, Nat.zero_le _, rfl, rfl, Lib.hid rfl, Below.refl _ _⟩
    case round =>
      obtain ⟨k, G, hk, rfl, rfl, HG, hbr⟩ := hrel
      by_cases hlt : k < l.length
      · have hpos : 0 < l.length := by omega
        obtain ⟨p, hp⟩ : ∃ p, l[k]? = some p := ⟨_, List.getElem?_eq_getElem hlt⟩
        obtain ⟨a, ha⟩ : ∃ a, l[0]? = some a := ⟨_, List.getElem?_eq_getElem hpos⟩
        have hh := headT_at ha
        have hr := tune_head HT.out p (List.mem_of_getElem? hp)
        rw [hh] at hr
        have HN : Hid (Nat.gcd G (p.1 - a.1).toNat = gcdL (headT l) (l.take (k + 1))) := Lib.hid (by rw [gcdL_succ hp, HG.out, hh])
        have hG : G ≤ 1000 := by rw [HG.out]; exact gcdL_take_le HT.out k
        have HD : Hid (p.1 - a.1 = (((p.1 - a.1).toNat : Nat) : Int)) := Lib.hid (by omega)
        have hd : (p.1 - a.1).toNat ≤ 1000 := by omega
        have rp := ((tune_parts HT.out).2.2 p (List.mem_of_getElem? hp)).1
        have ra := ((tune_parts HT.out).2.2 a (List.mem_of_getElem? ha)).1
        have e1 : IntKind.i64.wrap (p.1 - a.1) = p.1 - a.1 := IntWalk.i64_in _ (by omega)
        generalize (p.1 - a.1).toNat = d at *
        obtain ⟨b1, o1, c1, hv1, x1, y1⟩ := Rd2.cells h hp
        obtain ⟨b2, o2, c2, hv2, x0, y0⟩ := Rd2.cells h ha
        simp only [Value.slice.injEq, true_and] at hv1
        obtain ⟨rfl, rfl⟩ := hv1
        simp only [Value.slice.injEq, true_and, Option.some.injEq, Addr.mk.injEq, and_true] at hv2
        obtain ⟨⟨rfl, rfl⟩, rfl⟩ := hv2
        rw [Nat.zero_mul, Nat.add_zero] at x0
        clear ha hp hh y0 y1 hr
        go_wp2_with fail
        refine (tuneok_yes (Rd.below h hbr) HT.out).mono ?_
        rintro e w1 ⟨rfl, hb1⟩
        have g1 := bstep hbr hb1
        clear hbr hb1
        have z0 := kept_b g1 x0
        have z1 := kept_b g1 x1
        go_wp2_with fail
        go_region_held3 (fun w' => w'.cell? ⟨b1, o1, none⟩ = some (.int .i64 a.1) ∧ w'.cell? ⟨b1, o1 + k * 2, none⟩ = some (.int .i64 p.1)) (go_keep)
          (first
            | (refine (gcdZ_any G d (p.1 - a.1) HD.out (by omega) (by omega)).mono ?_
               rintro e w2 ⟨rfl, hb2⟩
               have bv2 := bstep g1.drew hb2
               have q0 := kept_b bv2 x0
               have q1 := kept_b bv2 x1))
        clear z0 z1 q0 q1 x0 x1 hb2 g1
        go_wp2
        go_roundw
        case rel => exact ⟨k + 1, _, by omega, by go_num, rfl, HN, bv2⟩
        case measure => simp [intOf]; omega
      · obtain rfl : k = l.length := by omega
        have HE : Hid (G = beatsM l) := Lib.hid (by rw [HM.out, HG.out, List.take_length])
        go_wp2
        go_ret
        exact ⟨by rw [← HE.out]; rfl, hbr⟩
  · have ht' : tuneB l = false := by simpa using ht
    have HT := Lib.hid ht'
    have HM := Lib.hid (beatsM_no ht')
    have hpos : 0 < l.length := by
      by_cases h0 : 0 < l.length
      · exact h0
      · obtain rfl : l = [] := List.length_eq_zero_iff.1 (by omega)
        exact absurd tune_nil (by rw [ht']; simp)
    have hm := h.2.1
    unfold maxLen at hm
    clear ht ht'
    go_enter Try.func53, Try.ntmps53
    go_wp2
    go_loopw [3, 4] (fun v3 v4 wr => v4 = .int .i64 0 ∧ v3 = .int .i64 0 ∧ Below w.heap.size w wr) (fun _ _ _ => 0)
    case atStart => exact ⟨rfl, rfl, Below.refl _ _⟩
    case round =>
      obtain ⟨rfl, rfl, hbr⟩ := hrel
      go_wp2_with fail
      refine (tuneok_no (Rd.below h hbr) HT.out).mono ?_
      rintro e w1 ⟨rfl, hb1⟩
      have hbr1 := bstep hbr hb1
      clear hbr hb1
      go_wp2
      go_ret
      exact ⟨by rw [HM.out]; rfl, hbr1⟩

set_option maxHeartbeats 2000000 in
set_option maxRecDepth 100000 in
theorem shortG_any {w : World} {v : Value} {l : List (Int × Int)} (h : Rd2 w v l) :
    Calls Try.prog 54 #[v] w (NewNotes w (shortM l)) := by
  obtain ⟨i0, hi, hz0, hz1, hz2⟩ := info_parts infoNote
  obtain ⟨a1, cap1, rfl⟩ := Rd.slice h
  by_cases ht : tuneB l = true
  · have HT := Lib.hid ht
    have h40 := (tuneB_true.1 ht).1
    have HM := Lib.hid (shortM_yes ht)
    clear ht
    go_enter Try.func54, Try.ntmps54
    have hown0 : (w.alloc (.cells #[] 41)).ownsRow w.heap.size 41 2 (.slice (some ⟨w.heap.size, 0, none⟩) 0 0) 0 (flat2 []) := World.ownsRow_made w #[] 0 (Nat.le_refl _) (by simp) rfl
    have hb0 : Below w.heap.size w (w.alloc (.cells #[] 41)) := (Below.refl _ _).alloc (Nat.le_refl _) _
    go_wp2_with fail
    refine (beatsG_any (Rd.below h hb0)).mono ?_
    rintro e w1 ⟨rfl, hb1⟩
    have hown1 := ownS_below hown0 hb1
    have g1 := bstep hb0 hb1
    clear hown0 hb0 hb1
    have HF : Hid (∀ (k : Nat) (p a : Int × Int), l[k]? = some p → l[0]? = some a → ∃ z : Int, 0 ≤ p.1 - a.1 ∧ p.1 - a.1 ≤ 1000 ∧ 0 ≤ z ∧ z ≤ 1000 ∧ shF (headT l) (beatsM l) p = (z, p.2) ∧ (0 < beatsM l → (p.1 - a.1).tdiv (beatsM l : Int) = z) ∧ (beatsM l = 0 → p.1 - a.1 = z)) := Lib.hid fun k p a hp ha => by
      have hpm := List.mem_of_getElem? hp
      have hr := sh_range HT.out hpm
      have hh := headT_at ha
      have hd := tune_head HT.out p hpm
      refine ⟨(shF (headT l) (beatsM l) p).1, by omega, by omega, hr.1, hr.2, rfl, fun hg => ?_, fun hg => ?_⟩
      · rw [Int.tdiv_eq_ediv_of_nonneg (by omega)]; unfold shF; simp only; rw [show max (beatsM l) 1 = beatsM l by omega, hh]
      · unfold shF; simp only; rw [hg, hh]; simp
    have hg2 := beats_le l
    generalize shF (headT l) (beatsM l) = f at *
    generalize beatsM l = G at *
    go_wp2
    go_loopw [3, 5] (fun v3 v5 wr => ∃ k : Nat, k ≤ l.length ∧ v5 = .int .i64 (k : Int) ∧ wr.ownsRow w.heap.size 41 2 v3 k (flat2 ((l.take k).map f)) ∧ Below w.heap.size w wr) (fun _ v5 _ => l.length - (intOf v5).toNat)
    case atStart => exact ⟨0, Nat.zero_le _, rfl, hown1, g1⟩
    case round =>
      obtain ⟨k, hk, rfl, hown, hbr⟩ := hrel
      clear hown1 g1
      by_cases hlt : k < l.length
      · have hpos : 0 < l.length := by omega
        obtain ⟨p, hp⟩ : ∃ p, l[k]? = some p := ⟨_, List.getElem?_eq_getElem hlt⟩
        obtain ⟨a, ha⟩ : ∃ a, l[0]? = some a := ⟨_, List.getElem?_eq_getElem hpos⟩
        obtain ⟨z, hd0, hd1, hzz0, hzz1, hzf, hzg, hzn⟩ := HF.out k p a hp ha
        have HN : Hid ((l.take (k + 1)).map f = (l.take k).map f ++ [(z, p.2)]) := Lib.hid (by rw [mapF_succ hp, hzf])
        have HZN := Lib.hid hzn
        have e1 : IntKind.i64.wrap (p.1 - a.1) = p.1 - a.1 := by
          have rp := ((tune_parts HT.out).2.2 p (List.mem_of_getElem? hp)).1
          have ra := ((tune_parts HT.out).2.2 a (List.mem_of_getElem? ha)).1
          exact IntWalk.i64_in _ (by omega)
        have e2 : IntKind.i64.wrap z = z := IntWalk.i64_in _ (by omega)
        obtain ⟨b1, o1, c1, hv1, x1, y1⟩ := Rd2.cells h hp
        obtain ⟨b2, o2, c2, hv2, x0, y0⟩ := Rd2.cells h ha
        simp only [Value.slice.injEq, true_and] at hv1
        obtain ⟨rfl, rfl⟩ := hv1
        simp only [Value.slice.injEq, true_and, Option.some.injEq, Addr.mk.injEq, and_true] at hv2
        obtain ⟨⟨rfl, rfl⟩, rfl⟩ := hv2
        rw [Nat.zero_mul, Nat.add_zero] at x0
        clear ha hp y0 hzf hzn
        go_wp2_with fail
        refine (tuneok_yes (Rd.below h hbr) HT.out).mono ?_
        rintro e w2 ⟨rfl, hb2⟩
        have g2 := bstep hbr hb2
        have hown2 := ownS_below hown hb2
        clear hbr hb2 hown
        have z0 := kept_b g2 x0
        have z1 := kept_b g2 x1
        have z2 := kept_b g2 y1
        go_wp2_with fail
        go_quiet (fail)
        have g3 := below_drewN g2 nq
        have hown3 := ownS_below hown2 (below_drewN (Below.refl _ _) nq)
        generalize w2.drewN nq = w3 at *
        have z0 := kept_b g3 x0
        have z1 := kept_b g3 x1
        have z2 := kept_b g3 y1
        by_cases hg : 0 < G
        · have hgi : (0 : Int) < (G : Int) := by omega
          have hgz : ((G : Int) == 0) = false := by rw [beq_eq_false_iff_ne]; omega
          have hgn : ¬ G = 0 := by omega
          have ed := hzg hg
          have hlk : ((l.take k).map f).length = k := by rw [List.length_map, List.length_take]; omega
          have hrow := one_row0 g3 (z, p.2)
          have hb4 : Below w.heap.size w (w3.alloc (.cells #[.int .i64 z, .int .i64 p.2] 41)) := g3.alloc g3.size _
          have hown4 : (w3.alloc (.cells #[.int .i64 z, .int .i64 p.2] 41)).ownsRow w.heap.size 41 2 u3 k (flat2 ((l.take k).map f)) := hown3.alloc _
          have HL := Lib.hid (show (flat2 [(z, p.2)]).length = 1 * 2 from rfl)
          have HO := Lib.hid (flat2_one [(z, p.2)])
          go_wp2_with (at_builtin; refine wpList_append_own _ rfl _ _ 42 rfl w.heap.size 41 i0 _ 2 16 Try.underlying42 hi hz0 hz1 hz2 rfl (by decide) _ k (flat2 ((l.take k).map f)) rfl hown4 ⟨w3.heap.size, 0, none⟩ 1 1 (flat2 [(z, p.2)]) rfl HL.out (fun j u hu => hrow.cells (by rfl) j u hu) HO.out (by unfold maxLen; omega) (by omega) hb4.size ?_)
          intro v' w5 hown5 hgrow5 _
          have hb5 := hb4.grown hgrow5 hb4.size (fun j hj => (hown4.lt j hj).1)
          have hown6 : w5.ownsRow w.heap.size 41 2 v' (k + 1) (flat2 ((l.take (k + 1)).map f)) := by rw [HN.out, flat2_append, List.map_take]; exact hown5
          clear hown5 hown4 hrow hown3 hb4 g3 hgrow5
          go_wp2
          go_roundw
          case rel => exact ⟨k + 1, by omega, by go_num, hown6, hb5⟩
          case measure => simp [intOf]; omega
        · have hgi : ¬ (0 : Int) < (G : Int) := by omega
          have ed : p.1 - a.1 = z := HZN.out (by omega)
          have hlk : ((l.take k).map f).length = k := by rw [List.length_map, List.length_take]; omega
          rw [ed]
          have hrow := one_row0 g3 (z, p.2)
          have hb4 : Below w.heap.size w (w3.alloc (.cells #[.int .i64 z, .int .i64 p.2] 41)) := g3.alloc g3.size _
          have hown4 : (w3.alloc (.cells #[.int .i64 z, .int .i64 p.2] 41)).ownsRow w.heap.size 41 2 u3 k (flat2 ((l.take k).map f)) := hown3.alloc _
          have HL := Lib.hid (show (flat2 [(z, p.2)]).length = 1 * 2 from rfl)
          have HO := Lib.hid (flat2_one [(z, p.2)])
          go_wp2_with (at_builtin; refine wpList_append_own _ rfl _ _ 42 rfl w.heap.size 41 i0 _ 2 16 Try.underlying42 hi hz0 hz1 hz2 rfl (by decide) _ k (flat2 ((l.take k).map f)) rfl hown4 ⟨w3.heap.size, 0, none⟩ 1 1 (flat2 [(z, p.2)]) rfl HL.out (fun j u hu => hrow.cells (by rfl) j u hu) HO.out (by unfold maxLen; omega) (by omega) hb4.size ?_)
          intro v' w5 hown5 hgrow5 _
          have hb5 := hb4.grown hgrow5 hb4.size (fun j hj => (hown4.lt j hj).1)
          have hown6 : w5.ownsRow w.heap.size 41 2 v' (k + 1) (flat2 ((l.take (k + 1)).map f)) := by rw [HN.out, flat2_append, List.map_take]; exact hown5
          clear hown5 hown4 hrow hown3 hb4 g3 hgrow5
          go_wp2
          go_roundw
          case rel => exact ⟨k + 1, by omega, by go_num, hown6, hb5⟩
          case measure => simp [intOf]; omega
      · obtain rfl : k = l.length := by omega
        have hfull : l.take l.length = l := List.take_length
        rw [hfull] at hown
        clear hfull
        go_wp2
        go_ret
        exact ⟨_, rfl, by rw [HM.out, List.length_map]; exact hown, hbr⟩
  · have ht' : tuneB l = false := by simpa using ht
    have HT := Lib.hid ht'
    have HM := Lib.hid (shortM_no ht')
    have hpos : 0 < l.length := by
      by_cases h0 : 0 < l.length
      · exact h0
      · obtain rfl : l = [] := List.length_eq_zero_iff.1 (by omega)
        exact absurd tune_nil (by rw [ht']; simp)
    have hm := h.2.1
    unfold maxLen at hm
    clear ht ht'
    go_enter Try.func54, Try.ntmps54
    have hown0 : (w.alloc (.cells #[] 41)).ownsRow w.heap.size 41 2 (.slice (some ⟨w.heap.size, 0, none⟩) 0 0) 0 (flat2 []) := World.ownsRow_made w #[] 0 (Nat.le_refl _) (by simp) rfl
    have hb0 : Below w.heap.size w (w.alloc (.cells #[] 41)) := (Below.refl _ _).alloc (Nat.le_refl _) _
    go_wp2_with fail
    refine (beatsG_any (Rd.below h hb0)).mono ?_
    rintro e w1 ⟨rfl, hb1⟩
    have hown1 := ownS_below hown0 hb1
    have g1 := bstep hb0 hb1
    clear hown0 hb0 hb1
    generalize beatsM l = G at *
    go_wp2
    go_loopw [3, 5] (fun v3 v5 wr => v5 = .int .i64 0 ∧ wr.ownsRow w.heap.size 41 2 v3 0 (flat2 []) ∧ Below w.heap.size w wr) (fun _ _ _ => 0)
    case atStart => exact ⟨rfl, hown1, g1⟩
    case round =>
      obtain ⟨rfl, hown, hbr⟩ := hrel
      clear hown1 g1
      go_wp2_with fail
      refine (tuneok_no (Rd.below h hbr) HT.out).mono ?_
      rintro e w1 ⟨rfl, hb1⟩
      have hbr1 := bstep hbr hb1
      have hown2 := ownS_below hown hb1
      clear hbr hb1 hown
      go_wp2
      go_ret
      exact ⟨_, rfl, by rw [HM.out]; exact hown2, hbr1⟩

set_option maxHeartbeats 2000000 in
set_option maxRecDepth 100000 in
theorem fitsG_any {w : World} {v : Value} {l : List (Int × Int)} (n : Int) (h : Rd2 w v l) :
    Calls Try.prog 56 #[v, .int .i64 n] w fun e w' => e = .returned (.bool (fitsM l n)) ∧ Below w.heap.size w w' := by
  by_cases ht : tuneB l = true
  · have HT := Lib.hid ht
    by_cases hn : 4 ≤ n ∧ n ≤ 96
    · have HM := Lib.hid (fitsM_yes ht hn)
      have hsl := shortM_len l
      have h40 := (tuneB_true.1 ht).1
      have hr : ∀ b : Int × Int, (shortM l)[(shortM l).length - 1]? = some b → endT (shortM l) = b.1 := fun b hb => endT_at hb
      have hnil : (shortM l).length = 0 → endT (shortM l) = 0 := fun h0 => by rw [List.length_eq_zero_iff.1 h0]; rfl
      have HR := Lib.hid hr
      have HE := Lib.hid hnil
      clear ht hr hnil
      go_enter Try.func56, Try.ntmps56
      go_wp2_with fail
      refine (tuneok_yes h HT.out).mono ?_
      rintro e w1 ⟨rfl, hb1⟩
      go_wp2_with fail
      refine (in_yes _ _ _ hn _).mono ?_
      rintro e w2 ⟨rfl, rfl⟩
      go_wp2_with fail
      refine (shortG_any (Rd.below h hb1)).mono ?_
      rintro e w3 ⟨v3, rfl, ho3, hb3⟩
      have g3 := bstep hb1 hb3
      generalize shortM l = x at *
      by_cases h0 : x.length = 0
      · obtain rfl : x = [] := List.length_eq_zero_iff.1 h0
        obtain ⟨a3, c3, rfl⟩ := ownS_slice ho3
        have hd : decide (endT [] < n) = true := decide_eq_true (by rw [HE.out rfl]; omega)
        have HD := Lib.hid hd
        clear ho3 hd hb3 hb1 h0
        go_wp2
        go_ret
        exact ⟨by rw [HM.out, HD.out]; rfl, g3⟩
      · have hpos : 0 < x.length := by omega
        obtain ⟨b, hb⟩ : ∃ b, x[x.length - 1]? = some b := ⟨_, List.getElem?_eq_getElem (by omega)⟩
        have HB := Lib.hid (HR.out b hb)
        have hR : Rd2 w3 v3 x := Rd.of_own ho3
        obtain ⟨b1, o1, c1, rfl, x1, y1⟩ := Rd2.cells hR hb
        have hx0 : ((x.length : Int) == 0) = false := by rw [beq_eq_false_iff_ne]; omega
        have j1 : (0 : Int) ≤ (x.length : Int) - 1 := by omega
        have j2 : (1 : Int) ≤ (x.length : Int) := by omega
        have j3 : (x.length : Int) - 1 < (x.length : Int) := by omega
        have j4 : 1 ≤ x.length := by omega
        have ej1 : IntKind.i64.wrap ((x.length : Int) - 1) = (x.length : Int) - 1 := IntWalk.i64_in _ (by omega)
        have ej2 : ((x.length : Int) - 1).toNat = x.length - 1 := by omega
        clear ho3 hR hb hb3 hb1 y1
        go_wp2
        go_ret
        exact ⟨by rw [HM.out, HB.out]; rfl, g3⟩
    · have HM := Lib.hid (fitsM_no (l := l) (n := n) fun k => hn k.2)
      clear ht
      go_enter Try.func56, Try.ntmps56
      go_wp2_with fail
      refine (tuneok_yes h HT.out).mono ?_
      rintro e w1 ⟨rfl, hb1⟩
      go_wp2_with fail
      refine (in_no _ _ _ hn _).mono ?_
      rintro e w2 ⟨rfl, rfl⟩
      go_wp2
      go_ret
      exact ⟨by rw [HM.out]; rfl, hb1⟩
  · have ht' : tuneB l = false := by simpa using ht
    have HT := Lib.hid ht'
    have HM := Lib.hid (fitsM_no (l := l) (n := n) fun k => ht k.1)
    clear ht ht'
    go_enter Try.func56, Try.ntmps56
    go_wp2_with fail
    refine (tuneok_no h HT.out).mono ?_
    rintro e w1 ⟨rfl, hb1⟩
    go_wp2
    go_ret
    exact ⟨by rw [HM.out]; rfl, hb1⟩
end Go.Proofs.Ytcbdoldcdgaooaa
