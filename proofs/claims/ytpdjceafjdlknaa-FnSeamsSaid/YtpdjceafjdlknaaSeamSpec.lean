/- The contracts of the model's IsPlayable, OnlyAtSeam and QuietAngle. No condition. -/
import Derived.Test.YtpdjceafjdlknaaTooSpec
import Derived.Test.YtpdjceafjdlknaaPinsAtSpec
namespace Go.Proofs.Ytpdjceafjdlknaa
open Go.ChangeShapes Go.WideShapes Go.ChangeAt Go.RowKit

theorem lensI_two : ∀ {ll : List (List Int)}, (∀ x ∈ ll, x.length = 2) → lensI ll = 2 * ll.length
  | [], _ => rfl
  | x :: r, h => by
    have ih := lensI_two fun y hy => h y (List.mem_cons_of_mem _ hy)
    have h1 := h x (by simp)
    unfold lensI at ih ⊢
    rw [List.map_cons, List.sum_cons, ih, h1, List.length_cons]; omega
theorem tooM_lens (s t r : Int) (l : List (Int × Int)) : 1 + lensI (tooM s t l r) ≤ 8000000 := by
  rw [lensI_two fun x hx => by obtain ⟨i, k, p, q, rfl, -⟩ := tooM_two hx; rfl]
  have := tooM_len (s := s) (t := t) (r := r) (l := l)
  omega
theorem playM_yes {s t r : Int} {l : List (Int × Int)} (h1 : cylB s t l = true) (h2 : 1 ≤ r ∧ r ≤ 96) : playM s t l r = (tooM s t l r).isEmpty := by
  unfold playM; rw [h1, decide_eq_true h2]; rfl
theorem playM_no {s t r : Int} {l : List (Int × Int)} (h : ¬ (cylB s t l = true ∧ 1 ≤ r ∧ r ≤ 96)) : playM s t l r = false := by
  unfold playM
  by_cases h1 : cylB s t l = true
  · rw [decide_eq_false fun k => h ⟨h1, k⟩]; simp
  · rw [show cylB s t l = false by simpa using h1]; rfl

set_option maxHeartbeats 2000000 in
set_option maxRecDepth 100000 in
theorem splay_any {w : World} {v : Value} {l : List (Int × Int)} (s t r : Int) (h : Rd2 w v l) :
    Calls Try.prog 32 #[.agg #[.int .i64 s, .int .i64 t, v], .int .i64 r] w fun e w' => e = .returned (.bool (playM s t l r)) ∧ Below w.heap.size w w' := by
  obtain ⟨a1, cap1, rfl⟩ := Rd.slice h
  obtain ⟨W, hW⟩ : ∃ W, W = w.alloc (.cells #[.int .i64 s, .int .i64 t, .slice a1 l.length cap1] 26) := ⟨_, rfl⟩
  have hX : Box W w.heap.size s t (.slice a1 l.length cap1) := by rw [hW]; exact box_new _ _ _ _ _
  have hB : Below w.heap.size w W := by rw [hW]; exact (Below.refl _ _).alloc (Nat.le_refl _) _
  obtain ⟨-, k0, k1, k2⟩ := id hX
  rw [hW] at k0 k1 k2
  by_cases tc : cylB s t l = true
  · have TC := Lib.hid tc
    by_cases tr : 1 ≤ r ∧ r ≤ 96
    · have HL := Lib.hid (playM_yes tc tr)
      have HM := Lib.hid (tooM_len (s := s) (t := t) (r := r) (l := l))
      clear tc
      go_enter Try.func32, Try.ntmps32
      go_wp2_with fail
      rw [← hW]
      clear hW k0 k1 k2
      refine (cylok_yes (Rd.below h hB) TC.out).mono ?_
      rintro e w1 ⟨rfl, hb1⟩
      have hX1 := hX.below hb1
      have g1 := bstep hB hb1
      clear hX hB hb1
      obtain ⟨-, k0, k1, k2⟩ := id hX1
      go_wp2_with fail
      refine (in_yes' _ _ _ tr _).mono ?_
      rintro e w2 ⟨rfl, rfl⟩
      go_wp2_with fail
      clear k0 k1 k2
      refine (stoo_any s t r (Rd.below h g1)).mono ?_
      rintro e w3 ⟨v3, us, rfl, hO, hb3⟩
      obtain ⟨a3, c3, rfl⟩ := hO.rd.slice
      have g3 := bstep g1 hb3
      clear hO hb3 g1 hX1
      generalize tooM s t l r = ll at *
      by_cases hz : ll = []
      · subst hz
        go_wp2
        go_ret
        exact ⟨by rw [HL.out]; rfl, g3⟩
      · have hne : ¬ ll.length = 0 := fun e => hz (List.length_eq_zero_iff.1 e)
        have hne' : ((ll.length : Int) == 0) = false := by rw [beq_eq_false_iff_ne]; omega
        have HL2 := Lib.hid (show playM s t l r = false by rw [HL.out]; cases ll with | nil => exact absurd rfl hz | cons a b => rfl)
        have hm := HM.out
        clear hz
        go_wp2
        go_ret
        exact ⟨by rw [HL2.out]; rfl, g3⟩
    · have HL := Lib.hid (playM_no (s := s) (t := t) (l := l) (r := r) (fun k => tr k.2))
      clear tc
      go_enter Try.func32, Try.ntmps32
      go_wp2_with fail
      rw [← hW]
      clear hW k0 k1 k2
      refine (cylok_yes (Rd.below h hB) TC.out).mono ?_
      rintro e w1 ⟨rfl, hb1⟩
      have g1 := bstep hB hb1
      clear hX hB hb1
      go_wp2_with fail
      refine (in_no' _ _ _ tr _).mono ?_
      rintro e w2 ⟨rfl, rfl⟩
      go_wp2
      go_ret
      exact ⟨by rw [HL.out]; rfl, g1⟩
  · have TC := Lib.hid (show cylB s t l = false by simpa using tc)
    have HL := Lib.hid (playM_no (s := s) (t := t) (l := l) (r := r) (fun k => tc k.1))
    clear tc
    go_enter Try.func32, Try.ntmps32
    go_wp2_with fail
    rw [← hW]
    clear hW k0 k1 k2
    refine (cylok_no (Rd.below h hB) TC.out).mono ?_
    rintro e w1 ⟨rfl, hb1⟩
    have g1 := bstep hB hb1
    clear hX hB hb1
    go_wp2
    go_ret
    exact ⟨by rw [HL.out]; rfl, g1⟩

open Classical in
theorem onlyM_true {s t r : Int} {l : List (Int × Int)} (h1 : tooM s t l r ≠ []) (h2 : onlyP l r (tooM s t l r)) : onlyM s t l r = true := by unfold onlyM; exact decide_eq_true ⟨h1, h2⟩
open Classical in
theorem onlyM_none {s t r : Int} {l : List (Int × Int)} (h1 : tooM s t l r = []) : onlyM s t l r = false := by unfold onlyM; exact decide_eq_false fun k => k.1 h1
open Classical in
theorem onlyM_bad {s t r : Int} {l : List (Int × Int)} (h2 : ¬ onlyP l r (tooM s t l r)) : onlyM s t l r = false := by unfold onlyM; exact decide_eq_false fun k => h2 k.2
/-- The j-th of the pairs too close: its numbers and its pins. -/
theorem too_at {s t r : Int} {l : List (Int × Int)} {j : Nat} (hj : j < (tooM s t l r).length) : ∃ (i k : Nat) (p q : Int × Int), (tooM s t l r)[j]? = some [(i : Int), (k : Int)] ∧ i < k ∧ k < l.length ∧ l[i]? = some p ∧ l[k]? = some q ∧
    (0 ≤ p.2 ∧ p.2 ≤ 95) ∧ (0 ≤ q.2 ∧ q.2 ≤ 95) := by
  have hx := List.getElem?_eq_getElem hj
  obtain ⟨i, k, p, q, e, h1, h2, hp, hq, -, -⟩ := tooM_two (List.mem_of_getElem? hx)
  have hc : CylP s t l := by
    by_cases hh : cylB s t l = true ∧ 1 ≤ r ∧ r ≤ 96
    · exact cylB_true.1 hh.1
    · rw [tooM_no hh] at hj; simp at hj
  have b1 := (cyl_bd hc (List.mem_of_getElem? hp)).2
  have b2 := (cyl_bd hc (List.mem_of_getElem? hq)).2
  have b3 := hc.1
  exact ⟨i, k, p, q, by rw [hx, e]; rfl, h1, h2, hp, hq, by omega, by omega⟩
/-- The two cells of such a row. -/
theorem Rd1.two {w : World} {u : Value} {x y : Int} (h : Rd1 w u [x, y]) : ∃ b o cap, u = .slice (some ⟨b, o, none⟩) 2 cap ∧ w.cell? ⟨b, o, none⟩ = some (.int .i64 x) ∧ w.cell? ⟨b, o + 1, none⟩ = some (.int .i64 y) := by
  obtain ⟨b, o, cap, rfl, hc⟩ := Rd.pos h (by simp)
  exact ⟨b, o, cap, rfl, hc 0 (by simp), hc 1 (by simp)⟩

set_option maxHeartbeats 4000000 in
set_option maxRecDepth 100000 in
theorem sonly_any {w : World} {v : Value} {l : List (Int × Int)} (s t r : Int) (h : Rd2 w v l) :
    Calls Try.prog 33 #[.agg #[.int .i64 s, .int .i64 t, v], .int .i64 r] w fun e w' => e = .returned (.bool (onlyM s t l r)) ∧ Below w.heap.size w w' := by
  obtain ⟨a1, cap1, rfl⟩ := Rd.slice h
  obtain ⟨W, hW⟩ : ∃ W, W = w.alloc (.cells #[.int .i64 s, .int .i64 t, .slice a1 l.length cap1] 26) := ⟨_, rfl⟩
  have hX : Box W w.heap.size s t (.slice a1 l.length cap1) := by rw [hW]; exact box_new _ _ _ _ _
  have hB : Below w.heap.size w W := by rw [hW]; exact (Below.refl _ _).alloc (Nat.le_refl _) _
  obtain ⟨-, k0, k1, k2⟩ := id hX
  rw [hW] at k0 k1 k2
  have HM := Lib.hid (tooM_len (s := s) (t := t) (r := r) (l := l))
  have HT : Hid (∀ {j : Nat}, j < (tooM s t l r).length → ∃ (i k : Nat) (p q : Int × Int), (tooM s t l r)[j]? = some [(i : Int), (k : Int)] ∧ i < k ∧ k < l.length ∧ l[i]? = some p ∧ l[k]? = some q ∧ (0 ≤ p.2 ∧ p.2 ≤ 95) ∧ (0 ≤ q.2 ∧ q.2 ≤ 95)) := Lib.hid too_at
  have H1 : Hid (tooM s t l r ≠ [] → onlyP l r (tooM s t l r) → onlyM s t l r = true) := Lib.hid onlyM_true
  have H2 : Hid (tooM s t l r = [] → onlyM s t l r = false) := Lib.hid onlyM_none
  have H3 : Hid (¬ onlyP l r (tooM s t l r) → onlyM s t l r = false) := Lib.hid onlyM_bad
  go_enter Try.func33, Try.ntmps33
  go_wp2_with fail
  rw [← hW]
  clear hW k0 k1 k2
  obtain ⟨bx, hbx⟩ : ∃ b, b = w.heap.size := ⟨_, rfl⟩
  rw [← hbx] at hX
  simp only [← hbx]
  clear hbx
  refine (stoo_any s t r (Rd.below h hB)).mono ?_
  rintro e w1 ⟨v1, us, rfl, hO, hb1⟩
  have hR := hO.rd
  obtain ⟨a3, c3, rfl⟩ := hR.slice
  have g1 := bstep hB hb1
  have hX1 := hX.below hb1
  clear hO hb1 hX hB
  generalize tooM s t l r = ll at *
  have hm := HM.out
  go_wp2_with fail
  go_loopw [6] (fun v6 wr => ∃ j : Nat, j ≤ ll.length ∧ v6 = .int .i64 (j : Int) ∧ Below w1.heap.size w1 wr ∧ Hid (∀ (m i k : Nat) (p q : Int × Int), m < j → ll[m]? = some [(i : Int), (k : Int)] → l[i]? = some p → l[k]? = some q → r ≤ q.2 - p.2)) (fun v6 _ => ll.length - (intOf v6).toNat)
  case atStart => exact ⟨0, Nat.zero_le _, rfl, Below.refl _ _, Lib.hid fun m i k p q hm' => by omega⟩
  case round =>
    obtain ⟨j, hj, rfl, hbr, HA⟩ := hrel
    obtain ⟨-, k0, k1, k2⟩ := hX1.below hbr
    by_cases hlt : j < ll.length
    · obtain ⟨i, k, p, q, hx, hik, hkl, hp, hq, hpb, hqb⟩ := HT.out hlt
      obtain ⟨b3, o3, c4, u, -, hv3, x3, hu⟩ := (hR.below hbr).cell hx
      simp only [Value.slice.injEq, true_and] at hv3
      obtain ⟨rfl, rfl⟩ := hv3
      obtain ⟨b4, o4, c5, rfl, z0, z1⟩ := Rd1.two hu
      obtain ⟨b1, o1, c1, hv1, x1, y1⟩ := Rd2.cells (Rd.below (Rd.below h g1) hbr) hp
      simp only [Value.slice.injEq, true_and] at hv1
      obtain ⟨rfl, rfl⟩ := hv1
      obtain ⟨b2, o2, c2, hv2, x2, y2⟩ := Rd2.cells (Rd.below (Rd.below h g1) hbr) hq
      simp only [Value.slice.injEq, true_and, Option.some.injEq, Addr.mk.injEq, and_true] at hv2
      obtain ⟨⟨rfl, rfl⟩, rfl⟩ := hv2
      have hil : i < l.length := by omega
      have HX := Lib.hid hx
      have HP := Lib.hid hp
      have HQ := Lib.hid hq
      clear hx hp hq hu
      have ew : IntKind.i64.wrap (q.2 - p.2) = q.2 - p.2 := IntWalk.i64_in _ (by omega)
      by_cases hd : q.2 - p.2 < r
      · have HE := Lib.hid (H3.out fun ho => by
          have := ho i k p q (List.mem_of_getElem? HX.out) HP.out HQ.out
          omega)
        have hdd : decide (q.2 - p.2 < r) = true := decide_eq_true hd
        go_wp2_with fail
        go_quiet (fail)
        have hb2 := bstep g1 (below_drewN hbr nq)
        generalize wr.drewN nq = W2 at *
        clear x1 y1 x2 y2 x3 z0 z1 k0 k1 k2
        go_wp2
        go_ret
        exact ⟨by rw [HE.out]; rfl, hb2⟩
      · have hdd : decide (q.2 - p.2 < r) = false := decide_eq_false hd
        have HA2 : Hid (∀ (m i k : Nat) (p q : Int × Int), m < j + 1 → ll[m]? = some [(i : Int), (k : Int)] → l[i]? = some p → l[k]? = some q → r ≤ q.2 - p.2) := Lib.hid fun m i' k' p' q' hm' he hp' hq' => by
          by_cases hmj : m < j
          · exact HA.out m i' k' p' q' hmj he hp' hq'
          · obtain rfl : m = j := by omega
            rw [HX.out] at he
            have he := Option.some.inj he
            simp only [List.cons.injEq, Int.natCast_inj, and_true] at he
            obtain ⟨rfl, rfl⟩ := he
            rw [HP.out] at hp'; rw [HQ.out] at hq'
            obtain rfl := Option.some.inj hp'; obtain rfl := Option.some.inj hq'
            omega
        go_wp2_with fail
        go_quiet (fail)
        have hb2 := below_drewN hbr nq
        generalize wr.drewN nq = W2 at *
        clear x1 y1 x2 y2 x3 z0 z1 k0 k1 k2
        go_wp2
        go_roundw
        case rel => exact ⟨j + 1, by omega, by go_num, hb2, HA2⟩
        case measure => simp [intOf]; omega
    · obtain rfl : j = ll.length := by omega
      have g2 := bstep g1 hbr
      by_cases hz : ll = []
      · have HE := Lib.hid (H2.out hz)
        subst hz
        go_wp2
        go_ret
        exact ⟨by rw [HE.out]; rfl, g2⟩
      · have hpos : 0 < ll.length := by
          cases ll with
          | nil => exact absurd rfl hz
          | cons a b => simp
        have HE := Lib.hid (H1.out hz fun i k p q hmem hp hq => by
          obtain ⟨m, hm'⟩ := List.mem_iff_getElem?.1 hmem
          exact HA.out m i k p q (List.getElem?_eq_some_iff.1 hm').1 hm' hp hq)
        clear hz
        go_wp2
        go_ret
        exact ⟨by rw [HE.out]; rfl, g2⟩

theorem quietM_no {s t : Int} {l : List (Int × Int)} (h : cylB s t l = false) : quietM s t l = -1 := if_neg (by rw [h]; simp)
theorem quietM_none {s t : Int} (h : cylB s t [] = true) : quietM s t [] = 0 := by unfold quietM; rw [if_pos h, if_pos rfl]
theorem quietM_yes {s t q : Int} {l : List (Int × Int)} {n : Nat} (h : cylB s t l = true) (hl : l ≠ []) (hq : Quiet s l s q n) : quietM s t l = q := by unfold quietM; rw [if_pos h, if_neg hl, quietN_eq hq]
theorem pinsM_at {s t a : Int} {l : List (Int × Int)} (h : cylB s t l = true) (ha : 0 ≤ a ∧ a ≤ 200) : pinsM s t l a = pinsL l (a % s) := if_pos ⟨h, by omega⟩
theorem run_more {s a : Int} {l : List (Int × Int)} {m : Nat} (h : ∀ j : Nat, j < m → pinsL l ((a + (j : Int)) % s) = []) (hm : pinsL l ((a + (m : Int)) % s) = []) : ∀ j : Nat, j < m + 1 → pinsL l ((a + (j : Int)) % s) = [] := fun j hj => by
  by_cases e : j < m
  · exact h j e
  · obtain rfl : j = m := by omega
    exact hm
theorem quiet_le {s b q : Int} {l : List (Int × Int)} {n : Nat} (h : Quiet s l b q n) (hs : 0 ≤ s) : (n : Int) ≤ s := by
  rcases h.2 with ⟨-, rfl⟩ | ⟨-, -, -, k⟩
  · exact hs
  · exact k.1

set_option maxHeartbeats 4000000 in
set_option maxRecDepth 100000 in
theorem squiet_any {w : World} {v : Value} {l : List (Int × Int)} (s t : Int) (h : Rd2 w v l) :
    Calls Try.prog 34 #[.agg #[.int .i64 s, .int .i64 t, v]] w fun e w' => e = .returned (.int .i64 (quietM s t l)) ∧ Below w.heap.size w w' := by
  obtain ⟨a1, cap1, rfl⟩ := Rd.slice h
  obtain ⟨W, hW⟩ : ∃ W, W = w.alloc (.cells #[.int .i64 s, .int .i64 t, .slice a1 l.length cap1] 26) := ⟨_, rfl⟩
  have hX : Box W w.heap.size s t (.slice a1 l.length cap1) := by rw [hW]; exact box_new _ _ _ _ _
  have hB : Below w.heap.size w W := by rw [hW]; exact (Below.refl _ _).alloc (Nat.le_refl _) _
  obtain ⟨-, k0, k1, k2⟩ := id hX
  rw [hW] at k0 k1 k2
  by_cases tc : cylB s t l = true
  · have TC := Lib.hid tc
    have HC := Lib.hid (cylB_true.1 tc)
    have hl := (cylB_true.1 tc).2.2.1
    have hs := (cylB_true.1 tc).1
    obtain ⟨S, rfl⟩ := Int.eq_ofNat_of_zero_le (show 0 ≤ s by omega)
    by_cases hz : l = []
    · have HL := Lib.hid (show quietM (S : Int) t l = 0 by rw [hz]; exact quietM_none (by rw [← hz]; exact tc))
      have hzb : ((l.length : Int) == 0) = true := by rw [hz]; rfl
      clear tc hz
      go_enter Try.func34, Try.ntmps34
      go_wp2_with fail
      rw [← hW]
      clear hW k0 k1 k2
      refine (cylok_yes (Rd.below h hB) TC.out).mono ?_
      rintro e w1 ⟨rfl, hb1⟩
      have g1 := bstep hB hb1
      obtain ⟨-, k0, k1, k2⟩ := hX.below hb1
      go_wp2
      go_ret
      exact ⟨by rw [HL.out]; rfl, g1⟩
    · have HZ := Lib.hid hz
      have hz0 : ¬ l.length = 0 := fun e => hz (List.length_eq_zero_iff.1 e)
      have hzb : ((l.length : Int) == 0) = false := by rw [beq_eq_false_iff_ne]; omega
      clear tc hz
      go_enter Try.func34, Try.ntmps34
      go_wp2_with fail
      rw [← hW]
      clear hW k0 k1 k2
      obtain ⟨bx, hbx⟩ : ∃ b, b = w.heap.size := ⟨_, rfl⟩
      rw [← hbx] at hX
      simp only [← hbx]
      clear hbx
      refine (cylok_yes (Rd.below h hB) TC.out).mono ?_
      rintro e w1 ⟨rfl, hb1⟩
      have hX1 := hX.below hb1
      have g1 := bstep hB hb1
      clear hX hB hb1
      obtain ⟨-, k0, k1, k2⟩ := id hX1
      go_wp2_with fail
      clear k0 k1 k2
      go_loopw [3, 4, 5] (fun v3 v4 v5 wr => ∃ (a : Nat) (q : Int) (n : Nat), a ≤ S ∧ v5 = .int .i64 (a : Int) ∧ v3 = .int .i64 q ∧ v4 = .int .i64 (n : Int) ∧ Hid (Quiet (S : Int) l (a : Int) q n) ∧ Below w.heap.size w wr ∧ Box wr bx (S : Int) t (.slice a1 l.length cap1)) (fun _ _ v5 _ => S - (intOf v5).toNat)
      case atStart => exact ⟨0, -1, 0, Nat.zero_le _, rfl, rfl, rfl, Lib.hid (quiet_0 _ _), g1, hX1⟩
      case round =>
        clear g1 hX1
        obtain ⟨a, q, n, ha, rfl, rfl, rfl, HQ, hbr, hX⟩ := hrel
        have HN := Lib.hid (quiet_le HQ.out (by omega))
        by_cases hlt : a < S
        · obtain ⟨kx, k0, k1, k2⟩ := id hX
          go_wp2_with fail
          clear kx k0 k1 k2
          obtain ⟨wo, hwo⟩ : ∃ wo : World, wo = wr := ⟨_, rfl⟩
          rw [← hwo] at hbr hX ⊢
          clear hwo
          go_loopw [6] (fun v6 wx => ∃ m : Nat, m ≤ S ∧ v6 = .int .i64 (m : Int) ∧ Hid (∀ j : Nat, j < m → pinsL l (((a : Int) + (j : Int)) % (S : Int)) = []) ∧ Below w.heap.size w wx ∧ Box wx bx (S : Int) t (.slice a1 l.length cap1)) (fun v6 _ => S - (intOf v6).toNat)
          case atStart => exact ⟨0, Nat.zero_le _, rfl, Lib.hid fun j hj => by omega, hbr, hX⟩
          case round =>
            clear hbr hX
            obtain ⟨m, hm, rfl, HR, hbr, hX⟩ := hrel
            obtain ⟨kx, k0, k1, k2⟩ := id hX
            by_cases hms : m < S
            · have eam : IntKind.i64.wrap ((a : Int) + (m : Int)) = (a : Int) + (m : Int) := IntWalk.i64_in _ (by omega)
              have HPM := Lib.hid (pinsM_at (a := (a : Int) + (m : Int)) TC.out (by omega))
              have HPL := Lib.hid (pinsM_len (S : Int) t l ((a : Int) + (m : Int)))
              go_wp2_with fail
              clear kx k0 k1 k2
              refine (pinsat_any (S : Int) t ((a : Int) + (m : Int)) (Rd.below h hbr)).mono ?_
              rintro e w2 ⟨v2, rfl, ho, hb2⟩
              obtain ⟨a2, c2, rfl⟩ := ownS_slice ho
              have hbr2 := bstep hbr hb2
              have hX2 := hX.below hb2
              clear hbr hX hb2 ho eam
              by_cases hp : pinsM (S : Int) t l ((a : Int) + (m : Int)) = []
              · have HR2 := Lib.hid (run_more HR.out (by rw [← HPM.out]; exact hp))
                rw [hp]
                clear hp
                go_wp2
                go_roundw
                case rel => exact ⟨m + 1, by omega, by go_num, HR2, hbr2, hX2⟩
                case measure => simp [intOf]; omega
              · have hne : ¬ (pinsM (S : Int) t l ((a : Int) + (m : Int))).length = 0 := fun e => hp (List.length_eq_zero_iff.1 e)
                have hpl := HPL.out
                have HRN := Lib.hid (show IsRun (S : Int) l (a : Int) m from ⟨by omega, HR.out, Or.inr (by rw [← HPM.out]; exact hp)⟩)
                clear hp
                generalize (pinsM (S : Int) t l ((a : Int) + (m : Int))).length = pl at *
                have hneb : ((pl : Int) == 0) = false := by rw [beq_eq_false_iff_ne]; omega
                by_cases hmn : n < m
                · have HQ2 := Lib.hid (quiet_more HQ.out (by omega) HRN.out hmn)
                  go_wp2
                  go_roundw
                  case rel => exact ⟨a + 1, (a : Int), m, by omega, by go_num, rfl, rfl, HQ2, hbr2, hX2⟩
                  case measure => simp [intOf]; omega
                · have HQ2 := Lib.hid (quiet_same HQ.out HRN.out hmn)
                  go_wp2
                  go_roundw
                  case rel => exact ⟨a + 1, q, n, by omega, by go_num, rfl, rfl, HQ2, hbr2, hX2⟩
                  case measure => simp [intOf]; omega
            · obtain rfl : m = S := by omega
              have HRN := Lib.hid (show IsRun (m : Int) l (a : Int) m from ⟨Int.le_refl _, HR.out, Or.inl rfl⟩)
              by_cases hmn : n < m
              · have HQ2 := Lib.hid (quiet_more HQ.out (by omega) HRN.out hmn)
                go_wp2
                go_roundw
                case rel => exact ⟨a + 1, (a : Int), m, by omega, by go_num, rfl, rfl, HQ2, hbr, hX⟩
                case measure => simp [intOf]; omega
              · have HQ2 := Lib.hid (quiet_same HQ.out HRN.out hmn)
                go_wp2
                go_roundw
                case rel => exact ⟨a + 1, q, n, by omega, by go_num, rfl, rfl, HQ2, hbr, hX⟩
                case measure => simp [intOf]; omega
        · obtain rfl : a = S := by omega
          have HE := Lib.hid (quietM_yes TC.out HZ.out HQ.out)
          obtain ⟨kx, k0, k1, k2⟩ := id hX
          go_wp2
          go_ret
          exact ⟨by rw [HE.out]; rfl, hbr⟩
  · have TC := Lib.hid (show cylB s t l = false by simpa using tc)
    have HL := Lib.hid (quietM_no TC.out)
    clear tc
    go_enter Try.func34, Try.ntmps34
    go_wp2_with fail
    rw [← hW]
    clear hW k0 k1 k2
    refine (cylok_no (Rd.below h hB) TC.out).mono ?_
    rintro e w1 ⟨rfl, hb1⟩
    have g1 := bstep hB hb1
    clear hX hB hb1
    go_wp2
    go_ret
    exact ⟨by rw [HL.out]; rfl, g1⟩
end Go.Proofs.Ytpdjceafjdlknaa
