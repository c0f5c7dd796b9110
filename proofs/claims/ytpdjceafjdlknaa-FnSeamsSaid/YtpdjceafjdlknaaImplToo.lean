/- The program's TooClose and IsPlayable: they answer as the model's. No condition. -/
import Derived.Test.YtpdjceafjdlknaaImplClose
namespace Go.Proofs.Ytpdjceafjdlknaa
open Go.ChangeShapes Go.WideShapes Go.ChangeAt Go.RowKit

/-- The rows of us whose readings g takes. -/
def keptZ (g : List Int → Bool) (us : List Value) (ll : List (List Int)) (j : Nat) : List (Value × List Int) := ((us.zip ll).take j).filter fun z => g z.2
theorem keptZ_zero (g : List Int → Bool) (us : List Value) (ll : List (List Int)) : keptZ g us ll 0 = [] := rfl
theorem keptZ_yes {g : List Int → Bool} {us : List Value} {ll : List (List Int)} {j : Nat} {u : Value} {x : List Int} (hu : us[j]? = some u) (hx : ll[j]? = some x) (hg : g x = true) : keptZ g us ll (j + 1) = keptZ g us ll j ++ [(u, x)] := by
  unfold keptZ
  rw [List.take_add_one, (List.getElem?_zip_eq_some (z := (u, x))).2 ⟨hu, hx⟩, List.filter_append]
  simp [hg]
theorem keptZ_no {g : List Int → Bool} {us : List Value} {ll : List (List Int)} {j : Nat} {u : Value} {x : List Int} (hu : us[j]? = some u) (hx : ll[j]? = some x) (hg : g x = false) : keptZ g us ll (j + 1) = keptZ g us ll j := by
  unfold keptZ
  rw [List.take_add_one, (List.getElem?_zip_eq_some (z := (u, x))).2 ⟨hu, hx⟩, List.filter_append]
  simp [hg]
theorem keptZ_le (g : List Int → Bool) (us : List Value) (ll : List (List Int)) (j : Nat) : (keptZ g us ll j).length ≤ ll.length := by
  unfold keptZ
  refine Nat.le_trans (List.length_filter_le _ _) ?_
  rw [List.length_take, List.length_zip]; omega
theorem keptZ_snd {g : List Int → Bool} {us : List Value} {ll : List (List Int)} (h : us.length = ll.length) : (keptZ g us ll ll.length).map Prod.snd = ll.filter g := by
  unfold keptZ
  rw [List.take_of_length_le (by rw [List.length_zip]; omega)]
  have e : (us.zip ll).map Prod.snd = ll := List.map_snd_zip (by omega)
  have e2 : ll.filter g = ((us.zip ll).map Prod.snd).filter g := by rw [e]
  rw [e2, List.filter_map]; rfl
theorem keptZ_sub (g : List Int → Bool) (us : List Value) (ll : List (List Int)) (j : Nat) : (keptZ g us ll j).Sublist (us.zip ll) := List.filter_sublist.trans (List.take_sublist _ _)
theorem OwI.sub {lo hi : Nat} {w : World} {v v' : Value} {us : List Value} {ll : List (List Int)} (h : OwI lo hi w v us ll) (hs : hi ≤ w.heap.size) (hlo : lo ≤ hi) {g : List Int → Bool} {j : Nat}
    (ho : w.ownsRow hi 34 1 v' (keptZ g us ll j).length ((keptZ g us ll j).map Prod.fst)) : OwI lo w.heap.size w v' ((keptZ g us ll j).map Prod.fst) ((keptZ g us ll j).map Prod.snd) := by
  have hsub := keptZ_sub g us ll j
  generalize keptZ g us ll j = zs at *
  have hin : ∀ z ∈ us.zip ll, w.ownsRow lo 3 1 z.1 z.2.length (z.2.map intV) ∧ ∀ g, z.1.ownBlock = some g → g < hi := fun z hz => by
    obtain ⟨i, hi'⟩ := List.mem_iff_getElem?.1 hz
    obtain ⟨h1, h2⟩ := List.getElem?_zip_eq_some.1 hi'
    have k := h.2.2.2.1 i z.1 z.2 h1 h2
    exact ⟨k.1, fun g hg => (k.2 g hg).1⟩
  have hpw : (us.zip ll).Pairwise fun a b => ∀ g, a.1.ownBlock = some g → b.1.ownBlock ≠ some g := List.pairwise_iff_getElem.2 fun i k hi' hk hik g hg => by
    have e1 := List.getElem?_eq_getElem hi'
    have e2 := List.getElem?_eq_getElem hk
    exact h.2.2.2.2 i k _ _ g (List.getElem?_zip_eq_some.1 e1).1 (List.getElem?_zip_eq_some.1 e2).1 (by omega) hg
  have hpz := hpw.sublist hsub
  refine ⟨by rw [List.length_map, List.length_map], by rw [List.length_map]; exact own_low ho hlo, fun g hg => (ho.lt g hg).2, fun i u l hu hl => ?_, fun i k u t b hu ht hik hb => ?_⟩
  · rw [List.getElem?_map] at hu hl
    obtain ⟨z, hz, rfl⟩ := Option.map_eq_some_iff.1 hu
    rw [hz] at hl
    obtain rfl := Option.some.inj hl
    have k := hin z (hsub.subset (List.mem_of_getElem? hz))
    exact ⟨k.1, fun b hb => ⟨Nat.lt_of_lt_of_le (k.2 b hb) hs, fun e => by have := (ho.lt b e).1; have := k.2 b hb; omega⟩⟩
  · rw [List.getElem?_map] at hu ht
    obtain ⟨z, hz, rfl⟩ := Option.map_eq_some_iff.1 hu
    obtain ⟨y, hy, rfl⟩ := Option.map_eq_some_iff.1 ht
    obtain ⟨hi1, ez⟩ := List.getElem?_eq_some_iff.1 hz
    obtain ⟨hk1, ey⟩ := List.getElem?_eq_some_iff.1 hy
    rcases Nat.lt_or_gt_of_ne hik with hlt | hlt
    · have := List.pairwise_iff_getElem.1 hpz i k hi1 hk1 hlt b
      rw [ez, ey] at this; exact this hb
    · have := List.pairwise_iff_getElem.1 hpz k i hk1 hi1 hlt b
      rw [ez, ey] at this; exact fun e => this e hb
theorem rowF_at {s t r : Int} {l : List (Int × Int)} {i k : Nat} {p q : Int × Int} (hc : CylP s t l) (hp : l[i]? = some p) (hq : l[k]? = some q) (he : p.1 = q.1) : rowF s r l [(i : Int), (k : Int)] = decide (gapM p.2 q.2 s < r) := by
  show closeK s r l (i : Int).toNat (k : Int).toNat = _
  rw [Int.toNat_natCast, Int.toNat_natCast, cyl_gap hc hp hq, closeK_at hp hq]
  unfold closeF; simp [he]

set_option maxHeartbeats 4000000 in
set_option maxRecDepth 100000 in
theorem itoo_any {w : World} {v : Value} {l : List (Int × Int)} (s t r : Int) (h : Rd2 w v l) :
    Calls Try.prog 14 #[.agg #[.int .i64 s, .int .i64 t, v], .int .i64 r] w (NewNest w (tooM s t l r)) := by
  obtain ⟨i0, hi, hz0, hz1, hz2⟩ := info_parts infoIS
  obtain ⟨a1, cap1, rfl⟩ := Rd.slice h
  obtain ⟨W, hW⟩ : ∃ W, W = w.alloc (.cells #[.int .i64 s, .int .i64 t, .slice a1 l.length cap1] 26) := ⟨_, rfl⟩
  have hX : Box W w.heap.size s t (.slice a1 l.length cap1) := by rw [hW]; exact box_new _ _ _ _ _
  have hB : Below w.heap.size w W := by rw [hW]; exact (Below.refl _ _).alloc (Nat.le_refl _) _
  obtain ⟨-, k0, k1, k2⟩ := id hX
  rw [hW] at k0 k1 k2
  have hnil : ∀ W : World, OwI w.heap.size W.heap.size W (.slice none 0 0) [] [] := fun W => OwI.nil (World.ownsRow_nil _ _ _ _)
  have HNIL := Lib.hid hnil
  clear hnil
  by_cases tc : cylB s t l = true
  · have TC := Lib.hid tc
    have HC := Lib.hid (cylB_true.1 tc)
    by_cases tr : 1 ≤ r ∧ r ≤ 96
    · have HL := Lib.hid ((tooM_yes tc tr).trans (tooN_filter (s := s) (r := r) (r' := 1000) (by omega) l l.length).symm)
      have HM := Lib.hid (pairs_len HC.out 1000)
      have HT : Hid (∀ {j : Nat}, j < (tooN s 1000 l l.length).length → ∃ (i k : Nat) (p q : Int × Int), (tooN s 1000 l l.length)[j]? = some [(i : Int), (k : Int)] ∧ i < k ∧ k < l.length ∧ l[i]? = some p ∧ l[k]? = some q ∧ p.1 = q.1) := Lib.hid pair_at
      clear tc
      go_enter Try.func14, Try.ntmps14
      go_wp2_with fail
      rw [← hW]
      clear hW k0 k1 k2
      obtain ⟨bx, hbx⟩ : ∃ b, b = w.heap.size := ⟨_, rfl⟩
      rw [← hbx] at hX
      simp only [← hbx]
      clear hbx
      refine (icyl_yes (Rd.below h hB) TC.out).mono ?_
      rintro e w1 ⟨rfl, hb1⟩
      have hX1 := hX.below hb1
      have g1 := bstep hB hb1
      clear hX hB hb1
      obtain ⟨-, k0, k1, k2⟩ := id hX1
      go_wp2_with fail
      refine (trest_yes tr _).mono ?_
      rintro e w1' ⟨rfl, rfl⟩
      go_wp2_with fail
      clear k0 k1 k2
      refine (pairs_any s t HC.out (Rd.below h g1)).mono ?_
      rintro e w2 ⟨v2, us, rfl, hO, hb2⟩
      have hR := hO.rd
      obtain ⟨a3, c3, rfl⟩ := hR.slice
      have g2 := bstep g1 hb2
      have hX2 := hX1.below hb2
      have hO2 := hO.low g1.size
      have hw2 : w.heap.size ≤ w2.heap.size := g2.size
      clear hO hb2 g1 hX1
      have HUL := Lib.hid hR.1
      have HLF := Lib.hid (keptZ_snd (g := rowF s r l) hR.1)
      generalize tooN s 1000 l l.length = ll at *
      have hm := HM.out
      go_wp2_with fail
      go_loopw [5, 19] (fun v5 v19 wr => ∃ j : Nat, j ≤ ll.length ∧ v19 = .int .i64 (j : Int) ∧ wr.ownsRow w2.heap.size 34 1 v5 (keptZ (rowF s r l) us ll j).length ((keptZ (rowF s r l) us ll j).map Prod.fst) ∧ Below w2.heap.size w2 wr) (fun _ v19 _ => ll.length - (intOf v19).toNat)
      case atStart => exact ⟨0, Nat.zero_le _, rfl, World.ownsRow_nil _ _ _ _, Below.refl _ _⟩
      case round =>
        obtain ⟨j, hj, rfl, hown, hbr⟩ := hrel
        obtain ⟨-, k0, k1, k2⟩ := hX2.below hbr
        have hwr := bstep g2 hbr
        by_cases hlt : j < ll.length
        · obtain ⟨i, k, p, q, hx, hik, hkl, hp, hq, he⟩ := HT.out hlt
          obtain ⟨b3, o3, c4, u, hus, hv3, x3, hu⟩ := (hR.below hbr).cell hx
          simp only [Value.slice.injEq, true_and] at hv3
          obtain ⟨rfl, rfl⟩ := hv3
          obtain ⟨a5, c5, rfl⟩ := Rd.slice hu
          have HF := Lib.hid (rowF_at (r := r) HC.out hp hq he)
          have HX := Lib.hid hx
          have HU := Lib.hid hus
          have HGO : Hid (Calls Try.prog 45 #[.agg #[.int .i64 s, .int .i64 t, .slice a1 l.length cap1], .slice a5 [(i : Int), (k : Int)].length c5] wr fun e w' => e = .returned (.int .i64 (gapM p.2 q.2 s)) ∧ Below wr.heap.size wr w') := Lib.hid (gapof_any (Rd.below h hwr) hu hp hq)
          clear hx hp hq he hu hus
          go_wp2_with fail
          refine HGO.out.mono ?_
          rintro e w3 ⟨rfl, hb3⟩
          have hb4 := bstep hbr hb3
          have hown3 := ownS_below hown hb3
          have hkl2 := keptZ_le (rowF s r l) us ll j
          clear HGO hb3 x3 k0 k1 k2 hbr hown
          by_cases hg : gapM p.2 q.2 s < r
          · have HA := Lib.hid (keptZ_yes HU.out HX.out (HF.out.trans (decide_eq_true hg)))
            go_wp2_with (at_builtin; refine wpList_append_own _ rfl _ _ 30 rfl w2.heap.size 34 i0 (.slice none 0 0) 1 24 Try.underlying30 hi hz0 hz1 hz2 rfl (by decide) _ (keptZ (rowF s r l) us ll j).length _ rfl (hown3.alloc _) ⟨w3.heap.size, 0, none⟩ 1 1 [.slice a5 2 c5] rfl rfl ?c1 ?c2 ?c3 ?c4 ?c5 ?_)
            case c1 => exact cell_one_new _ _ _
            case c2 => simp [Value.oneCell']
            case c3 => unfold maxLen; omega
            case c4 => omega
            case c5 => have := hb4.size; simp; omega
            intro v' w4 hown4 hgrow _
            have hb5 : Below w2.heap.size w2 w4 := (hb4.alloc hb4.size _).grown hgrow (by have := hb4.size; simp; omega) (fun k hk => (hown3.lt k hk).1)
            have hown5 : w4.ownsRow w2.heap.size 34 1 v' (keptZ (rowF s r l) us ll (j + 1)).length ((keptZ (rowF s r l) us ll (j + 1)).map Prod.fst) := by
              rw [HA.out, List.map_append, List.length_append]; exact hown4
            clear hown3 hown4 hgrow hb4 hg
            go_wp2
            go_roundw
            case rel => exact ⟨j + 1, by omega, by go_num, hown5, hb5⟩
            case measure => simp [intOf]; omega
          · have HA := Lib.hid (keptZ_no HU.out HX.out (HF.out.trans (decide_eq_false hg)))
            have hgd : decide (gapM p.2 q.2 s < r) = false := decide_eq_false hg
            rw [← HA.out] at hown3
            go_wp2
            go_roundw
            case rel => exact ⟨j + 1, by omega, by go_num, hown3, hb4⟩
            case measure => simp [intOf]; omega
        · obtain rfl : j = ll.length := by omega
          have hO3 := (hO2.below hbr).sub hbr.size hw2 hown
          rw [HLF.out] at hO3
          go_wp2
          go_ret
          exact ⟨_, _, rfl, by rw [HL.out]; exact hO3, hwr⟩
    · have HL := Lib.hid (tooM_no (l := l) (s := s) (t := t) (fun k => tr k.2))
      clear tc
      go_enter Try.func14, Try.ntmps14
      go_wp2_with fail
      rw [← hW]
      clear hW k0 k1 k2
      refine (icyl_yes (Rd.below h hB) TC.out).mono ?_
      rintro e w1 ⟨rfl, hb1⟩
      have g1 := bstep hB hb1
      clear hX hB hb1
      go_wp2_with fail
      refine (trest_no tr _).mono ?_
      rintro e w2 ⟨rfl, rfl⟩
      go_wp2
      go_ret
      exact ⟨_, [], rfl, by rw [HL.out]; exact HNIL.out _, g1⟩
  · have TC := Lib.hid (show cylB s t l = false by simpa using tc)
    have HL := Lib.hid (tooM_no (l := l) (s := s) (t := t) (r := r) (fun k => tc k.1))
    clear tc
    go_enter Try.func14, Try.ntmps14
    go_wp2_with fail
    rw [← hW]
    clear hW k0 k1 k2
    refine (icyl_no (Rd.below h hB) TC.out).mono ?_
    rintro e w1 ⟨rfl, hb1⟩
    have g1 := bstep hB hb1
    clear hX hB hb1
    go_wp2
    go_ret
    exact ⟨_, [], rfl, by rw [HL.out]; exact HNIL.out _, g1⟩

set_option maxHeartbeats 2000000 in
set_option maxRecDepth 100000 in
theorem iplay_any {w : World} {v : Value} {l : List (Int × Int)} (s t r : Int) (h : Rd2 w v l) :
    Calls Try.prog 16 #[.agg #[.int .i64 s, .int .i64 t, v], .int .i64 r] w fun e w' => e = .returned (.bool (playM s t l r)) ∧ Below w.heap.size w w' := by
  obtain ⟨a1, cap1, rfl⟩ := Rd.slice h
  obtain ⟨W, hW⟩ : ∃ W, W = w.alloc (.cells #[.int .i64 s, .int .i64 t, .slice a1 l.length cap1] 26) := ⟨_, rfl⟩
  have hX : Box W w.heap.size s t (.slice a1 l.length cap1) := by rw [hW]; exact box_new _ _ _ _ _
  have hB : Below w.heap.size w W := by rw [hW]; exact (Below.refl _ _).alloc (Nat.le_refl _) _
  obtain ⟨-, k0, k1, k2⟩ := id hX
  rw [hW] at k0 k1 k2
  by_cases tc : cylB s t l = true
  · have TC := Lib.hid tc
    by_cases tr : 1 ≤ r ∧ r ≤ 96
    · have HL := Lib.hid (playM_yes tc tr)
      have HM := Lib.hid (tooM_len (s := s) (t := t) (r := r) (l := l))
      clear tc
      go_enter Try.func16, Try.ntmps16
      go_wp2_with fail
      rw [← hW]
      clear hW k0 k1 k2
      refine (icyl_yes (Rd.below h hB) TC.out).mono ?_
      rintro e w1 ⟨rfl, hb1⟩
      have hX1 := hX.below hb1
      have g1 := bstep hB hb1
      clear hX hB hb1
      obtain ⟨-, k0, k1, k2⟩ := id hX1
      go_wp2_with fail
      refine (trest_yes tr _).mono ?_
      rintro e w2 ⟨rfl, rfl⟩
      go_wp2_with fail
      clear k0 k1 k2
      refine (itoo_any s t r (Rd.below h g1)).mono ?_
      rintro e w3 ⟨v3, us, rfl, hO, hb3⟩
      obtain ⟨a3, c3, rfl⟩ := hO.rd.slice
      have g3 := bstep g1 hb3
      clear hO hb3 g1 hX1
      generalize tooM s t l r = ll at *
      by_cases hz : ll = []
      · subst hz
        go_wp2
        go_ret
        exact ⟨by rw [HL.out]; rfl, g3⟩
      · have hne : ¬ ll.length = 0 := fun e => hz (List.length_eq_zero_iff.1 e)
        have hne' : ((ll.length : Int) == 0) = false := by rw [beq_eq_false_iff_ne]; omega
        have HL2 := Lib.hid (show playM s t l r = false by rw [HL.out]; cases ll with | nil => exact absurd rfl hz | cons a b => rfl)
        have hm := HM.out
        clear hz
        go_wp2
        go_ret
        exact ⟨by rw [HL2.out]; rfl, g3⟩
    · have HL := Lib.hid (playM_no (s := s) (t := t) (l := l) (r := r) (fun k => tr k.2))
      clear tc
      go_enter Try.func16, Try.ntmps16
      go_wp2_with fail
      rw [← hW]
      clear hW k0 k1 k2
      refine (icyl_yes (Rd.below h hB) TC.out).mono ?_
      rintro e w1 ⟨rfl, hb1⟩
      have g1 := bstep hB hb1
      clear hX hB hb1
      go_wp2_with fail
      refine (trest_no tr _).mono ?_
      rintro e w2 ⟨rfl, rfl⟩
      go_wp2
      go_ret
      exact ⟨by rw [HL.out]; rfl, g1⟩
  · have TC := Lib.hid (show cylB s t l = false by simpa using tc)
    have HL := Lib.hid (playM_no (s := s) (t := t) (l := l) (r := r) (fun k => tc k.1))
    clear tc
    go_enter Try.func16, Try.ntmps16
    go_wp2_with fail
    rw [← hW]
    clear hW k0 k1 k2
    refine (icyl_no (Rd.below h hB) TC.out).mono ?_
    rintro e w1 ⟨rfl, hb1⟩
    have g1 := bstep hB hb1
    clear hX hB hb1
    go_wp2
    go_ret
    exact ⟨by rw [HL.out]; rfl, g1⟩
end Go.Proofs.Ytpdjceafjdlknaa
