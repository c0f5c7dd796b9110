/- The model's drawn combs: l04Comb, DrawComb. No condition. -/
import Derived.Test.YtkciolegfonabaaDrawC
import Derived.Test.YtkciolegfonabaaTuneDraw
import Derived.Test.YtkciolegfonabaaCombSpec
namespace Go.Proofs.Ytkciolegfonabaa
open Go.ChangeShapes Go.WideShapes Go.ChangeAt Go.RowKit

/-- Pitches that never fall, the last ones at most a. -/
def CombGood (l : List Int) (a : Int) : Prop := ∀ (i : Nat) (p : Int), l[i]? = some p → (8 ≤ p ∧ p ≤ a) ∧ ∀ (j : Nat) (q : Int), i = j + 1 → l[j]? = some q → q ≤ p
theorem combGood_next {l : List Int} {a d : Int} (h : CombGood l a) (h8 : 8 ≤ a) (hd : 0 ≤ d) : CombGood (l ++ [a]) (a + d) := fun i p hp => by
  by_cases hi : i < l.length
  · rw [List.getElem?_append_left hi] at hp
    refine ⟨by have := (h i p hp).1; omega, fun j q hj hq => ?_⟩
    rw [List.getElem?_append_left (by omega)] at hq
    exact (h i p hp).2 j q hj hq
  · have hil : i = l.length := by
      have := (List.getElem?_eq_some_iff.1 hp).1
      rw [List.length_append, List.length_singleton] at this; omega
    subst hil
    rw [List.getElem?_append_right (Nat.le_refl _), Nat.sub_self] at hp
    obtain rfl : a = p := by simpa using hp
    refine ⟨by omega, fun j q hj hq => ?_⟩
    rw [List.getElem?_append_left (by omega)] at hq
    exact (h j q hq).1.2
theorem combGood_comb {l : List Int} {a : Int} (h : CombGood l a) (ha : a ≤ 60) (h1 : 1 ≤ l.length) (h2 : l.length ≤ 24) : combB l = true :=
  combB_true.2 ⟨⟨h1, h2⟩, fun k p hp => ⟨by have := (h k p hp).1; omega, (h k p hp).2⟩⟩

set_option maxHeartbeats 2000000 in
set_option maxRecDepth 100000 in
theorem l04comb_any {B c : Nat} {w : World} (hC : Cur 89 B w c) :
    Calls Try.prog 67 #[.pointer (some ⟨c, 0, none⟩)] w fun e w' => ∃ l v, combB l = true ∧ e = .returned v ∧ w'.ownsRow w.heap.size 3 1 v l.length (l.map intV) ∧ w.grownBy w' (some c) ∧ Cur 89 B w' c := by
  obtain ⟨i0, hi, hz0, hz1, hz2⟩ := info_parts infoInt
  have hcl := hC.lt
  go_enter Try.func67, Try.ntmps67
  go_wp2_with fail
  have hCa : Cur 89 B (w.alloc (.cells #[] 3)) c := hC.kept (only_alloc (World.grownBy.refl _ _) _) (row := none) (by intro r hr; cases hr)
  have hoa : (w.alloc (.cells #[] 3)).ownsRow w.heap.size 3 1 (.slice (some ⟨w.heap.size, 0, none⟩) 0 0) 0 [] := World.ownsRow_made w #[] 0 (Nat.le_refl _) (by simp) rfl
  have hga : w.grownBy (w.alloc (.cells #[] 3)) (some c) := only_alloc (World.grownBy.refl _ _) _
  have hne : w.heap.size ≠ c := by omega
  refine (below_any 5 (by omega) (by omega) hCa).mono ?_
  rintro e w1 ⟨a0, ha0, ha1, rfl, hg1, hC1⟩
  have ho1 := hoa.kept hg1 (Or.inr (by simp [Value.ownBlock]; exact hne))
  have hgt := only_trans hga hg1
  clear hCa hoa hga hg1
  go_wp2_with fail
  refine (below_any 12 (by omega) (by omega) hC1).mono ?_
  rintro e w2 ⟨n, hn0, hn1, rfl, hg2, hC2⟩
  obtain ⟨m, rfl⟩ := Int.eq_ofNat_of_zero_le hn0
  have ho2 := ho1.kept hg2 (Or.inr (by simp [Value.ownBlock]; exact hne))
  have hgt2 := only_trans hgt hg2
  clear ho1 hgt hg2 hC1
  go_wp2_with fail
  go_loopw [3, 4, 6] (fun v3 v4 v6 wr => ∃ (k : Nat) (l : List Int) (a : Int), k ≤ m + 1 ∧ Hid (l.length = k) ∧ Hid (CombGood l a) ∧ 8 ≤ a ∧ a ≤ 12 + 3 * (k : Int) ∧ v4 = .int .i64 a ∧ v6 = .int .i64 (k : Int) ∧ wr.ownsRow w.heap.size 3 1 v3 k (l.map intV) ∧ Cur 89 B wr c ∧ w.grownBy wr (some c)) (fun _ _ v6 _ => m + 1 - (intOf v6).toNat)
  case atStart => exact ⟨0, [], 8 + a0, Nat.zero_le _, Lib.hid rfl, Lib.hid (fun i p hp => by simp at hp), by omega, by simp; omega, rfl, rfl, ho2, hC2, hgt2⟩
  case round =>
    obtain ⟨k, l, a, hk, HLK, HG, ha8, hak, rfl, rfl, hown, hCr, hgr⟩ := hrel
    clear ho2 hC2 hgt2
    by_cases hlt : k < m + 1
    · have hsz : w.heap.size ≤ wr.heap.size := hgr.size
      go_wp2_with (at_builtin; refine wpList_append_own _ rfl _ _ 40 rfl w.heap.size 3 i0 (.int .i64 0) 1 8 Try.underlying40 hi hz0 hz1 hz2 rfl (by decide) _ k (l.map intV) rfl (hown.alloc _) ⟨wr.heap.size, 0, none⟩ 1 1 [.int .i64 a] rfl rfl ?c1 ?c2 ?c3 ?c4 ?c5 ?_)
      case c1 => first | exact World.news_of_block (heap_alloc_new wr _) | exact fun _ _ h => h
      case c2 => simp [Value.oneCell']
      case c3 => unfold maxLen; omega
      case c4 => omega
      case c5 => simp; omega
      intro v' w4 hown4 hgrow _
      have hgr4 : w.grownBy w4 (some c) := grow_own (only_alloc hgr _) hgrow (fun j hj => (hown.lt j hj).1)
      have hC4 : Cur 89 B w4 c := by
        have h1 : Cur 89 B (wr.alloc (.cells #[.int .i64 a] 3)) c := hCr.kept (only_alloc (World.grownBy.refl _ _) _) (row := none) (by intro r hr; cases hr)
        exact h1.kept hgrow (fun r hr => by
          have h2 := (hown.lt r hr).1
          have h3 := hCr.1
          exact ⟨by omega, by omega⟩)
      have hown5 : w4.ownsRow w.heap.size 3 1 v' (k + 1) ((l ++ [a]).map intV) := by rw [List.map_append]; exact hown4
      have HL1 : Hid ((l ++ [a]).length = k + 1) := Lib.hid (by rw [List.length_append, HLK.out]; rfl)
      clear hown4 hgrow hown hCr hgr hsz
      go_wp2_with fail
      refine (pickint_new [0, 1, 1, 2, 3] #[.int .i64 0, .int .i64 1, .int .i64 1, .int .i64 2, .int .i64 3] rfl 5 rfl (by omega) (by omega) 3 0 3 (fun x hx => by simp at hx; omega) hC4).mono ?_
      rintro e w5 ⟨d, hd0, hd3, rfl, hg5, hC5⟩
      have ho6 := hown5.kept hg5 (apartC hown5 hcl)
      have hgr6 := only_trans hgr4 hg5
      have HG2 := Lib.hid (combGood_next HG.out ha8 hd0)
      clear hC4 hown5 hgr4 hg5
      go_wp2
      go_roundw
      case rel => exact ⟨k + 1, _, a + d, by omega, HL1, HG2, by omega, by omega, rfl, by go_num, ho6, hC5, hgr6⟩
      case measure => simp [intOf]; omega
    · have hkm : k = m + 1 := by omega
      have HT := Lib.hid (combGood_comb HG.out (by omega) (by rw [HLK.out]; omega) (by rw [HLK.out]; omega))
      have hown' : Hid (wr.ownsRow w.heap.size 3 1 u3 l.length (l.map intV)) := Lib.hid (by rw [HLK.out]; exact hown)
      go_wp2
      go_ret
      exact ⟨_, _, HT.out, rfl, hown'.out, hgr, hCr⟩

theorem drawcomb_any {w : World} {v : Value} {n : Nat} (hC : Code w w.heap.size v n) :
    Calls Try.prog 28 #[v] w fun e w' => ∃ l t v1 v2, combB l = true ∧ TuneDrawn t ∧ e = .returned (.tuple #[v1, v2]) ∧ w'.ownsRow w.heap.size 3 1 v1 l.length (l.map intV) ∧ w'.ownsRow w.heap.size 35 2 v2 t.length (flat2 t) ∧ Below w.heap.size w w' := by
  go_enter Try.func28, Try.ntmps28
  go_wp2_with fail
  refine (new_any hC).mono ?_
  rintro e w1 ⟨c, rfl, hb1, hC1⟩
  go_wp2_with fail
  refine (l04comb_any hC1).mono ?_
  rintro e w2 ⟨l, v1, hl, rfl, ho2, hg2, hC2⟩
  have hb2 := hb1.grown hg2 hb1.size (fun k hk => by injection hk with e; rw [← e]; exact hC1.1)
  go_wp2_with fail
  refine (l02tune_any hC2).mono ?_
  rintro e w3 ⟨t, v2, ht, rfl, ho3, hg3⟩
  have hb3 := hb2.grown hg3 hb2.size (fun k hk => by injection hk with e; rw [← e]; exact hC1.1)
  have ho4 := ownS_mono (ho2.kept hg3 (apartC ho2 hC1.lt)) hb1.size
  have ho5 := ownS_mono ho3 hb2.size
  go_wp2
  go_ret2
  exact ⟨l, t, v1, v2, hl, ht, rfl, ho4, ho5, hb3⟩
end Go.Proofs.Ytkciolegfonabaa
