/- The contracts of the program's SortNotes: slices.Clone, slices.SortFunc, slices.Compact at rows of notes. No condition. -/
import Derived.Test.YtcbdoldcdgaooaaRowLaws
import Derived.Test.YtcbdoldcdgaooaaSortShelf
namespace Go.Proofs.Ytcbdoldcdgaooaa
open Go.ChangeShapes Go.WideShapes Go.ChangeAt Go.RowKit

set_option maxHeartbeats 1000000 in
theorem clone_any {w : World} {v : Value} {l : List (Int × Int)} (h : Rd2 w v l) (hl : l.length ≤ 1048576) :
    Calls Try.prog 145 #[v] w (NewNotes w l) := by
  obtain ⟨i0, hi, hz0, hz1, hz2⟩ := info_parts infoNote
  have HO := Lib.hid (flat2_one l)
  have hown0 := World.ownsRow_made (e := 41) (size := 2) w #[] 0 (Nat.le_refl _) (by simp) rfl
  have hb0 : Below w.heap.size w (w.alloc (.cells #[] 41)) := (Below.refl _ _).alloc (Nat.le_refl _) _
  have HF := Lib.hid (flat2_length l)
  have q : ∀ (w : World) (a : Option Addr) (n c n' c' : Nat), (binOp .eql 42 (.slice a n c) (.slice none n' c')).run Try.prog w = .ok (.bool a.isNone) w := fun w a n c n' c' => Lib.run_eql_slice_nil w _ _ a n c n' c' Try.underlying42
  by_cases h0 : l.length = 0
  · obtain rfl : l = [] := List.length_eq_zero_iff.1 h0
    obtain ⟨a, cap, rfl⟩ := Rd.slice h
    clear h0
    cases a
    · go_enter Try.func145, Try.ntmps145
      go_wp2
      go_ret
      exact ⟨_, rfl, World.ownsRow_nil _ _ _ _, Below.refl _ _⟩
    · rename_i ad
      go_enter Try.func145, Try.ntmps145
      go_wp2_with (at_builtin; refine wpList_append_own _ rfl _ _ 42 rfl w.heap.size 41 i0 _ 2 16 Try.underlying42 hi hz0 hz1 hz2 rfl (by decide) _ 0 [] rfl hown0 ad 0 cap [] rfl rfl (fun j u hu => by simp at hu) (fun u hu => by simp at hu) (by unfold maxLen; omega) (by omega) (by simp) ?_)
      intro v' w1 hown hgrow _
      go_wp2
      go_ret
      exact ⟨_, rfl, (show w1.ownsRow w.heap.size 41 2 v' 0 [] from by simpa using hown), hb0.grown hgrow (by simp) (fun j hj => (hown0.lt j hj).1)⟩
  · obtain ⟨b, off, cap, rfl, hc⟩ := Rd.pos h (by omega)
    go_enter Try.func145, Try.ntmps145
    have HC := Lib.hid hc; clear hc
    go_wp2_with (at_builtin; refine wpList_append_own _ rfl _ _ 42 rfl w.heap.size 41 i0 _ 2 16 Try.underlying42 hi hz0 hz1 hz2 rfl (by decide) _ 0 [] rfl hown0 ⟨b, off, none⟩ l.length cap (flat2 l) rfl ?c1 ?c2 ?c3 ?c4 ?c5 ?c6 ?_)
    case c1 => exact HF.out
    case c2 =>
      intro c u hu
      have hlt : c < (flat2 l).length := (List.getElem?_eq_some_iff.1 hu).1
      rw [add_plain, hb0.cell (World.block_lt_of_cell? w _ ((HC.out c (by have := HF.out; omega)).trans hu)), HC.out c (by have := HF.out; omega)]
      exact hu
    case c3 => exact HO.out
    case c4 => unfold maxLen; omega
    case c5 => omega
    case c6 => simp
    intro v' w1 hown hgrow _
    go_wp2
    go_ret
    refine ⟨_, rfl, by simpa using hown, hb0.grown hgrow (by simp) (fun j hj => (hown0.lt j hj).1)⟩

theorem lt_eq : ltOf cmpN = lessB := by
  funext x y
  unfold ltOf
  by_cases h : lessB x y = true
  · rw [h]; exact decide_eq_true (cmpN_lt.2 h)
  · have h' : lessB x y = false := by simpa using h
    rw [h']; exact decide_eq_false (fun k => h (cmpN_lt.1 k))
theorem swoN : Sort.SWO (ltOf cmpN) where
  irrefl x := by rw [lt_eq]; exact less_irrefl x
  trans x y z h k := by rw [lt_eq] at *; exact less_trans h k
  ntrans x y z h k := by rw [lt_eq] at *; rw [← Bool.not_eq_true, less_iff] at *; omega
theorem totN : ∀ x y, ltOf cmpN x y = false → ltOf cmpN y x = false → x = y := by
  rw [lt_eq]; intro x y h k; exact less_total h k

/-- The sort of a row of the call's own. -/
theorem sortf_any {w : World} {B : Nat} {v : Value} {o : List (Int × Int)} (hown : w.ownsRow B 41 2 v o.length (flat2 o)) (h40 : o.length ≤ 1048576) :
    Calls Try.prog 146 #[v, .func (.func 114) #[] #[]] w fun e w' => e = .returned (.tuple #[]) ∧ w.grownBy w' v.ownBlock ∧ w'.ownsRow B 41 2 v o.length (flat2 (mergeM o)) := by
  by_cases h0 : o.length = 0
  · obtain rfl : o = [] := List.length_eq_zero_iff.1 h0
    obtain ⟨a, cap, rfl⟩ := ownS_slice hown
    have hm : mergeM [] = [] := List.mergeSort_nil
    rw [hm]
    exact (AnyF.slices_SortFunc_none { Try.laysSort with } a cap _ w).mono fun e w' ⟨he, hw⟩ => ⟨he, by rw [hw]; exact World.grownBy.refl _ _, by rw [hw]; exact hown⟩
  · obtain ⟨g, cap, rfl, hB, h1, h2⟩ := ownS_pos hown (by omega)
    have hlt : g < w.heap.size := (hown.lt g rfl).2
    have hm := own_len hown
    unfold maxLen at hm h2
    have eg : ∀ args w, (callFunc 114 args).run Try.prog w = .ok (.enter 114 args) w := enters_of Try.func114 (by kernel_rfl) rfl
    have hcmp : CmpLays Try.prog 114 #[] encP 2 cmpN g 0 o.toArray.size w := fun _ _ _ _ x y => comp_any x y _
    have hcon := AnyQ.slices_SortFunc_total Try.laysSort 2 Try.isAgg41 Try.sizeOf41 encP encP_len encP_one cmpN swoN 114 #[] g 0 cap o.toArray w eg hcmp (holdsK_own hown) hlt (by simp; omega) totN
    refine hcon.mono fun e w' ⟨he, n, os, hw⟩ => ⟨he, ?_⟩
    have hl : ((o.mergeSort fun x y => !ltOf cmpN y x)) = mergeM o := by unfold mergeM; rw [lt_eq]
    rw [hw]
    simp only [hl]
    obtain ⟨k1, k2⟩ := own_sortedK (k := n) (os := os) (mergeM_len o) hown
    exact ⟨k2, k1⟩
theorem flat2_set (l : List (Int × Int)) (k : Nat) (q : Int × Int) : ((flat2 l).set (k * 2) (.int .i64 q.1)).set (k * 2 + 1) (.int .i64 q.2) = flat2 (l.set k q) := by
  induction l generalizing k with
  | nil => simp [flat2]
  | cons p l ih =>
    have e : ∀ (p : Int × Int) (l : List (Int × Int)), flat2 (p :: l) = intV p.1 :: intV p.2 :: flat2 l := fun p l => by simp [flat2]
    cases k with
    | zero => rw [e]; show intV q.1 :: intV q.2 :: flat2 l = _; rw [List.set_cons_zero, e]
    | succ k =>
      rw [e, List.set_cons_succ, e, ← ih k, show (k + 1) * 2 = k * 2 + 1 + 1 by omega]
      rfl
theorem set_app (D s : List (Int × Int)) (q : Int × Int) (h : D.length < s.length) : (D ++ s.drop D.length).set D.length q = (D ++ [q]) ++ s.drop (D.length + 1) := by
  rw [List.set_append_right _ _ (Nat.le_refl _), Nat.sub_self, List.drop_eq_getElem_cons h, List.set_cons_zero, List.append_assoc]; rfl
theorem dedM_take' {l : List (Int × Int)} {k : Nat} {p q : Int × Int} (hk : 1 ≤ k) (hp : l[k - 1]? = some p) (hq : l[k]? = some q) : dedM (l.take (k + 1)) = dedM (l.take k) ++ (if q = p then [] else [q]) := by
  obtain ⟨j, rfl⟩ : ∃ j, k = j + 1 := ⟨k - 1, by omega⟩
  exact dedM_take (by simpa using hp) hq
theorem at_app {D s : List (Int × Int)} {j : Nat} (h : D.length ≤ j) : (D ++ s.drop D.length)[j]? = s[j]? := by
  rw [List.getElem?_append_right h, List.getElem?_drop]; congr 1; omega

set_option maxHeartbeats 4000000 in
set_option maxRecDepth 100000 in
theorem compact_any {w : World} {B : Nat} {v : Value} {s : List (Int × Int)} (hown : w.ownsRow B 41 2 v s.length (flat2 s)) (h40 : s.length ≤ 1048576) :
    Calls Try.prog 147 #[v] w fun e w' => ∃ v', e = .returned v' ∧ w'.ownsRow B 41 2 v' (dedM s).length (flat2 (dedM s)) ∧ w.grownBy w' v.ownBlock := by
  by_cases h2 : s.length < 2
  · have hd : dedM s = s := by
      match s, h2 with
      | [], _ => rfl
      | [x], _ => rfl
    rw [hd]
    obtain ⟨a, cap, rfl⟩ := ownS_slice hown
    clear hd
    go_enter Try.func147, Try.ntmps147
    go_wp2
    go_ret
    exact ⟨_, rfl, hown, World.grownBy.refl _ _⟩
  · obtain ⟨g, cap, rfl, hB, hc1, hc2⟩ := ownS_pos hown (by omega)
    unfold maxLen at hc2
    have hh2 : ¬ ((s.length : Int) < 2) := by omega
    go_enter Try.func147, Try.ntmps147
    go_wp2_with fail
    go_loopw [3] (fun v3 wr => ∃ k d : Nat, 1 ≤ k ∧ k ≤ s.length ∧ v3 = .int .i64 (k : Int) ∧ wr = w.drewN d ∧ Hid (dedM (s.take k) = s.take k)) (fun v3 _ => s.length - (intOf v3).toNat)
    case atStart =>
      refine ⟨1, 0, by omega, by omega, rfl, rfl, ?_⟩
      match s with
      | [] => exact Lib.hid rfl
      | x :: r => exact Lib.hid rfl
    case round =>
      obtain ⟨k, d, hk1, hk, rfl, rfl, HD⟩ := hrel
      have hownr : (w.drewN d).ownsRow B 41 2 (.slice (some ⟨g, 0, none⟩) s.length cap) s.length (flat2 s) := hown
      have hgr : w.grownBy (w.drewN d) (some g) := only_drewN (World.grownBy.refl _ _) d
      by_cases hlt : k < s.length
      · obtain ⟨p, hp⟩ : ∃ p, s[k - 1]? = some p := ⟨_, List.getElem?_eq_getElem (by omega)⟩
        obtain ⟨q, hq⟩ : ∃ q, s[k]? = some q := ⟨_, List.getElem?_eq_getElem hlt⟩
        have HT := Lib.hid (dedM_take' hk1 hp hq)
        obtain ⟨b1, o1, c1, hv1, x1, y1⟩ := Rd2.cells (Rd.of_own hown) hp
        obtain ⟨b2, o2, c2, hv2, x2, y2⟩ := Rd2.cells (Rd.of_own hown) hq
        simp only [Value.slice.injEq, true_and, Option.some.injEq, Addr.mk.injEq, and_true] at hv1 hv2
        obtain ⟨⟨rfl, rfl⟩, rfl⟩ := hv1
        obtain ⟨⟨rfl, rfl⟩, rfl⟩ := hv2
        rw [Nat.zero_add] at x1 y1 x2 y2
        have HQ := Lib.hid hq
        clear hp hq
        have hj1 : (0 : Int) ≤ (k : Int) - 1 := by omega
        have hj2 : (1 : Int) ≤ (k : Int) := by omega
        have hj3 : (k : Int) - 1 < (s.length : Int) := by omega
        have ej1 : IntKind.i64.wrap ((k : Int) - 1) = (k : Int) - 1 := IntWalk.i64_in _ (by omega)
        have ej2 : ((k : Int) - 1).toNat = k - 1 := by omega
        by_cases hqp : q = p
        · have he := fun W => eql_yes hqp W
          go_wp2_with fail
          go_quiet (fail)
          clear he ej1 ej2 hj1 hj3
          have hck : ¬ (cap = k) := by omega
          have HD2 : Hid (dedM (s.take (k + 1)) = s.take k) := Lib.hid (by rw [HT.out, if_pos hqp, List.append_nil, HD.out])
          have hgr1 : w.grownBy ((w.drewN d).drewN nq) (some g) := only_drewN hgr nq
          have hown1 : ((w.drewN d).drewN nq).ownsRow B 41 2 (.slice (some ⟨g, 0, none⟩) s.length cap) s.length (flat2 s) := hown
          clear hownr hgr x1 y1 x2 y2 HT
          generalize (w.drewN d).drewN nq = W1 at *
          clear hqp
          go_wp2_with fail
          obtain ⟨n2, hn2⟩ : ∃ n2, s.length - k = n2 := ⟨_, rfl⟩
          obtain ⟨c2, hc2'⟩ : ∃ c2, cap - k = c2 := ⟨_, rfl⟩
          rw [hn2, hc2']
          have hn2a : k + n2 ≤ s.length := by omega
          have hn2b : s.length ≤ k + n2 := by omega
          have hn2c : n2 ≤ 1048576 := by omega
          clear hn2 hc2'
          go_loopw [3, 5] (fun v3 v5 wr => ∃ (k2 : Nat) (D : List (Int × Int)), 1 ≤ k2 ∧ k + k2 ≤ s.length ∧ v5 = .int .i64 (k2 : Int) ∧ v3 = .int .i64 (D.length : Int) ∧ Hid (dedM (s.take (k + k2)) = D) ∧ D.length + 1 ≤ k + k2 ∧ w.grownBy wr (some g) ∧ wr.ownsRow B 41 2 (.slice (some ⟨g, 0, none⟩) s.length cap) s.length (flat2 (D ++ s.drop D.length))) (fun _ v5 _ => s.length - (intOf v5).toNat)
          case atStart =>
            have hl : (s.take k).length = k := by rw [List.length_take]; omega
            exact ⟨1, s.take k, by omega, by omega, rfl, by rw [hl], HD2, by omega, hgr1, by rw [hl, List.take_append_drop]; exact hown1⟩
          case round =>
            obtain ⟨k2, D, hk2, hkk, rfl, rfl, HDD, hDl, hgr2, hown2⟩ := hrel
            have hRl : (D ++ s.drop D.length).length = s.length := by rw [List.length_append, List.length_drop]; omega
            have hRd : Rd2 wr (.slice (some ⟨g, 0, none⟩) s.length cap) (D ++ s.drop D.length) := by unfold Rd2; rw [hRl]; exact Rd.of_own hown2
            clear hgr1 hown1
            by_cases hl2 : k + k2 < s.length
            · obtain ⟨p2, hp2⟩ : ∃ p, s[k + k2 - 1]? = some p := ⟨_, List.getElem?_eq_getElem (by omega)⟩
              obtain ⟨q2, hq2⟩ : ∃ q, s[k + k2]? = some q := ⟨_, List.getElem?_eq_getElem hl2⟩
              have HT2 := Lib.hid (dedM_take' (by omega) hp2 hq2)
              obtain ⟨b1, o1, c1, hv1, x1, y1⟩ := Rd2.cells hRd ((at_app (by omega)).trans hp2)
              obtain ⟨b2, o2, c2, hv2, x2, y2⟩ := Rd2.cells hRd ((at_app (by omega)).trans hq2)
              simp only [Value.slice.injEq, true_and, Option.some.injEq, Addr.mk.injEq, and_true] at hv1 hv2
              obtain ⟨⟨rfl, rfl⟩, hz1, rfl⟩ := hv1
              obtain ⟨⟨rfl, rfl⟩, hz2, rfl⟩ := hv2
              clear hz1 hz2
              rw [Nat.zero_add, show (k + k2 - 1) * 2 = k * 2 + (k2 - 1) * 2 by omega] at x1 y1
              rw [Nat.zero_add, show (k + k2) * 2 = k * 2 + k2 * 2 by omega] at x2 y2
              clear hp2 hq2 hRd
              have hj1 : (0 : Int) ≤ (k2 : Int) - 1 := by omega
              have hj2 : (1 : Int) ≤ (k2 : Int) := by omega
              have hj3 : (k2 : Int) - 1 < (n2 : Int) := by omega
              have hj5 : k2 < n2 := by omega
              have ej1 : IntKind.i64.wrap ((k2 : Int) - 1) = (k2 : Int) - 1 := IntWalk.i64_in _ (by omega)
              have ej2 : ((k2 : Int) - 1).toNat = k2 - 1 := by omega
              by_cases hqp : q2 = p2
              · have he := fun W => neq_no hqp W
                go_wp2_with fail
                go_quiet (fail)
                clear he ej1 ej2 hj1 hj3
                have HD3 : Hid (dedM (s.take (k + (k2 + 1))) = D) := Lib.hid (by rw [← Nat.add_assoc, HT2.out, if_pos hqp, List.append_nil, HDD.out])
                clear hqp x1 y1 x2 y2
                go_wp2
                go_roundw
                case rel => exact ⟨k2 + 1, D, by omega, by omega, by go_num, rfl, HD3, by omega, only_drewN hgr2 nq, hown2⟩
                case measure => simp [intOf]; omega
              · have he := fun W => neq_yes hqp W
                go_wp2_with fail
                go_quiet (fail)
                clear he ej1 ej2 hj1 hj3
                have HD3 : Hid (dedM (s.take (k + (k2 + 1))) = D ++ [q2]) := Lib.hid (by rw [← Nat.add_assoc, HT2.out, if_neg hqp, HDD.out])
                have hgr3 : w.grownBy (wr.drewN nq) (some g) := only_drewN hgr2 nq
                have hown3 : (wr.drewN nq).ownsRow B 41 2 (.slice (some ⟨g, 0, none⟩) s.length cap) s.length (flat2 (D ++ s.drop D.length)) := hown2
                have x3 : (wr.drewN nq).cell? ⟨g, k * 2 + k2 * 2, none⟩ = some (.int .i64 q2.1) := x2
                have y3 : (wr.drewN nq).cell? ⟨g, k * 2 + k2 * 2 + 1, none⟩ = some (.int .i64 q2.2) := y2
                clear hgr2 hown2 x1 y1 x2 y2 hqp
                generalize wr.drewN nq = W2 at *
                have hDs : D.length < s.length := by omega
                obtain ⟨u0, hu0⟩ : ∃ u, (flat2 (D ++ s.drop D.length))[D.length * 2]? = some u := ⟨_, List.getElem?_eq_getElem (by rw [flat2_length, hRl]; omega)⟩
                obtain ⟨u1, hu1⟩ : ∃ u, (flat2 (D ++ s.drop D.length))[D.length * 2 + 1]? = some u := ⟨_, List.getElem?_eq_getElem (by rw [flat2_length, hRl]; omega)⟩
                have hc0 : W2.cell? ⟨g, D.length * 2, none⟩ = some u0 := by rw [hown3.cellAt _ (by omega)]; exact hu0
                have hc1 : W2.cell? ⟨g, D.length * 2 + 1, none⟩ = some u1 := by rw [hown3.cellAt _ (by omega)]; exact hu1
                have hf0 := hown3.frozenAt (D.length * 2)
                have hf1 := hown3.frozenAt (D.length * 2 + 1)
                have hst1 := hown3.stored (D.length * 2) (.int .i64 q2.1)
                have hst2 := hst1.1.stored (D.length * 2 + 1) (.int .i64 q2.2)
                have hgr4 : w.grownBy ((W2.setCell ⟨g, D.length * 2, none⟩ (.int .i64 q2.1)).setCell ⟨g, D.length * 2 + 1, none⟩ (.int .i64 q2.2)) (some g) := only_trans (only_trans hgr3 hst1.2) hst2.2
                have HS : Hid (((W2.setCell ⟨g, D.length * 2, none⟩ (.int .i64 q2.1)).setCell ⟨g, D.length * 2 + 1, none⟩ (.int .i64 q2.2)).ownsRow B 41 2 (.slice (some ⟨g, 0, none⟩) s.length cap) s.length (flat2 ((D ++ [q2]) ++ s.drop (D ++ [q2]).length))) := Lib.hid (by
                  have h := hst2.1
                  rw [flat2_set, set_app D s q2 hDs] at h
                  rw [List.length_append, List.length_singleton]; exact h)
                have HG := Lib.hid hgr4
                have hbc : D.length < cap := by omega
                have HR := Lib.hid hRl
                have HL : Hid ((D ++ [q2]).length = D.length + 1) := Lib.hid (by simp)
                clear hown3 hst1 hst2 hgr4 hgr3 hu0 hu1 hRl HDD HT2 HR
                generalize D.length = m at *
                go_wp2
                go_roundw
                case rel => exact ⟨k2 + 1, D ++ [q2], by omega, by omega, by go_num, by rw [HL.out]; go_num, HD3, by rw [HL.out]; omega, HG.out, HS.out⟩
                case measure => simp [intOf]; omega
            · have hkn : k + k2 = s.length := by omega
              have hnl : ¬ k2 < n2 := by omega
              have HE : Hid (dedM s = D) := Lib.hid (by have := HDD.out; rw [hkn, List.take_length] at this; exact this)
              obtain ⟨W3, hcl, hown3, hgr3⟩ := run_clear_own (s := 2) (m := D.length) Try.underlying42 Try.zeroValue41 rfl (by decide) hown2 (by omega)
              have hcD : ¬ (cap = D.length) := by omega
              have hDs : D.length ≤ s.length := by omega
              have HO3 : Hid (W3.ownsRow B 41 2 (.slice (some ⟨g, 0, none⟩) D.length cap) D.length (flat2 D)) := Lib.hid (by
                rw [flat2_append, List.take_append_of_le_length (by rw [flat2_length]; exact Nat.le_refl _), List.take_of_length_le (by rw [flat2_length]; exact Nat.le_refl _)] at hown3
                exact hown3)
              clear hown3 hRd hkn
              go_wp2
              go_ret
              exact ⟨_, rfl, by rw [HE.out]; exact HO3.out, only_trans hgr2 hgr3⟩
        · have he := fun W => eql_no hqp W
          go_wp2_with fail
          go_quiet (fail)
          clear he ej1 ej2 hj1 hj3
          have HD2 : Hid (dedM (s.take (k + 1)) = s.take (k + 1)) := Lib.hid (by rw [HT.out, if_neg hqp, HD.out, List.take_add_one, HQ.out]; rfl)
          go_wp2
          go_roundw
          case rel => exact ⟨k + 1, d + nq, by omega, by omega, by go_num, rfl, HD2⟩
          case measure => simp [intOf]; omega
      · obtain rfl : k = s.length := by omega
        have hfull : s.take s.length = s := List.take_length
        have HE : Hid (dedM s = s) := Lib.hid (by have := HD.out; rw [hfull] at this; exact this)
        clear hfull
        go_wp2
        go_ret
        exact ⟨_, rfl, by rw [HE.out]; exact hown, hgr⟩
/-- The sort and the compaction of a copy of a readable row. -/
theorem once_any {w : World} {v : Value} {l : List (Int × Int)} (h : Rd2 w v l) (hl : l.length ≤ 1048576) :
    Calls Try.prog 127 #[v] w (NewNotes w (dedM (mergeM l))) := by
  obtain ⟨a1, cap1, rfl⟩ := Rd.slice h
  go_enter Try.func127, Try.ntmps127
  go_wp2_with fail
  refine (clone_any h hl).mono ?_
  rintro e w1 ⟨v1, rfl, ho1, hb1⟩
  go_wp2_with fail
  refine (sortf_any ho1 hl).mono ?_
  rintro e w2 ⟨rfl, hg2, ho2⟩
  have hb2 := hb1.grown hg2 hb1.size (fun k hk => (ho1.lt k hk).1)
  have ho2' : w2.ownsRow w.heap.size 41 2 v1 (mergeM l).length (flat2 (mergeM l)) := by rw [mergeM_len]; exact ho2
  have hml : (mergeM l).length ≤ 1048576 := by rw [mergeM_len]; exact hl
  clear hg2 ho2 hb1
  go_wp2_with fail
  refine (compact_any ho2' hml).mono ?_
  rintro e w3 ⟨v3, rfl, ho3, hg3⟩
  have hb3 := hb2.grown hg3 hb2.size (fun k hk => (ho2'.lt k hk).1)
  go_wp2
  go_ret
  exact ⟨v3, rfl, ho3, hb3⟩

end Go.Proofs.Ytcbdoldcdgaooaa
