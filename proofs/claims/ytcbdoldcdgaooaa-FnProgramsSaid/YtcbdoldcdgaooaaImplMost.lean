/- The contracts of the program's nextSet and MostTunes (a goto goes on with the next set). No condition. Made by gen_most.py. -/
import Derived.Test.YtcbdoldcdgaooaaImplNeeds
import Derived.Test.YtcbdoldcdgaooaaLexMath
import Derived.Test.YtcbdoldcdgaooaaIntRows
import Derived.ScopeJumps
import Derived.WalkMore
namespace Go.Proofs.Ytcbdoldcdgaooaa
open Go.ChangeShapes Go.WideShapes Go.ChangeAt Go.RowKit

/-! ### a scope with one label, and what holds there with what is left -/
theorem least_of {p : Nat → Prop} (h : ∃ m, p m) : ∃ m, p m ∧ ∀ k, p k → m ≤ k := by
  obtain ⟨m, hm⟩ := h
  induction m using Nat.strongRecOn with
  | _ m ih =>
    by_cases q : ∃ k, k < m ∧ p k
    · obtain ⟨k, hk, hp⟩ := q
      exact ih k hk hp
    · exact ⟨m, hm, fun k hp => Nat.le_of_not_lt fun hk => q ⟨k, hk, hp⟩⟩
open Classical in
noncomputable def leftAt (J : Nat → Act → World → Prop) (a : Act) (w : World) : Nat := if h : ∃ m, J m a w then Classical.choose (least_of h) else 0
theorem leftAt_is {J : Nat → Act → World → Prop} {a : Act} {w : World} (h : ∃ m, J m a w) : J (leftAt J a w) a w := by
  unfold leftAt; rw [dif_pos h]; exact (Classical.choose_spec (least_of h)).1
theorem leftAt_le {J : Nat → Act → World → Prop} {a : Act} {w : World} {m : Nat} (h : J m a w) : leftAt J a w ≤ m := by
  have h' : ∃ m, J m a w := ⟨m, h⟩
  unfold leftAt; rw [dif_pos h']; exact (Classical.choose_spec (least_of h')).2 m h
theorem scope_back {P : Program} {a : Act} {w : World} {Q : Exit → Act → World → Prop} {c R : Go.Code} (l : Nat) (J : Nat → Act → World → Prop) (hf : findLabel c l = some (.seq .skip R))
    (pass : ∀ m a w, J m a w → R.wp P (Exit.jump l (fun a' w' => ∃ m', m' < m ∧ J m' a' w') Q) a w)
    (first : (∀ m a w, J m a w → R.wp P (Exit.jump l (fun a' w' => ∃ m', J m' a' w') Q) a w) → c.wp P (Exit.jump l (fun a' w' => ∃ m', J m' a' w') Q) a w) : (Go.Code.scope c).wp P Q a w := by
  refine wp_scope_jumps l (fun a' w' => ∃ m', J m' a' w') (leftAt J) hf (first fun m a w h => wp_mono (pass m a w h) fun e a' w' hq => ?_) fun a w h => ?_
  · cases e <;> first | exact hq | (obtain ⟨h1, m', h2, h3⟩ := hq; exact ⟨h1, m', h3⟩)
  · refine wp_seq (wp_skip ?_)
    refine wp_mono (pass _ a w (leftAt_is h)) fun e a' w' hq => ?_
    cases e <;> first | exact hq | (obtain ⟨h1, m', h2, h3⟩ := hq; exact ⟨h1, ⟨m', h3⟩, Nat.lt_of_le_of_lt (leftAt_le h3) h2⟩)

/-! ### the next set -/
theorem snoc_cases (s : List Int) : s = [] ∨ ∃ i x, s = i ++ [x] := by
  rcases List.eq_nil_or_concat s with h | ⟨i, x, h⟩
  · exact Or.inl h
  · exact Or.inr ⟨i, x, by rw [h, List.concat_eq_append]⟩
theorem nextL_more' {n : Nat} {s : List Int} {x : Int} (hx : s[s.length - 1]? = some x) (h : x + 1 < (n : Int)) : nextL n s = some (s ++ [x + 1]) := by
  rcases snoc_cases s with rfl | ⟨i, y, rfl⟩
  · simp at hx
  · obtain rfl : y = x := by simpa using hx
    exact nextL_more h
theorem nextL_end' {n : Nat} {s : List Int} {x : Int} (hx : s[s.length - 1]? = some x) (h : ¬ x + 1 < (n : Int)) (h2 : s.length < 2) : nextL n s = none := by
  rcases snoc_cases s with rfl | ⟨i, y, rfl⟩
  · simp at hx
  · obtain rfl : y = x := by simpa using hx
    obtain rfl : i = [] := by rw [List.length_append, List.length_singleton] at h2; exact List.length_eq_zero_iff.1 (by omega)
    exact nextL_end h
theorem nextL_step' {n : Nat} {s : List Int} {x y : Int} (hx : s[s.length - 1]? = some x) (h : ¬ x + 1 < (n : Int)) (h2 : 2 ≤ s.length) (hy : (s.take (s.length - 1))[s.length - 1 - 1]? = some y) : nextL n s = some ((s.take (s.length - 1)).set (s.length - 1 - 1) (y + 1)) := by
  rcases snoc_cases s with rfl | ⟨i, x', rfl⟩
  · simp at hx
  · obtain rfl : x' = x := by simpa using hx
    rcases snoc_cases i with rfl | ⟨u, y', rfl⟩
    · simp at h2
    · have e1 : (u ++ [y'] ++ [x']).length - 1 = u.length + 1 := by simp
      have e2 : (u ++ [y'] ++ [x']).take (u.length + 1) = u ++ [y'] := by rw [List.take_append_of_le_length (by simp), List.take_of_length_le (by simp)]
      rw [e1, e2, Nat.add_sub_cancel] at hy ⊢
      obtain rfl : y' = y := by simpa using hy
      rw [nextL_step h]
      congr 1
      rw [List.set_append_right _ _ (Nat.le_refl _)]
      simp

set_option maxHeartbeats 4000000 in
set_option maxRecDepth 100000 in
theorem nextset_any {w : World} {v : Value} {s : List Int} (n : Nat) (hn : n ≤ 8) (hs : ∀ x ∈ s, 0 ≤ x ∧ x < 8) (hc : Rc1 w v s) (hl : s.length ≤ 8) :
    Calls Try.prog 83 #[v, .int .i64 (n : Int)] w (NewIntsB w ((nextL n s).getD []) (nextL n s).isSome) := by
  obtain ⟨h, hcap⟩ := hc
  have HK := Lib.hid hcap
  have HS := Lib.hid hs
  have HCL := Lib.hid (fun (W : World) (v' : Value) (l : List Int) (h1 : Rd1 W v' l) (h2 : l.length ≤ 1000000) => cloneI_any h1 h2)
  clear hs
  by_cases h0 : s.length = 0
  · obtain rfl : s = [] := List.length_eq_zero_iff.1 h0
    clear h0 hcap
    have HR := Lib.hid h
    obtain ⟨a1, cap1, rfl⟩ := Rd.slice h
    by_cases hpos : (0 : Int) < (n : Int)
    · have HN : Hid (nextL n [] = some [0]) := Lib.hid (by rw [nextL_empty, if_pos hpos])
      go_enter Try.func83, Try.ntmps83
      go_wp2_with fail
      refine (HCL.out _ _ [] HR.out (by simp)).mono ?_
      rintro e w1 ⟨v1, rfl, ho1, hb1⟩
      obtain ⟨v', w4, e4, ho4, hg4, -⟩ := app_int ho1 0 (by simp) hb1.size
      have hb4 := (hb1.alloc hb1.size (.cells #[.int .i64 0] 3)).grown hg4 (by rw [size_alloc]; have := hb1.size; omega) (fun x hx => (ho1.lt x hx).1)
      have HO : Hid (w4.ownsRow w.heap.size 3 1 v' [(0 : Int)].length ([(0 : Int)].map intV)) := Lib.hid ho4
      clear ho1 hg4 ho4 hb1
      go_wp2_with (at_builtin; refine wpList_append_eq rfl _ _ _ rfl _ _ _ rfl rfl e4 ?_)
      go_ret2
      rw [HN.out]
      exact ⟨_, rfl, HO.out, hb4⟩
    · have HN : Hid (nextL n [] = none) := Lib.hid (by rw [nextL_empty, if_neg hpos])
      go_enter Try.func83, Try.ntmps83
      go_wp2
      go_ret2
      rw [HN.out]
      exact ⟨_, rfl, World.ownsRow_nil _ _ _ _, Below.refl _ _⟩
  · obtain ⟨x, hx⟩ : ∃ x, s[s.length - 1]? = some x := ⟨_, List.getElem?_eq_getElem (by omega)⟩
    obtain ⟨hx0, hx8⟩ := HS.out x (List.mem_of_getElem? hx)
    obtain ⟨b1, o1, c1, hv1, x1⟩ := Rd1.cell h hx
    subst hv1
    have hcp := HK.out.le
    have HX := Lib.hid hx
    have HR := Lib.hid h
    have HM := Lib.hid (fun q => nextL_more' (n := n) hx q)
    have HE := Lib.hid (fun q => nextL_end' (n := n) hx q)
    have HT := Lib.hid (fun (y : Int) q1 q2 q3 => nextL_step' (n := n) (y := y) hx q1 q2 q3)
    have HP : Hid (∀ W : World, Below w.heap.size w W → Rd1 W (.slice (some ⟨b1, o1, none⟩) (s.length - 1) c1) (s.take (s.length - 1))) := Lib.hid fun W hW => Rd.below (rd1_pre h (by omega)) hW
    have HTL : Hid ((s.take (s.length - 1)).length = s.length - 1) := Lib.hid (by rw [List.length_take]; omega)
    clear hx h hcap
    generalize hL : s.length = L at *
    have hj1 : (0 : Int) ≤ (L : Int) - 1 := by omega
    have hj2 : (1 : Int) ≤ (L : Int) := by omega
    have hj3 : (L : Int) - 1 < (L : Int) := by omega
    have hj4 : 1 ≤ L := by omega
    have hj5 : (0 : Int) < (L : Int) := by omega
    have hj6 : (L : Int) - 1 ≤ (c1 : Int) := by omega
    have ej1 : IntKind.i64.wrap ((L : Int) - 1) = (L : Int) - 1 := IntWalk.i64_in _ (by omega)
    have ej2 : ((L : Int) - 1).toNat = L - 1 := by omega
    have ew : IntKind.i64.wrap (x + 1) = x + 1 := IntWalk.i64_in _ (by omega)
    by_cases hmore : x + 1 < (n : Int)
    · have HN := Lib.hid (HM.out hmore)
      clear HM HE HT HP HTL HX
      go_enter Try.func83, Try.ntmps83
      go_wp2_with fail
      refine (HCL.out _ _ s HR.out (by omega)).mono ?_
      rintro e w1 ⟨v1, rfl, ho1, hb1⟩
      obtain ⟨v', w4, e4, ho4, hg4, -⟩ := app_int ho1 (x + 1) (by omega) hb1.size
      have hb4 := (hb1.alloc hb1.size (.cells #[.int .i64 (x + 1)] 3)).grown hg4 (by rw [size_alloc]; have := hb1.size; omega) (fun x hx => (ho1.lt x hx).1)
      have HO : Hid (w4.ownsRow w.heap.size 3 1 v' (s ++ [x + 1]).length ((s ++ [x + 1]).map intV)) := Lib.hid (by rw [List.length_append, List.map_append]; exact ho4)
      clear ho1 hg4 ho4 hb1
      go_wp2_with (at_builtin; refine wpList_append_eq rfl _ _ _ rfl _ _ _ rfl rfl e4 ?_)
      go_ret2
      rw [HN.out]
      exact ⟨_, rfl, HO.out, hb4⟩
    · by_cases h2 : (L : Int) < 2
      · have HN := Lib.hid (HE.out hmore (by omega))
        clear HM HE HT HP HTL HX
        go_enter Try.func83, Try.ntmps83
        go_wp2
        go_ret2
        rw [HN.out]
        exact ⟨_, rfl, World.ownsRow_nil _ _ _ _, Below.refl _ _⟩
      · obtain ⟨y, hy⟩ : ∃ y, (s.take (L - 1))[L - 1 - 1]? = some y := ⟨_, List.getElem?_eq_getElem (by rw [HTL.out]; omega)⟩
        obtain ⟨hy0, hy8⟩ := HS.out y (List.mem_of_mem_take (List.mem_of_getElem? hy))
        have HN := Lib.hid (HT.out y hmore (by omega) hy)
        have HY := Lib.hid hy
        have hM1 : 1 ≤ L - 1 := by omega
        clear HM HE HT HX hy
        generalize s.take (L - 1) = c at *
        generalize L - 1 = M at *
        go_enter Try.func83, Try.ntmps83
        go_wp2_with fail
        refine (HCL.out _ _ c (HP.out _ (Below.refl _ _)) (by rw [HTL.out]; omega)).mono ?_
        rintro e w1 ⟨v1, rfl, ho1, hb1⟩
        rw [HTL.out] at ho1
        obtain ⟨g, cp, rfl, hg, -⟩ := ho1.form (by omega)
        have hc0 : w1.cell? ⟨g, M - 1, none⟩ = some (.int .i64 y) := by
          rw [ho1.cellAt _ (by omega), List.getElem?_map, HY.out]; rfl
        have hf0 := ho1.frozenAt (M - 1)
        have hst := ho1.stored (M - 1) (.int .i64 (y + 1))
        have HST : Hid ((w1.setCell ⟨g, M - 1, none⟩ (.int .i64 (y + 1))).ownsRow w.heap.size 3 1 (.slice (some ⟨g, 0, none⟩) M cp) (c.set (M - 1) (y + 1)).length ((c.set (M - 1) (y + 1)).map intV)) := Lib.hid (by rw [List.length_set, HTL.out, List.map_set]; exact hst.1)
        have hb5 : Below w.heap.size w (w1.setCell ⟨g, M - 1, none⟩ (.int .i64 (y + 1))) := hb1.setCell hg _
        have hk1 : (0 : Int) ≤ (M : Int) - 1 := by omega
        have hk2 : (1 : Int) ≤ (M : Int) := by omega
        have hk3 : (M : Int) - 1 < (M : Int) := by omega
        have ek1 : IntKind.i64.wrap ((M : Int) - 1) = (M : Int) - 1 := IntWalk.i64_in _ (by omega)
        have ek2 : ((M : Int) - 1).toNat = M - 1 := by omega
        have ey : IntKind.i64.wrap (y + 1) = y + 1 := IntWalk.i64_in _ (by omega)
        clear ho1 hst hb1
        go_wp2
        go_ret2
        rw [HN.out]
        exact ⟨_, rfl, HST.out, hb5⟩

/-- What holds ahead of the label: the i-th set is at hand, the best of those up to it is known. -/
def LexJ (w : World) (a1 : Option Addr) (cap1 : Nat) (r teeth : Int) (ll : List (List (Int × Int))) (m : Nat) (a : Act) (wr : World) : Prop :=
  ∃ (i S : Nat) (va vs vb : Value) (tus : List Value) (bl : List Int) (fw : Int), i + m = 2 ^ ll.length ∧ (lexS ll.length)[i]? = some S ∧ wr.ownsRow w.heap.size 3 1 vs (bitsTo S 8).length ((bitsTo S 8).map intV) ∧ wr.ownsRow w.heap.size 3 1 vb bl.length (bl.map intV) ∧
    progTo ll.length r ll teeth i = (bl, fw) ∧ RdV wr va tus (ll.map (needM r)) ∧ Below w.heap.size w wr ∧ bl.length ≤ 8 ∧
    ∃ (u3 u4 u5 u6 u7 u9 u13 u14 u15 u16 u17 u18 u19 u20 u21 u22 u23 u24 u25 u26 u27 u28 u29 u30 u31 u32 u33 u34 u35 u36 u37 u38 u39 u40 u41 u42 u43 u44 u45 u46 u47 u48 u49 u50 u51 u52 u53 u54 u55 u56 u57 u58 u59 u60 u61 u62 u63 u64 : Value), a = { tmps := #[.slice a1 ll.length cap1, .int .i64 r, .int .i64 teeth, u3, u4, u5, u6, u7, va, u9, vs, vb, .int .i64 fw, u13, u14, u15, u16, u17, u18, u19, u20, u21, u22, u23, u24, u25, u26, u27, u28, u29, u30, u31, u32, u33, u34, u35, u36, u37, u38, u39, u40, u41, u42, u43, u44, u45, u46, u47, u48, u49, u50, u51, u52, u53, u54, u55, u56, u57, u58, u59, u60, u61, u62, u63, u64], defers := [] }

set_option maxHeartbeats 8000000 in
set_option maxRecDepth 100000 in
theorem imost_any {w : World} {v : Value} {us : List Value} {ll : List (List (Int × Int))} (r teeth : Int) (h : RcN w v us ll) :
    Calls Try.prog 34 #[v, .int .i64 r, .int .i64 teeth] w (NewIntsB w (mostM r ll teeth).1 (mostM r ll teeth).2) := by
  obtain ⟨a1, cap1, rfl⟩ := h.1.slice
  by_cases hok : progB ll r = true
  · have HOK := Lib.hid hok
    have hl8 := (progB_true.1 hok).2.1
    by_cases hte : 0 ≤ teeth ∧ teeth ≤ 100
    · have HM := Lib.hid (mostM_yes hok hte)
      have HL := Lib.hid (lex_at_len hl8)
      have HH := Lib.hid (lex_head ⟨ll.length, by omega⟩)
      have HPM := Lib.hid (prog_most hl8 r ll teeth)
      have hte1 : ¬ teeth < 0 := by omega
      have hte2 : ¬ 100 < teeth := by omega
      clear hok hte
      go_enter Try.func34, Try.ntmps34
      go_wp2
      refine scope_back 0 (LexJ w a1 cap1 r teeth ll) rfl ?pass ?first
      case first =>
        intro hR
        go_wp2_with fail
        refine (needsof_any r h).mono ?_
        rintro e w1 ⟨v1, us1, rfl, hT, hb1⟩
        rw [HOK.out]
        have hR1 := hT HOK.out
        clear hT
        go_wp2
        go_step3
        rename_i K hK
        exact hK _ _ (hR (2 ^ ll.length) _ _ ⟨0, 0, v1, .slice none 0 0, .slice none 0 0, us1, [], 0, by omega, HH.out, World.ownsRow_nil _ _ _ _, World.ownsRow_nil _ _ _ _, rfl, hR1, hb1, by simp, _, _, _, _, _, _, _, _, _, _, _, _, _, _, _, _, _, _, _, _, _, _, _, _, _, _, _, _, _, _, _, _, _, _, _, _, _, _, _, _, _, _, _, _, _, _, _, _, _, _, _, _, _, _, _, _, _, _, rfl⟩)
      case pass =>
        rintro m a wr ⟨i, S, va, vs, vb, tus, bl, fw, him, hS, hos, hob, hT, hR, hbr, hb8, u3, u4, u5, u6, u7, u9, u13, u14, u15, u16, u17, u18, u19, u20, u21, u22, u23, u24, u25, u26, u27, u28, u29, u30, u31, u32, u33, u34, u35, u36, u37, u38, u39, u40, u41, u42, u43, u44, u45, u46, u47, u48, u49, u50, u51, u52, u53, u54, u55, u56, u57, u58, u59, u60, u61, u62, u63, u64, rfl⟩
        have hSn := lex_at_lt hl8 (List.mem_of_getElem? hS)
        have h256 : 2 ^ ll.length ≤ 256 := Nat.pow_le_pow_right (by omega) hl8
        have HS8 : Hid (∀ x ∈ bitsTo S 8, 0 ≤ x ∧ x < 8) := Lib.hid fun x hx => by obtain ⟨k, rfl, hk, -⟩ := bits_mem hx; omega
        have HC := nextset_any ll.length hl8 HS8.out (⟨Rd.of_own hos, capOk_of_own hos⟩ : Rc1 wr vs (bitsTo S 8)) (bitsTo_len S 8)
        rw [lex_at_next hl8 hS] at HC
        have hi' : i < 2 ^ ll.length := by rw [← HL.out]; exact (List.getElem?_eq_some_iff.1 hS).1
        obtain ⟨ab, cb, rfl⟩ := ownS_slice hob
        have HT := Lib.hid hT
        have HB8 := Lib.hid (bitsTo_len S 8)
        clear hT hos
        cases hN : (lexS ll.length)[i + 1]? with
        | none =>
          have hi1 : i = 2 ^ ll.length - 1 := by
            have := List.getElem?_eq_none_iff.1 hN
            rw [HL.out] at this
            omega
          rw [hN] at HC
          have HCH : Hid (Calls Try.prog 83 #[vs, .int .i64 (ll.length : Int)] wr (NewIntsB wr [] false)) := Lib.hid HC
          have HF : Hid (mostM r ll teeth = (bl, true)) := Lib.hid (by rw [HM.out, ← HPM.out, ← hi1, HT.out])
          clear hN hi1 HC him h256 hS
          go_wp2_with fail
          refine HCH.out.mono ?_
          rintro e w1 ⟨v1, rfl, -, hb1⟩
          have hob1 := ownS_below hob hb1
          have g1 := bstep hbr hb1
          clear hb1 hob hbr
          go_wp2
          simp only [Exit.jump]
          go_ret2
          rw [HF.out]
          exact ⟨_, rfl, hob1, g1⟩
        | some T =>
          rw [hN] at HC
          have HCH : Hid (Calls Try.prog 83 #[vs, .int .i64 (ll.length : Int)] wr (NewIntsB wr (bitsTo T 8) true)) := Lib.hid HC
          have hTn := lex_at_lt hl8 (List.mem_of_getElem? hN)
          have HTC : Hid (∀ x ∈ bitsTo T 8, 0 ≤ x ∧ x < (ll.length : Int)) := Lib.hid fun x hx => by
            obtain ⟨k, rfl, hk, hb⟩ := bits_mem hx
            have h1 : 2 ^ k ≤ T := Nat.ge_two_pow_of_testBit hb
            have : k < ll.length := (Nat.pow_lt_pow_iff_right (by omega : 1 < 2)).1 (Nat.lt_of_le_of_lt h1 hTn)
            omega
          have HU : Hid (unionL (bitsTo T 8) = T) := Lib.hid (bits_union ⟨T, by omega⟩)
          have HST := Lib.hid ((progTo_succ (r := r) (ll := ll) (teeth := teeth) hN).trans (by rw [HT.out]))
          have HNN := Lib.hid hN
          have HSK := Lib.hid (fun hh => progStep_skip (r := r) (ll := ll) (teeth := teeth) (st := (bl, fw)) (S := T) hh)
          have HTK := Lib.hid (fun hh => progStep_take (r := r) (ll := ll) (teeth := teeth) (st := (bl, fw)) (S := T) hh)
          have HKP := Lib.hid (fun hh => progStep_keep (r := r) (ll := ll) (teeth := teeth) (st := (bl, fw)) (S := T) hh)
          have HLT := Lib.hid (bitsTo_len T 8)
          have hm : i + 1 + (m - 1) = 2 ^ ll.length ∧ m - 1 < m := by
            have := (List.getElem?_eq_some_iff.1 hN).1
            rw [HL.out] at this
            omega
          obtain ⟨hm1, hm2⟩ := hm
          have hlT := HLT.out
          clear hN HC him h256 hS hTn hSn hi'
          go_wp2_with fail
          refine HCH.out.mono ?_
          rintro e w1 ⟨v1, rfl, ho1, hb1⟩
          have hob1 := ownS_below hob hb1
          have g1 := bstep hbr hb1
          have hR1 := hR.below hb1
          have ho1' := ownS_mono ho1 hbr.size
          clear hb1 hob hbr hR ho1
          go_wp2_with fail
          refine (nteeth_any r HOK.out HTC.out hR1 (Rd.of_own ho1')).mono ?_
          rintro e w2 ⟨rfl, hb2⟩
          rw [HU.out]
          have hob2 := ownS_below hob1 hb2
          have g2 := bstep g1 hb2
          have hR2 := hR1.below hb2
          have ho2 := ownS_below ho1' hb2
          clear hb2 hob1 g1 hR1 ho1' HU HTC HCH
          obtain ⟨al, cl, rfl⟩ := ownS_slice ho2
          have HO2 := Lib.hid ho2
          clear ho2
          generalize hl : bitsTo T 8 = l at *
          have HBT := Lib.hid hl
          clear hl
          have HNA : Hid (allS r ll T = allS r ll T) := Lib.hid rfl
          generalize allS r ll T = N1 at *
          by_cases c1 : teeth < N1
          · have HN1 := Lib.hid (HST.out.trans (HSK.out (Or.inl c1)))
            go_wp2
            go_step3
            exact ⟨rfl, m - 1, hm2, i + 1, T, _, _, _, tus, bl, fw, hm1, HNN.out, by rw [HBT.out]; exact HO2.out, hob2, HN1.out, hR2, g2, hb8, _, _, _, _, _, _, _, _, _, _, _, _, _, _, _, _, _, _, _, _, _, _, _, _, _, _, _, _, _, _, _, _, _, _, _, _, _, _, _, _, _, _, _, _, _, _, _, _, _, _, _, _, _, _, _, _, _, _, rfl⟩
          · by_cases c2 : l.length < bl.length
            · have c2' : (l.length : Int) < (bl.length : Int) := by omega
              have HN1 := Lib.hid (HST.out.trans (HSK.out (Or.inr c2)))
              go_wp2
              go_step3
              exact ⟨rfl, m - 1, hm2, i + 1, T, _, _, _, tus, bl, fw, hm1, HNN.out, by rw [HBT.out]; exact HO2.out, hob2, HN1.out, hR2, g2, hb8, _, _, _, _, _, _, _, _, _, _, _, _, _, _, _, _, _, _, _, _, _, _, _, _, _, _, _, _, _, _, _, _, _, _, _, _, _, _, _, _, _, _, _, _, _, _, _, _, _, _, _, _, _, _, _, _, _, _, rfl⟩
            · have hno : ¬ (teeth < N1 ∨ l.length < bl.length) := fun q => q.elim c1 c2
              have c2' : ¬ (l.length : Int) < (bl.length : Int) := by omega
              by_cases c3 : bl.length < l.length
              · have c3' : (bl.length : Int) < (l.length : Int) := by omega
                have HN1 := Lib.hid (HST.out.trans (HTK.out hno (Or.inl c3)))
                go_wp2
                go_step3
                exact ⟨rfl, m - 1, hm2, i + 1, T, _, _, _, tus, l, N1, hm1, HNN.out, by rw [HBT.out]; exact HO2.out, HO2.out, HN1.out, hR2, g2, hlT, _, _, _, _, _, _, _, _, _, _, _, _, _, _, _, _, _, _, _, _, _, _, _, _, _, _, _, _, _, _, _, _, _, _, _, _, _, _, _, _, _, _, _, _, _, _, _, _, _, _, _, _, _, _, _, _, _, _, rfl⟩
              · have c3' : ¬ (bl.length : Int) < (l.length : Int) := by omega
                by_cases c4 : N1 < fw
                · have HN1 := Lib.hid (HST.out.trans (HTK.out hno (Or.inr c4)))
                  go_wp2
                  go_step3
                  exact ⟨rfl, m - 1, hm2, i + 1, T, _, _, _, tus, l, N1, hm1, HNN.out, by rw [HBT.out]; exact HO2.out, HO2.out, HN1.out, hR2, g2, hlT, _, _, _, _, _, _, _, _, _, _, _, _, _, _, _, _, _, _, _, _, _, _, _, _, _, _, _, _, _, _, _, _, _, _, _, _, _, _, _, _, _, _, _, _, _, _, _, _, _, _, _, _, _, _, _, _, _, _, rfl⟩
                · have HN1 := Lib.hid (HST.out.trans (HKP.out hno fun q => q.elim c3 c4))
                  go_wp2
                  go_step3
                  exact ⟨rfl, m - 1, hm2, i + 1, T, _, _, _, tus, bl, fw, hm1, HNN.out, by rw [HBT.out]; exact HO2.out, hob2, HN1.out, hR2, g2, hb8, _, _, _, _, _, _, _, _, _, _, _, _, _, _, _, _, _, _, _, _, _, _, _, _, _, _, _, _, _, _, _, _, _, _, _, _, _, _, _, _, _, _, _, _, _, _, _, _, _, _, _, _, _, _, _, _, _, _, rfl⟩
    · have HM := Lib.hid (mostM_no (r := r) (ll := ll) fun k => hte k.2)
      clear hok
      by_cases h0 : teeth < 0
      · go_enter Try.func34, Try.ntmps34
        go_wp2
        go_step3
        go_wp2_with fail
        refine (needsof_any r h).mono ?_
        rintro e w1 ⟨v1, us1, rfl, -, hb1⟩
        rw [HOK.out]
        go_wp2
        rw [Exit.noGoto_ret]
        go_ret2
        rw [HM.out]
        exact ⟨_, rfl, World.ownsRow_nil _ _ _ _, hb1⟩
      · have h1 : 100 < teeth := by omega
        go_enter Try.func34, Try.ntmps34
        go_wp2
        go_step3
        go_wp2_with fail
        refine (needsof_any r h).mono ?_
        rintro e w1 ⟨v1, us1, rfl, -, hb1⟩
        rw [HOK.out]
        go_wp2
        rw [Exit.noGoto_ret]
        go_ret2
        rw [HM.out]
        exact ⟨_, rfl, World.ownsRow_nil _ _ _ _, hb1⟩
  · have hof : progB ll r = false := by simpa using hok
    have HM := Lib.hid (mostM_no (r := r) (ll := ll) (teeth := teeth) fun k => hok k.1)
    have HOK := Lib.hid hof
    clear hok hof
    go_enter Try.func34, Try.ntmps34
    go_wp2
    go_step3
    go_wp2_with fail
    refine (needsof_any r h).mono ?_
    rintro e w1 ⟨v1, us1, rfl, -, hb1⟩
    rw [HOK.out]
    go_wp2
    rw [Exit.noGoto_ret]
    go_ret2
    rw [HM.out]
    exact ⟨_, rfl, World.ownsRow_nil _ _ _ _, hb1⟩
end Go.Proofs.Ytcbdoldcdgaooaa
