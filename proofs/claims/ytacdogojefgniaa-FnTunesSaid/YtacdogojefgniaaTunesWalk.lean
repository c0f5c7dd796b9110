/- The walk of the law FnTunes. No condition. -/
import Derived.Test.YtacdogojefgniaaTunesMath
import Derived.Test.YtacdogojefgniaaImplTune2
import Derived.Laws.AppendOwnNone
namespace Go.Proofs.Ytacdogojefgniaa
open Go.ChangeShapes Go.WideShapes Go.ChangeAt Go.RowKit

/-- A row of notes appended onto a row of the call's own. -/
theorem wpList_append_rd {w : World} {ops : Array Oper} {rest : List Oper} {o : Oper} {a : Act} {Q : Exit → Act → World → Prop} (hgd : o.guard = none) (s x : Operand)
    (ho : o.op = .call { callee := .builtin .append, args := #[s, x], argTypes := #[25, 25] })
    {B B2 : Nat} {v sv : Value} {xs l : List (Int × Int)} (hs : a.eval s = v) (hown : w.ownsRow B 42 2 v xs.length (flat2 xs)) (hx : a.eval x = sv) (hsrc : w.ownsRow B2 42 2 sv l.length (flat2 l)) (hB : B ≤ w.heap.size) (hl : xs.length + l.length ≤ 1000)
    (h : ∀ v' w', w'.ownsRow B 42 2 v' (xs ++ l).length (flat2 (xs ++ l)) → w.grownBy w' v.ownBlock → wpList Try.prog ops Q rest (a.put o.dst v') w') : wpList Try.prog ops Q (o :: rest) a w := by
  obtain ⟨i0, hi, hz0, hz1, hz2⟩ := info_parts infoNote
  have e : (xs ++ l).length = xs.length + l.length := by simp
  by_cases h0 : sv = .slice none 0 0
  · subst h0
    have hl0 : l.length = 0 := by
      rcases hsrc.2 with ⟨_, h⟩ | ⟨_, _, _, h, _⟩
      · exact h
      · cases h
    obtain rfl : l = [] := List.length_eq_zero_iff.1 hl0
    exact wpList_append_own_none hgd s x 25 ho B 42 i0 2 Try.underlying25 hi v xs.length (flat2 xs) hs hown hx (h v w (by rw [List.append_nil]; exact hown) (World.grownBy.refl _ _))
  · obtain ⟨g, cap, rfl, _, _, _⟩ := ownS_form hsrc h0
    refine wpList_append_own w hgd s x 25 ho B 42 i0 _ 2 16 Try.underlying25 hi hz0 hz1 hz2 rfl (by decide) v xs.length (flat2 xs) hs hown ⟨g, 0, none⟩ l.length cap (flat2 l) hx (flat2_length l) (hsrc.cells rfl) (flat2_one l) (by unfold maxLen; omega) (by omega) hB ?_
    intro v' w' h1 h2 _
    exact h v' w' (by rw [e, flat2_append]; exact h1) h2

theorem rd1_of {w : World} {v : Value} {l : List Int} (h : Rd 1 w v l.length (l.map intV)) : Rd1 w v l := h
theorem mem_take_succ {t : List (Int × Int)} {k : Nat} {p x : Int × Int} (hp : t[k]? = some p) : memB (t.take (k + 1)) x = (memB (t.take k) x || decide (p = x)) := by
  unfold memB
  rw [List.take_add_one, hp]
  by_cases h1 : x ∈ t.take k
  · simp [h1]
  · by_cases h2 : p = x
    · subst h2; simp
    · have h3 : ¬ x = p := fun e => h2 e.symm
      simp [h1, h2, h3]

set_option maxHeartbeats 16000000 in
set_option maxRecDepth 1000000 in
theorem tunes_walk {w : World} {v : Value} {n : Nat} (hC : Code w w.heap.size v n) :
    Calls Try.prog 8 #[v] w fun e w' => e = .returned (.bool true) ∧ Below w.heap.size w w' := by
  by_cases hbig : 1048576 < n
  · go_enter Try.func8, Try.ntmps8
    go_wp2_with fail
    refine (big_yes hC hbig).mono ?_
    rintro e w1 ⟨rfl, rfl⟩
    go_wp2
    go_ret
    exact ⟨rfl, Below.refl _ _⟩
  · go_enter Try.func8, Try.ntmps8
    go_wp2_with fail
    refine (big_no hC hbig).mono ?_
    rintro e w1 ⟨rfl, rfl⟩
    go_wp2_with fail
    refine (drawtune_any hC).mono ?_
    rintro e w2 ⟨t, v2, ht, rfl, ho2, hb2⟩
    have hC2 := hC.below hb2
    have HD := Lib.hid ht
    have h11 := ht.1
    clear ht
    go_wp2_with fail
    refine (at_any 0 (by omega) hC2 (by omega)).mono ?_
    rintro e w3 ⟨x, hx0, hx1, rfl, rfl⟩
    go_wp2_with fail
    refine (at_any 1 (by omega) hC2 (by omega)).mono ?_
    rintro e w3 ⟨y, hy0, hy1, rfl, rfl⟩
    go_wp2_with fail
    have ha0 : 0 ≤ x % 30 := Int.emod_nonneg _ (by omega)
    have ha1 : x % 30 ≤ 29 := by omega
    have hb0 : 0 ≤ y % 61 := Int.emod_nonneg _ (by omega)
    have hb1 : y % 61 ≤ 60 := by omega
    generalize x % 30 = na at *
    generalize y % 61 = nb at *
    obtain ⟨z1, z2, hb3, hw23⟩ : (w2.alloc (.cells #[.int .i64 na, .int .i64 nb] 42)).cell? ⟨w2.heap.size, 0, none⟩ = some (.int .i64 na) ∧ (w2.alloc (.cells #[.int .i64 na, .int .i64 nb] 42)).cell? ⟨w2.heap.size, 1, none⟩ = some (.int .i64 nb) ∧ Below w.heap.size w (w2.alloc (.cells #[.int .i64 na, .int .i64 nb] 42)) ∧ Below w2.heap.size w2 (w2.alloc (.cells #[.int .i64 na, .int .i64 nb] 42)) :=
      ⟨cell0 _ _ _ _, cell0 _ _ _ _, hb2.alloc hb2.size _, (Below.refl _ _).alloc (Nat.le_refl _) _⟩
    have ho3 := ownS_below ho2 hw23
    clear hb2 ho2 hC2 hw23 hx0 hx1 hy0 hy1
    generalize w2.alloc (.cells #[.int .i64 na, .int .i64 nb] 42) = w3 at *
    generalize w2.heap.size = nbk at *
    refine (iadd_any (na, nb) (Rd.of_own ho3) (by omega)).mono ?_
    rintro e w4 ⟨v5, rfl, ho5, hb5⟩
    have hb4 := bstep hb3 hb5
    have ho4 := ownS_below ho3 hb5
    have y1 := kept_b hb5 z1
    have y2 := kept_b hb5 z2
    clear hb3 ho3 hb5 z1 z2
    obtain ⟨X, ok, fb, hadd, hfb, hcase⟩ : ∃ X ok fb, addM t (na, nb) = (X, ok) ∧ memB t (na, nb) = fb ∧ ((ok = false ∧ fb = true) ∨ (ok = true ∧ fb = false ∧ X.length = t.length + 1 ∧ tuneB X = true)) := by
      by_cases hm : memB t (na, nb) = true
      · exact ⟨t, false, true, add_in hm, hm, Or.inl ⟨rfl, rfl⟩⟩
      · have hm' : memB t (na, nb) = false := by simpa using hm
        obtain ⟨k1, k2, k3⟩ := add_out HD.out hm' ⟨ha0, ha1⟩ ⟨hb0, hb1⟩
        exact ⟨_, true, false, k1, hm', Or.inr ⟨rfl, rfl, k2, k3⟩⟩
    rw [hadd] at ho5 ⊢
    clear hadd ha0 ha1 hb0 hb1
    have HFB := Lib.hid hfb
    have HCASE := Lib.hid hcase
    clear hfb hcase
    simp only at ho5 ⊢
    obtain ⟨a5, c5, rfl⟩ := ownS_slice ho5
    obtain ⟨a2, c2, rfl⟩ := ownS_slice ho4
    go_wp2_with fail
    go_loopw [7, 8] (fun v7 v8 wr => ∃ (k d : Nat) (f : Bool), k ≤ t.length ∧ v8 = .int .i64 k ∧ v7 = .bool f ∧ wr = w4.drewN d ∧ Hid (memB (t.take k) (na, nb) = f)) (fun _ v8 _ => t.length - (intOf v8).toNat)
    case atStart => exact ⟨0, 0, false, Nat.zero_le _, rfl, rfl, rfl, Lib.hid (memB_false.2 (by simp))⟩
    case round =>
      obtain ⟨k, d, f, hk, rfl, rfl, rfl, HF⟩ := hrel
      by_cases hlt : k < t.length
      · obtain ⟨p, hp⟩ : ∃ p, t[k]? = some p := ⟨_, List.getElem?_eq_getElem hlt⟩
        have HN := Lib.hid (mem_take_succ (x := (na, nb)) hp)
        obtain ⟨b1, o1, e1, hv1, x1, y1'⟩ := Rd2.cells (Rd.of_own ho4) hp
        simp only [Value.slice.injEq, true_and] at hv1
        obtain ⟨rfl, rfl⟩ := hv1
        clear hp
        cases f with
        | true =>
          have HF2 : Hid (memB (t.take (k + 1)) (na, nb) = true) := Lib.hid (by rw [HN.out, HF.out]; rfl)
          go_wp2_with fail
          go_quiet (fail)
          go_wp2
          go_roundw
          case rel => exact ⟨k + 1, _, _, by omega, by go_num, rfl, rfl, HF2⟩
          case measure => simp [intOf]; omega
        | false =>
          by_cases hpe : p = (na, nb)
          · have he := fun W => eql_yes (p := (na, nb)) hpe W
            have HF2 : Hid (memB (t.take (k + 1)) (na, nb) = true) := Lib.hid (by rw [HN.out, hpe]; simp)
            clear hpe
            go_wp2_with fail
            go_quiet (fail)
            clear he
            go_wp2
            go_roundw
            case rel => exact ⟨k + 1, _, _, by omega, by go_num, rfl, rfl, HF2⟩
            case measure => simp [intOf]; omega
          · have he := fun W => eql_no (p := (na, nb)) hpe W
            have HF2 : Hid (memB (t.take (k + 1)) (na, nb) = false) := Lib.hid (by rw [HN.out, HF.out]; simpa using hpe)
            clear hpe
            go_wp2_with fail
            go_quiet (fail)
            clear he
            go_wp2
            go_roundw
            case rel => exact ⟨k + 1, _, _, by omega, by go_num, rfl, rfl, HF2⟩
            case measure => simp [intOf]; omega
      · have hkn : k = t.length := by omega
        have hff : f = fb := by rw [← HF.out, ← HFB.out, hkn, List.take_length]
        subst hff
        obtain ⟨ho5', hb5', ho4'⟩ : (w4.drewN d).ownsRow w3.heap.size 42 2 (.slice a5 X.length c5) X.length (flat2 X) ∧ Below w.heap.size w (w4.drewN d) ∧ (w4.drewN d).ownsRow w.heap.size 42 2 (.slice a2 t.length c2) t.length (flat2 t) := ⟨ho5, below_drewN hb4 d, ho4⟩
        clear ho5 hb4 ho4 y1 y2 HF
        generalize w4.drewN d = w6 at *
        clear hkn
        obtain ⟨h1, h2⟩ | ⟨h1, h2, h3, h4⟩ := HCASE.out
        focus
          subst h1; subst h2
          have ho4q := Lib.hid ho4'
          have hb5q := Lib.hid hb5'
        rotate_left
        focus
          subst h1; subst h2
          have hq1 : (((X.length : Nat) : Int) == (t.length : Int) + 1) = true := by rw [h3]; simp
          have hq2 : (((X.length : Nat) : Int) != (t.length : Int) + 1) = false := by rw [h3]; simp
          have HT := Lib.hid h4
          clear h3 h4
          go_wp2_with fail
          refine (itune_yes (Rd.of_own ho5') HT.out).mono ?_
          rintro e w6 ⟨rfl, hb6b⟩
          have ho4q := Lib.hid (ownS_below ho4' hb6b)
          have hb5q := Lib.hid (bstep hb5' hb6b)
          clear hq1 hq2 hb6b
        all_goals
          clear ho4' hb5' ho5'
          obtain ⟨ho4', hb5'⟩ := (⟨ho4q.out, hb5q.out⟩ : w6.ownsRow w.heap.size 42 2 (.slice a2 t.length c2) t.length (flat2 t) ∧ Below w.heap.size w w6)
          clear ho4q hb5q
          have hown0 : (w6.alloc (.cells #[] 42)).ownsRow w6.heap.size 42 2 (.slice (some ⟨w6.heap.size, 0, none⟩) 0 0) ([] : List (Int × Int)).length (flat2 []) := World.ownsRow_made w6 #[] 0 (Nat.le_refl _) (by simp) rfl
          have hb6a : Below w.heap.size w (w6.alloc (.cells #[] 42)) := hb5'.alloc hb5'.size _
          have ho4a := ho4'.alloc (.cells #[] 42)
          have hsz6 : w6.heap.size ≤ (w6.alloc (.cells #[] 42)).heap.size := by simp
          have hap : (Value.slice a2 t.length c2).ownBlock = none ∨ (Value.slice a2 t.length c2).ownBlock ≠ some w6.heap.size := by
            cases hq : (Value.slice a2 t.length c2).ownBlock with
            | none => exact Or.inl rfl
            | some k => exact Or.inr (fun e => by have := (ho4'.lt k hq).2; injection e; omega)
          go_wp2_with (at_builtin; refine wpList_append_rd rfl (.tmp 69) (.tmp 70) rfl rfl hown0 rfl ho4a hsz6 (by simp; omega) ?_)
          intro v7 w7 h7 g7
          have ho7 : w7.ownsRow w.heap.size 42 2 (.slice a2 t.length c2) t.length (flat2 t) := ho4a.kept g7 hap
          have hb7 := hb6a.grown g7 hb6a.size (fun k hk => (hown0.lt k hk).1 |> Nat.le_trans hb5'.size)
          have hsz7 : w6.heap.size ≤ w7.heap.size := Nat.le_trans hsz6 g7.size
          have hap7 : (Value.slice a2 t.length c2).ownBlock = none ∨ (Value.slice a2 t.length c2).ownBlock ≠ v7.ownBlock := by
            cases hq : (Value.slice a2 t.length c2).ownBlock with
            | none => exact Or.inl rfl
            | some k => exact Or.inr (fun e => by have h8 := (ho4'.lt k hq).2; have h9 := (h7.lt k e.symm).1; omega)
          clear hown0 hb6a ho4a g7 hap hsz6
          go_wp2_with (at_builtin; refine wpList_append_rd rfl (.tmp 71) (.tmp 72) rfl rfl h7 rfl ho7 hsz7 (by omega) ?_)
          intro v9 w9 h9 g9
          have ho9 : w9.ownsRow w.heap.size 42 2 (.slice a2 t.length c2) t.length (flat2 t) := ho7.kept g9 hap7
          have hb9 := hb7.grown g9 hb7.size (fun k hk => (h7.lt k hk).1 |> Nat.le_trans hb5'.size)
          have HTW := Lib.hid (sort_twice (tune_ss (tuneB_true.1 HD.out.2.1)) (by omega))
          clear h7 ho7 hb7 g9 hap7 hsz7 ho4' hb5'
          have hr9 : Rd2 w9 v9 (t ++ t) := by unfold Rd2; rw [List.length_append]; exact Rd.of_own h9
          go_wp2_with fail
          refine (isort_any hr9).mono ?_
          rintro e w10 ⟨v10, rfl, ho10, hb10⟩
          rw [HTW.out] at ho10
          have hb11 := bstep hb9 hb10
          have ho11 := ownS_below ho9 hb10
          have hs11 := ownS_mono ho10 hb9.size
          obtain ⟨a10, c10, rfl⟩ := ownS_slice ho10
          clear h9 ho9 hb9 hb10 ho10 hr9
          go_wp2_with fail
          go_loopw [11, 12] (fun v11 v12 wr => ∃ k : Nat, k ≤ 17 ∧ v12 = .int .i64 k ∧ v11 = .int .i64 (cntM t k : Nat) ∧ Below w.heap.size w wr ∧ wr.ownsRow w.heap.size 42 2 (.slice a2 t.length c2) t.length (flat2 t) ∧ wr.ownsRow w.heap.size 42 2 (.slice a10 t.length c10) t.length (flat2 t)) (fun _ v12 _ => 17 - (intOf v12).toNat)
          case atStart => exact ⟨0, by omega, rfl, rfl, hb11, ho11, hs11⟩
          case round =>
            clear hb11 ho11 hs11
            obtain ⟨k2, hk2, rfl, rfl, hbr, hor, hsr⟩ := hrel
            by_cases hk16 : k2 < 17
            · have HNA := Lib.hid (show notesAtM t (k2 : Int) = atM t (k2 : Int) by unfold notesAtM; rw [HD.out.2.1]; rfl)
              have HPW := Lib.hid (at_pw (tune_ss (tuneB_true.1 HD.out.2.1)) (k2 : Int))
              have HCN := Lib.hid (show cntM t (k2 + 1) = cntM t k2 + (atM t (k2 : Int)).length from rfl)
              have hcn1 := cnt_le t k2
              have hcn3 : k2 * t.length ≤ 17 * 11 := Nat.mul_le_mul (by omega) (by omega)
              have hcn2 := atM_length t (k2 : Int)
              go_wp2_with fail
              refine (inotesat_any (k2 : Int) (Rd.of_own hor)).mono ?_
              rintro e w12 ⟨v13, rfl, ho13, hb12⟩
              rw [HNA.out] at ho13
              generalize atM t (k2 : Int) = L at *
              have hb13 := bstep hbr hb12
              have hor2 := ownS_below hor hb12
              have hsr2 := ownS_below hsr hb12
              obtain ⟨a13, c13, rfl⟩ := ownS_slice ho13
              clear hbr hor hsr hb12
              go_wp2_with fail
              go_loopw [14] (fun v14 ws => ∃ j d : Nat, 1 ≤ j ∧ v14 = .int .i64 j ∧ ws = w12.drewN d) (fun v14 _ => L.length - (intOf v14).toNat)
              case atStart => exact ⟨1, 0, by omega, rfl, rfl⟩
              case round =>
                obtain ⟨j, d2, hj1, rfl, rfl⟩ := hrel
                by_cases hjl : j < L.length
                · obtain ⟨xx, hxx⟩ : ∃ p, L[j - 1]? = some p := ⟨_, List.getElem?_eq_getElem (by omega)⟩
                  obtain ⟨yy, hyy⟩ : ∃ p, L[j]? = some p := ⟨_, List.getElem?_eq_getElem hjl⟩
                  have hlt2 := at_adj HPW.out hj1 hxx hyy
                  obtain ⟨b1, o1, e1, hv1, x1⟩ := Rd1.cell (Rd.of_own ho13 |> rd1_of) hxx
                  obtain ⟨b2, o2, e2, hv2, x2⟩ := Rd1.cell (Rd.of_own ho13 |> rd1_of) hyy
                  simp only [Value.slice.injEq, true_and] at hv1
                  obtain ⟨rfl, rfl⟩ := hv1
                  simp only [Value.slice.injEq, true_and, Option.some.injEq, Addr.mk.injEq, and_true] at hv2
                  obtain ⟨⟨rfl, rfl⟩, rfl⟩ := hv2
                  have hcmp : decide (yy ≤ xx) = false := decide_eq_false (by omega)
                  have hi1 : (0 : Int) ≤ (j : Int) - 1 := by omega
                  have hi2 : (1 : Int) ≤ (j : Int) := by omega
                  have hi3 : (j : Int) - 1 < (L.length : Int) := by omega
                  have ej1 : IntKind.i64.wrap ((j : Int) - 1) = (j : Int) - 1 := IntWalk.i64_in _ (by omega)
                  have ej2 : ((j : Int) - 1).toNat = j - 1 := by omega
                  clear hxx hyy hlt2
                  go_wp2_with fail
                  go_quiet (fail)
                  clear ej1 ej2 hi1 hi2 hi3 hcmp x1 x2
                  go_wp2
                  go_roundw
                  case rel => exact ⟨j + 1, _, by omega, by go_num, rfl⟩
                  case measure => simp [intOf]; omega
                · obtain ⟨hb14, hor3, hsr3⟩ : Below w.heap.size w (w12.drewN d2) ∧ (w12.drewN d2).ownsRow w.heap.size 42 2 (.slice a2 t.length c2) t.length (flat2 t) ∧ (w12.drewN d2).ownsRow w.heap.size 42 2 (.slice a10 t.length c10) t.length (flat2 t) := ⟨below_drewN hb13 d2, hor2, hsr2⟩
                  clear hb13 hor2 hsr2
                  generalize w12.drewN d2 = w14 at *
                  have HV : Hid (Value.int .i64 ((cntM t k2 : Nat) + (L.length : Nat) : Int) = .int .i64 (cntM t (k2 + 1) : Nat)) := Lib.hid (by rw [HCN.out]; simp)
                  go_wp2
                  go_roundw
                  case rel => exact ⟨k2 + 1, by omega, by go_num, HV.out, hb14, hor3, hsr3⟩
                  case measure => simp [intOf]; omega
            · obtain rfl : k2 = 17 := by omega
              have HCA := Lib.hid (cnt_all HD.out.2.2)
              rw [HCA.out]
              go_wp2_with fail
              have HPP := Lib.hid (fun h0 => pitch_drawn HD.out h0)
              have HPZ : Hid (t.length = 0 → (pitchM t).1 = -1) := Lib.hid (fun h0 => by rw [List.length_eq_zero_iff.1 h0, pitchM_nil])
              refine (ipitch_any (Rd.of_own hor)).mono ?_
              rintro e w15 ⟨rfl, hb15⟩
              have hb16 := bstep hbr hb15
              have hor4 := ownS_below hor hb15
              have hsr4 := ownS_below hsr hb15
              clear hbr hor hsr hb15
              generalize (pitchM t).1 = lo at *
              generalize (pitchM t).2 = hi at *
              go_wp2_with fail
              go_loopw [17] (fun v17 wr => ∃ k d : Nat, k ≤ t.length ∧ v17 = .int .i64 k ∧ wr = w15.drewN d) (fun v17 _ => t.length - (intOf v17).toNat)
              case atStart => exact ⟨0, 0, Nat.zero_le _, rfl, rfl⟩
              case round =>
                obtain ⟨k3, d3, hk3, rfl, rfl⟩ := hrel
                by_cases hk3l : k3 < t.length
                · obtain ⟨p, hp⟩ : ∃ p, t[k3]? = some p := ⟨_, List.getElem?_eq_getElem hk3l⟩
                  obtain ⟨h5, h6, h7⟩ := HPP.out (by omega)
                  obtain ⟨h8, h9⟩ := h7 p (List.mem_iff_getElem?.2 ⟨k3, hp⟩)
                  obtain ⟨b1, o1, e1, hv1, x1, y1⟩ := Rd2.cells (Rd.of_own hor4) hp
                  obtain ⟨b2, o2, e2, hv2, x2, y2⟩ := Rd2.cells (Rd.of_own hsr4) hp
                  simp only [Value.slice.injEq, true_and] at hv1 hv2
                  obtain ⟨rfl, rfl⟩ := hv1
                  obtain ⟨rfl, rfl⟩ := hv2
                  have he := fun W => neq_no (p := p) (q := p) rfl W
                  have hd1 : decide (p.2 < lo) = false := decide_eq_false (by omega)
                  have hd2 : decide (hi < p.2) = false := decide_eq_false (by omega)
                  clear hp h7
                  go_wp2_with fail
                  go_quiet (fail)
                  clear he hd1 hd2 x1 y1 x2 y2
                  go_wp2
                  go_roundw
                  case rel => exact ⟨k3 + 1, _, by omega, by go_num, rfl⟩
                  case measure => simp [intOf]; omega
                · obtain ⟨hb17, hor5⟩ : Below w.heap.size w (w15.drewN d3) ∧ (w15.drewN d3).ownsRow w.heap.size 42 2 (.slice a2 t.length c2) t.length (flat2 t) := ⟨below_drewN hb16 d3, hor4⟩
                  clear hb16 hor4 hsr4
                  generalize w15.drewN d3 = w17 at *
                  have hk3e : k3 = t.length := by omega
                  subst hk3e
                  by_cases hpos : 0 < t.length
                  · obtain ⟨p, hp⟩ : ∃ p, t[0]? = some p := ⟨_, List.getElem?_eq_getElem hpos⟩
                    obtain ⟨q, hq⟩ : ∃ q, t[t.length - 1]? = some q := ⟨_, List.getElem?_eq_getElem (by omega)⟩
                    have tp := tuneB_true.1 HD.out.2.1
                    have rp := (tp.2 _ _ hp).1
                    have rq := (tp.2 _ _ hq).1
                    have HLS := Lib.hid (lastsM_yes HD.out.2.1 hp hq)
                    obtain ⟨b1, o1, e1, hv1, x1, y1⟩ := Rd2.cells (Rd.of_own hor5) hp
                    obtain ⟨b2, o2, e2, hv2, x2, y2⟩ := Rd2.cells (Rd.of_own hor5) hq
                    simp only [Value.slice.injEq, true_and] at hv1
                    obtain ⟨rfl, rfl⟩ := hv1
                    simp only [Value.slice.injEq, true_and, Option.some.injEq, Addr.mk.injEq, and_true] at hv2
                    obtain ⟨⟨rfl, rfl⟩, rfl⟩ := hv2
                    rw [Nat.zero_mul, Nat.add_zero] at x1 y1
                    obtain ⟨rp0, rp1⟩ := rp
                    obtain ⟨rq0, rq1⟩ := rq
                    have hRw : Rd2 w17.drew (.slice (some ⟨b1, o1, none⟩) t.length c2) t := Rd.below (Rd.of_own hor5) (Below.refl _ _).drew
                    have hLA : Calls Try.prog 21 #[.slice (some ⟨b1, o1, none⟩) t.length c2] w17.drew fun e w' => e = .returned (.int .i64 (q.1 - p.1)) ∧ Below w17.drew.heap.size w17.drew w' :=
                      (ilasts_any hRw).mono fun _ _ ⟨he, hb⟩ => ⟨by rw [he, HLS.out], hb⟩
                    have HLA := Lib.hid hLA
                    clear tp hp hq hRw hLA
                    have j1 : (0 : Int) ≤ (t.length : Int) - 1 := by omega
                    have j2 : (1 : Int) ≤ (t.length : Int) := by omega
                    have j3 : (t.length : Int) - 1 < (t.length : Int) := by omega
                    have j4 : 1 ≤ t.length := by omega
                    have ej1 : IntKind.i64.wrap ((t.length : Int) - 1) = (t.length : Int) - 1 := IntWalk.i64_in _ (by omega)
                    have ej2 : ((t.length : Int) - 1).toNat = t.length - 1 := by omega
                    have ej3 : IntKind.i64.wrap (q.1 - p.1) = q.1 - p.1 := IntWalk.i64_in _ (by omega)
                    go_wp2_with fail
                    go_region_held3 (fun w' => w'.cell? ⟨b1, o1, none⟩ = some (.int .i64 p.1) ∧ w'.cell? ⟨b1, o1 + (t.length - 1) * 2, none⟩ = some (.int .i64 q.1)) (go_keep)
                      ((go_at_call 21; refine HLA.out.mono ?_; rintro e w18 ⟨rfl, hb18⟩; have q1 := kept_cell hb18 x1; have q2 := kept_cell hb18 x2))
                    all_goals
                      have hb19 := bstep hb17 (below_undrew hb18)
                      have hor6 := ownS_below hor5 (below_undrew hb18)
                      have hlo : (lo == -1) = false := by have := (HPP.out hpos).1; rw [beq_eq_false_iff_ne]; omega
                      have ht0 : ((t.length : Int) == 0) = false := by rw [beq_eq_false_iff_ne]; omega
                      have HTT := Lib.hid HD.out.2.1
                      clear hb18 q1 q2 x1 y1 x2 y2 ej1 ej2 ej3 j1 j2 j3 hor5 hb17
                      go_wp2_with fail
                      refine (itune_yes (Rd.of_own hor6) HTT.out).mono ?_
                      rintro e w20 ⟨rfl, hb20⟩
                      have hb21 := bstep hb19 hb20
                      go_wp2_with fail
                      refine (isample_any _).mono ?_
                      rintro e w21 ⟨v21, rfl, ho21, hb22⟩
                      have hb23 := bstep hb21 hb22
                      obtain ⟨a21, c21, rfl⟩ := ownS_slice ho21
                      rw [show sampleL.length = 5 from rfl]
                      clear ho21
                      go_wp2
                      go_ret
                      exact ⟨rfl, hb23⟩
                  · have hlo : lo = -1 := HPZ.out (by omega)
                    subst hlo
                    have hz : t = [] := List.length_eq_zero_iff.1 (by omega)
                    subst hz
                    have HTT := Lib.hid HD.out.2.1
                    have ho0 : w17.ownsRow w.heap.size 42 2 (.slice a2 0 c2) ([] : List (Int × Int)).length (flat2 []) := hor5
                    clear hor5 hpos HPP HPZ HD h11 hk hlt hk3 hk3l
                    rw [show ([] : List (Int × Int)).length = 0 from rfl]
                    go_wp2_with fail
                    go_quiet (fail)
                    have hb19 := below_drewN hb17 nq
                    have hor6 : (w17.drewN nq).ownsRow w.heap.size 42 2 (.slice a2 0 c2) ([] : List (Int × Int)).length (flat2 []) := ho0
                    clear hb17 ho0
                    generalize w17.drewN nq = w18 at *
                    go_wp2_with fail
                    refine (itune_yes (Rd.of_own hor6) HTT.out).mono ?_
                    rintro e w20 ⟨rfl, hb20⟩
                    have hb21 := bstep hb19 hb20
                    go_wp2_with fail
                    refine (isample_any _).mono ?_
                    rintro e w21 ⟨v21, rfl, ho21, hb22⟩
                    have hb23 := bstep hb21 hb22
                    obtain ⟨a21, c21, rfl⟩ := ownS_slice ho21
                    rw [show sampleL.length = 5 from rfl]
                    clear ho21
                    go_wp2
                    go_ret
                    exact ⟨rfl, hb23⟩
end Go.Proofs.Ytacdogojefgniaa
