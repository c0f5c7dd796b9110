/- The contracts of chapter 18's model: OccursAt, Occurrences, PartOf. No condition. Made by gen_motif.py. -/
import Derived.Test.YtglehmffmailkaaMotifSub
import Derived.Deep.CutRange
namespace Go.Proofs.Ytglehmffmailkaa
open Go.ChangeShapes Go.WideShapes Go.ChangeAt Go.RowKit

theorem occK_true {t m : List (Int × Int)} {p : Int × Int} (h : ∀ (j : Nat) (q : Int × Int), (offL m)[j]? = some q → hasB t (q.1 + p.1, q.2 + p.2) = true) : occK t m p = true := by
  unfold occK
  rw [List.all_eq_true]
  intro q hq
  obtain ⟨j, hj⟩ := List.mem_iff_getElem?.1 hq
  exact h j q hj
theorem occK_false {t m : List (Int × Int)} {p q : Int × Int} {j : Nat} (hj : (offL m)[j]? = some q) (h : hasB t (q.1 + p.1, q.2 + p.2) = false) : occK t m p = false := by
  unfold occK
  rw [List.all_eq_false]
  exact ⟨q, List.mem_of_getElem? hj, by rw [h]; simp⟩
theorem occ_next {t m : List (Int × Int)} {p q : Int × Int} {i : Nat} (hI : ∀ (j : Nat) (q : Int × Int), j < i → (offL m)[j]? = some q → hasB t (q.1 + p.1, q.2 + p.2) = true) (hq : (offL m)[i]? = some q) (h : hasB t (q.1 + p.1, q.2 + p.2) = true) :
    ∀ (j : Nat) (q : Int × Int), j < i + 1 → (offL m)[j]? = some q → hasB t (q.1 + p.1, q.2 + p.2) = true := fun j x hj hx => by
  by_cases hji : j < i
  · exact hI j x hji hx
  · obtain rfl : j = i := by omega
    rw [hq] at hx
    obtain rfl := Option.some.inj hx
    exact h

set_option maxHeartbeats 4000000 in
set_option maxRecDepth 100000 in
theorem occG_any {w : World} {vt vm : Value} {t m : List (Int × Int)} (k : Int) (ht : Rd2 w vt t) (hm : Rd2 w vm m) :
    Calls Try.prog 24 #[vt, vm, .int .i64 k] w fun e w' => e = .returned (.bool (occI t m k)) ∧ Below w.heap.size w w' := by
  obtain ⟨a1, cap1, rfl⟩ := Rd.slice ht
  obtain ⟨a2, cap2, rfl⟩ := Rd.slice hm
  have hlt := ht.2.1
  have hlm := hm.2.1
  unfold maxLen at hlt hlm
  by_cases h1 : tuneB t = true
  · have H1 := Lib.hid h1
    have ht40 := (tuneB_true.1 h1).1
    by_cases h2 : tuneB m = true
    · have H2 := Lib.hid h2
      have hm40 := (tuneB_true.1 h2).1
      by_cases h3 : m.length = 0
      · have HR := Lib.hid (occI_no (t := t) (m := m) (k := k) fun q => by have := q.2.2.1; omega)
        have hz : ((m.length : Int) == 0) = true := by rw [beq_iff_eq]; omega
        clear h1 h2 h3
        go_enter Try.func24, Try.ntmps24
        go_wp2_with fail
        refine (tuneok_yes ht H1.out).mono ?_
        rintro e w1 ⟨rfl, hb1⟩
        go_wp2_with fail
        refine (tuneok_yes (Rd.below hm hb1) H2.out).mono ?_
        rintro e w2 ⟨rfl, hb2⟩
        have g2 := bstep hb1 hb2
        go_wp2
        go_ret
        exact ⟨by rw [HR.out]; (try rfl), g2⟩
      · have hz : ((m.length : Int) == 0) = false := by rw [beq_eq_false_iff_ne]; omega
        have wl : IntKind.i64.wrap ((t.length : Int) - 1) = (t.length : Int) - 1 := IntWalk.i64_in _ (by omega)
        by_cases h4 : 0 ≤ k ∧ k ≤ (t.length : Int) - 1
        · obtain ⟨k, rfl⟩ := Int.eq_ofNat_of_zero_le h4.1
          have hk : k < t.length := by omega
          obtain ⟨p, hp⟩ : ∃ p, t[k]? = some p := ⟨_, List.getElem?_eq_getElem hk⟩
          obtain ⟨a, ha⟩ : ∃ a, m[0]? = some a := ⟨_, List.getElem?_eq_getElem (by omega)⟩
          have HE := Lib.hid (occI_yes h1 h2 (by omega) hp)
          have HP := Lib.hid hp
          have HA := Lib.hid ha
          have H4 := Lib.hid h4
          have hpb := (tuneB_true.1 h1).2 k p hp
          have hab := (tuneB_true.1 h2).2 0 a ha
          have HQB := Lib.hid ((tuneB_true.1 h2).2)
          obtain ⟨hp1, hp2, -⟩ := hpb
          obtain ⟨ha1, ha2, -⟩ := hab
          clear h1 h2 h4 hp ha
          go_enter Try.func24, Try.ntmps24
          go_wp2_with fail
          refine (tuneok_yes ht H1.out).mono ?_
          rintro e w1 ⟨rfl, hb1⟩
          go_wp2_with fail
          refine (tuneok_yes (Rd.below hm hb1) H2.out).mono ?_
          rintro e w2 ⟨rfl, hb2⟩
          have g2 := bstep hb1 hb2
          clear hb1 hb2
          go_wp2_with fail
          refine (in_yes _ _ _ H4.out _).mono ?_
          rintro e w3 ⟨rfl, rfl⟩
          go_wp2_with fail
          go_loopw [7] (fun v7 wr => ∃ i : Nat, i ≤ m.length ∧ v7 = .int .i64 (i : Int) ∧ Hid (∀ (j : Nat) (q : Int × Int), j < i → (offL m)[j]? = some q → hasB t (q.1 + p.1, q.2 + p.2) = true) ∧ Below w.heap.size w wr) (fun v7 _ => m.length - (intOf v7).toNat)
          case atStart => exact ⟨0, Nat.zero_le _, rfl, Lib.hid (fun j q hj => by omega), g2⟩
          case round =>
            obtain ⟨i, hi, rfl, HI, hbr⟩ := hrel
            clear g2
            by_cases hli : i < m.length
            · obtain ⟨q, hq⟩ : ∃ q, m[i]? = some q := ⟨_, List.getElem?_eq_getElem hli⟩
              have hqb := HQB.out i q hq
              obtain ⟨hq1, hq2, -⟩ := hqb
              have HO := Lib.hid (offL_at HA.out hq)
              obtain ⟨b1, o1, c1, hv1, x1, y1⟩ := Rd2.cells (Rd.below hm hbr) hq
              simp only [Value.slice.injEq, true_and] at hv1
              obtain ⟨rfl, rfl⟩ := hv1
              obtain ⟨b2, o2, c2, hv2, x2, y2⟩ := Rd2.cells (Rd.below hm hbr) HA.out
              simp only [Value.slice.injEq, true_and, Option.some.injEq, Addr.mk.injEq, and_true] at hv2
              obtain ⟨⟨rfl, rfl⟩, rfl⟩ := hv2
              simp only [Nat.zero_mul, Nat.add_zero] at x2 y2
              obtain ⟨b3, o3, c3, hv3, x3, y3⟩ := Rd2.cells (Rd.below ht hbr) HP.out
              simp only [Value.slice.injEq, true_and] at hv3
              obtain ⟨rfl, rfl⟩ := hv3
              have hm0 : 0 < m.length := by omega
              have hm0z : (0 : Int) < (m.length : Int) := by omega
              have e1 : IntKind.i64.wrap (q.1 - a.1) = q.1 - a.1 := IntWalk.i64_in _ (by omega)
              have e2 : IntKind.i64.wrap (q.1 - a.1 + p.1) = q.1 - a.1 + p.1 := IntWalk.i64_in _ (by omega)
              have e3 : IntKind.i64.wrap (q.2 - a.2) = q.2 - a.2 := IntWalk.i64_in _ (by omega)
              have e4 : IntKind.i64.wrap (q.2 - a.2 + p.2) = q.2 - a.2 + p.2 := IntWalk.i64_in _ (by omega)
              clear hq
              go_wp2_with fail
              go_region_held3 (fun w' => (w'.cell? ⟨b1, o1 + i * 2, none⟩ = some (.int .i64 q.1) ∧ w'.cell? ⟨b1, o1 + i * 2 + 1, none⟩ = some (.int .i64 q.2)) ∧ (w'.cell? ⟨b1, o1, none⟩ = some (.int .i64 a.1) ∧ w'.cell? ⟨b1, o1 + 1, none⟩ = some (.int .i64 a.2)) ∧ w'.cell? ⟨b3, o3 + k * 2, none⟩ = some (.int .i64 p.1) ∧ w'.cell? ⟨b3, o3 + k * 2 + 1, none⟩ = some (.int .i64 p.2)) (go_keep)
                (fail)
              obtain ⟨wn, hwn⟩ : ∃ wn : Int × Int, wn = (q.1 - a.1 + p.1, q.2 - a.2 + p.2) := ⟨_, rfl⟩
              have k0 : (wr.alloc (.cells #[.int .i64 (q.1 - a.1 + p.1), .int .i64 (q.2 - a.2 + p.2)] 39)).drew.cell? ⟨wr.heap.size, 0, none⟩ = some (.int .i64 wn.1) := by rw [hwn]; exact cell_new _ _ _ _
              have k1 : (wr.alloc (.cells #[.int .i64 (q.1 - a.1 + p.1), .int .i64 (q.2 - a.2 + p.2)] 39)).drew.cell? ⟨wr.heap.size, 1, none⟩ = some (.int .i64 wn.2) := by rw [hwn]; exact cell_new _ _ _ _
              have hbW : Below w.heap.size w (wr.alloc (.cells #[.int .i64 (q.1 - a.1 + p.1), .int .i64 (q.2 - a.2 + p.2)] 39)).drew := (hbr.alloc hbr.size _).drew
              generalize (wr.alloc (.cells #[.int .i64 (q.1 - a.1 + p.1), .int .i64 (q.2 - a.2 + p.2)] 39)).drew = W at *
              generalize wr.heap.size = bx at *
              have HWN := Lib.hid hwn
              clear hwn e1 e2 e3 e4 x1 y1 x2 y2 x3 y3
              go_wp2_with fail
              go_loopw [9, 10] (fun v9 v10 wi => ∃ (j : Nat) (f : Bool), j ≤ t.length ∧ v9 = .bool f ∧ Hid (f = hasB (t.take j) wn) ∧ v10 = .int .i64 j ∧ Below W.heap.size W wi) (fun _ v10 _ => t.length - (intOf v10).toNat)
              case atStart => exact ⟨0, false, Nat.zero_le _, rfl, Lib.hid (by unfold hasB; simp), rfl, Below.refl _ _⟩
              case round =>
                obtain ⟨j, f, hjl, rfl, hf, rfl, hbi⟩ := hrel
                have gi := bstep hbW hbi
                by_cases hlt2 : j < t.length
                · obtain ⟨x, hx⟩ : ∃ x, t[j]? = some x := ⟨_, List.getElem?_eq_getElem hlt2⟩
                  have HX := Lib.hid (hasB_succ wn hx)
                  obtain ⟨b4, o4, c4, hv4, x4, y4⟩ := Rd2.cells (Rd.below ht gi) hx
                  simp only [Value.slice.injEq, true_and, Option.some.injEq, Addr.mk.injEq, and_true] at hv4
                  obtain ⟨⟨rfl, rfl⟩, rfl⟩ := hv4
                  have z3 := kept_b hbi k0
                  have z4 := kept_b hbi k1
                  clear hx
                  by_cases hqp : x = wn
                  · have hE := eql_yes hqp
                    have HD := Lib.hid (decide_eq_true hqp)
                    rw [HD.out, Bool.or_true] at HX
                    clear hqp
                    cases f
                    all_goals
                      go_wp2_with fail
                      go_quiet (fail)
                      go_wp2
                      go_roundw
                      case rel => exact ⟨j + 1, true, by omega, rfl, Lib.hid HX.out.symm, by go_num, below_drewN hbi _⟩
                      case measure => simp [intOf]; omega
                  · have hE := eql_no hqp
                    have HD := Lib.hid (decide_eq_false hqp)
                    rw [HD.out, Bool.or_false, ← hf.out] at HX
                    clear hqp
                    cases f
                    all_goals
                      go_wp2_with fail
                      go_quiet (fail)
                      go_wp2
                      go_roundw
                      case rel => exact ⟨j + 1, _, by omega, rfl, Lib.hid HX.out.symm, by go_num, below_drewN hbi _⟩
                      case measure => simp [intOf]; omega
                · obtain rfl : j = t.length := by omega
                  rw [List.take_length] at hf
                  cases f with
                  | true =>
                    have HN := Lib.hid (occ_next HI.out HO.out (by rw [← HWN.out]; exact hf.out.symm))
                    clear hf
                    go_wp2
                    go_roundw
                    case rel => exact ⟨i + 1, by omega, by go_num, HN, gi⟩
                    case measure => simp [intOf]; omega
                  | false =>
                    have HN := Lib.hid (HE.out.trans (occK_false HO.out (by rw [← HWN.out]; exact hf.out.symm)))
                    clear hf
                    go_wp2
                    go_ret
                    exact ⟨by rw [HN.out]; (try rfl), gi⟩
            · obtain rfl : i = m.length := by omega
              have HN := Lib.hid (HE.out.trans (occK_true fun j q hj => HI.out j q (by have := (List.getElem?_eq_some_iff.1 hj).1; rw [offL_len] at this; exact this) hj))
              go_wp2
              go_ret
              exact ⟨by rw [HN.out]; (try rfl), hbr⟩
        · have HR := Lib.hid (occI_no (t := t) (m := m) (k := k) fun q => h4 ⟨q.2.2.2.1, by have := q.2.2.2.2; omega⟩)
          have H4 := Lib.hid h4
          clear h1 h2 h4
          go_enter Try.func24, Try.ntmps24
          go_wp2_with fail
          refine (tuneok_yes ht H1.out).mono ?_
          rintro e w1 ⟨rfl, hb1⟩
          go_wp2_with fail
          refine (tuneok_yes (Rd.below hm hb1) H2.out).mono ?_
          rintro e w2 ⟨rfl, hb2⟩
          have g2 := bstep hb1 hb2
          go_wp2_with fail
          refine (in_no _ _ _ H4.out _).mono ?_
          rintro e w3 ⟨rfl, rfl⟩
          go_wp2
          go_ret
          exact ⟨by rw [HR.out]; (try rfl), g2⟩
    · have H2 : Hid (tuneB m = false) := Lib.hid (by simpa using h2)
      have HR := Lib.hid (occI_no (t := t) (m := m) (k := k) fun q => h2 q.2.1)
      clear h1 h2
      go_enter Try.func24, Try.ntmps24
      go_wp2_with fail
      refine (tuneok_yes ht H1.out).mono ?_
      rintro e w1 ⟨rfl, hb1⟩
      go_wp2_with fail
      refine (tuneok_no (Rd.below hm hb1) H2.out).mono ?_
      rintro e w2 ⟨rfl, hb2⟩
      have g2 := bstep hb1 hb2
      go_wp2
      go_ret
      exact ⟨by rw [HR.out]; (try rfl), g2⟩
  · have H1 : Hid (tuneB t = false) := Lib.hid (by simpa using h1)
    have HR := Lib.hid (occI_no (t := t) (m := m) (k := k) fun q => h1 q.1)
    clear h1
    go_enter Try.func24, Try.ntmps24
    go_wp2_with fail
    refine (tuneok_no ht H1.out).mono ?_
    rintro e w1 ⟨rfl, hb1⟩
    go_wp2
    go_ret
    exact ⟨by rw [HR.out]; (try rfl), hb1⟩

theorem occG_is {w : World} {vt vm : Value} {t m : List (Int × Int)} {k : Int} {c : Bool} (ht : Rd2 w vt t) (hm : Rd2 w vm m) (h : occI t m k = c) :
    Calls Try.prog 24 #[vt, vm, .int .i64 k] w fun e w' => e = .returned (.bool c) ∧ Below w.heap.size w w' :=
  (occG_any k ht hm).mono fun _ _ ⟨he, hw⟩ => ⟨by rw [he, h], hw⟩

set_option maxHeartbeats 2000000 in
theorem occsG_any {w : World} {vt vm : Value} {t m : List (Int × Int)} (ht : Rd2 w vt t) (hm : Rd2 w vm m) (hl : t.length ≤ 1048576) :
    Calls Try.prog 27 #[vt, vm] w (NewInts w (occsM t m)) := by
  obtain ⟨i0, hi0, hz0, hz1, hz2⟩ := info_parts infoInt
  obtain ⟨a1, cap1, rfl⟩ := Rd.slice ht
  obtain ⟨a2, cap2, rfl⟩ := Rd.slice hm
  have hb0 : Below w.heap.size w (w.alloc (.cells #[] 3)) := (Below.refl _ _).alloc (Nat.le_refl _) _
  have ho0 : (w.alloc (.cells #[] 3)).ownsRow w.heap.size 3 1 (.slice (some ⟨w.heap.size, 0, none⟩) 0 0) 0 [] := World.ownsRow_made w #[] 0 (Nat.le_refl _) (by simp) rfl
  go_enter Try.func27, Try.ntmps27
  go_wp2_with fail
  generalize w.alloc (.cells #[] 3) = W at *
  generalize hbs : w.heap.size = bs at *
  replace hbs := Lib.hid hbs
  go_loopw [5, 6] (fun v5 v6 wr => ∃ k : Nat, k ≤ t.length ∧ v6 = .int .i64 (k : Int) ∧ wr.ownsRow bs 3 1 v5 (occL t m k).length ((occL t m k).map intV) ∧ Below bs w wr) (fun _ v6 _ => t.length - (intOf v6).toNat)
  case atStart => exact ⟨0, Nat.zero_le _, rfl, ho0, hb0⟩
  case round =>
    obtain ⟨k, hk, rfl, hown, hbr⟩ := hrel
    clear ho0 hb0
    by_cases hlt : k < t.length
    · have hlen := occL_len t m k
      have HY := Lib.hid (occL_yes (t := t) (m := m) (n := k))
      have HN := Lib.hid (occL_no (t := t) (m := m) (n := k))
      have hbr' : Below w.heap.size w wr := by rw [hbs.out]; exact hbr
      generalize hc : occI t m (k : Int) = c at *
      replace hc := Lib.hid hc
      go_wp2_with fail
      refine (occG_is (Rd.below ht hbr') (Rd.below hm hbr') hc.out).mono ?_
      rintro e w2 ⟨rfl, hb2⟩
      have ho2 := ownS_below hown hb2
      have hsz : bs ≤ wr.heap.size := by rw [← hbs.out]; exact hbr'.size
      have hb3 : Below bs w w2 := hbr.trans (hb2.mono hsz)
      have hsz2 : bs ≤ w2.heap.size := Nat.le_trans hsz hb2.size
      clear hown hbr hb2 hbr'
      cases c with
      | true =>
        have HA := Lib.hid (HY.out rfl)
        clear HY HN
        go_wp2_with (at_builtin; refine wpList_append_own _ rfl _ _ 31 rfl bs 3 i0 (.int .i64 0) 1 8 Try.underlying31 hi0 hz0 hz1 hz2 rfl (by decide) _ (occL t m k).length _ rfl (ho2.alloc _) ⟨w2.heap.size, 0, none⟩ 1 1 [.int .i64 (k : Int)] rfl rfl ?c1 ?c2 ?c3 ?c4 ?c5 ?_)
        try (case c1 => first | exact World.news_of_block (heap_alloc_new w2 _) | exact fun _ _ h => h)
        case c2 => simp [Value.oneCell']
        case c3 => unfold maxLen; omega
        case c4 => omega
        case c5 => simp; omega
        intro v' w4 hown2 hgrow _
        have hb5 := (hb3.alloc hsz2 _).grown hgrow (by simp; omega) (fun q hq => (ho2.lt q hq).1)
        have hown3 : w4.ownsRow bs 3 1 v' (occL t m (k + 1)).length ((occL t m (k + 1)).map intV) := by
          rw [HA.out, List.map_append, List.length_append]; exact hown2
        clear ho2 hown2 hgrow hb3
        go_wp2
        go_roundw
        case rel => exact ⟨k + 1, by omega, by go_num, hown3, hb5⟩
        case measure => simp [intOf]; omega
      | false =>
        have HA := Lib.hid (HN.out rfl)
        have hown3 : w2.ownsRow bs 3 1 u5 (occL t m (k + 1)).length ((occL t m (k + 1)).map intV) := by
          rw [HA.out]; exact ho2
        clear HY HN ho2
        go_wp2
        go_roundw
        case rel => exact ⟨k + 1, by omega, by go_num, hown3, hb3⟩
        case measure => simp [intOf]; omega
    · obtain rfl : k = t.length := by omega
      go_wp2
      go_ret
      exact ⟨_, rfl, by rw [hbs.out]; exact hown, by rw [hbs.out]; exact hbr⟩
end Go.Proofs.Ytglehmffmailkaa
