/- The contract of chapter 3's model: SameTune. No condition. -/
import Derived.Test.YtglehmffmailkaaSortSpec
namespace Go.Proofs.Ytglehmffmailkaa
open Go.ChangeShapes Go.WideShapes Go.ChangeAt Go.RowKit

/-- Each note less the first one. -/
def offL (l : List (Int × Int)) : List (Int × Int) := l.map fun p => (p.1 - (l.headD (0, 0)).1, p.2 - (l.headD (0, 0)).2)
theorem offL_len (l : List (Int × Int)) : (offL l).length = l.length := by unfold offL; simp
theorem offL_at {l : List (Int × Int)} {k : Nat} {a p : Int × Int} (h0 : l[0]? = some a) (h : l[k]? = some p) : (offL l)[k]? = some (p.1 - a.1, p.2 - a.2) := by
  unfold offL
  cases l with
  | nil => simp at h0
  | cons x r =>
    obtain rfl : x = a := by simpa using h0
    rw [List.getElem?_map, h]; rfl
noncomputable def sameM (a b : List (Int × Int)) : Bool := tuneB a && tuneB b && decide (offL a = offL b)
theorem sameM_a {a b : List (Int × Int)} (h : tuneB a = false) : sameM a b = false := by unfold sameM; rw [h]; rfl
theorem sameM_b {a b : List (Int × Int)} (h : tuneB b = false) : sameM a b = false := by unfold sameM; rw [h]; simp
theorem sameM_ne {a b : List (Int × Int)} (h : ¬ offL a = offL b) : sameM a b = false := by unfold sameM; simp [h]
theorem sameM_yes {a b : List (Int × Int)} (h1 : tuneB a = true) (h2 : tuneB b = true) (h : offL a = offL b) : sameM a b = true := by unfold sameM; simp [h1, h2, h]
theorem sameM_len {a b : List (Int × Int)} (h : ¬ a.length = b.length) : sameM a b = false := sameM_ne fun e => h (by rw [← offL_len a, ← offL_len b, e])
theorem off_zero {a b : List (Int × Int)} (h : a.length = b.length) : (offL a)[0]? = (offL b)[0]? := by
  cases a with
  | nil => cases b with
    | nil => rfl
    | cons y s => simp at h
  | cons x r => cases b with
    | nil => simp at h
    | cons y s => simp [offL]
theorem off_all {a b : List (Int × Int)} {k : Nat} (h : a.length = b.length) (hk : a.length ≤ k) (hj : ∀ j, j < k → (offL a)[j]? = (offL b)[j]?) : offL a = offL b := by
  apply List.ext_getElem?
  intro j
  rcases Nat.lt_or_ge j k with hl | hl
  · exact hj j hl
  · rw [List.getElem?_eq_none (by rw [offL_len]; omega), List.getElem?_eq_none (by rw [offL_len]; omega)]
theorem off_next {a b : List (Int × Int)} {k : Nat} {x y p q : Int × Int} (hx : a[0]? = some x) (hy : b[0]? = some y) (hp : a[k]? = some p) (hq : b[k]? = some q)
    (h1 : p.1 - x.1 = q.1 - y.1) (h2 : p.2 - x.2 = q.2 - y.2) (hj : ∀ j, j < k → (offL a)[j]? = (offL b)[j]?) : ∀ j, j < k + 1 → (offL a)[j]? = (offL b)[j]? := fun j hl => by
  rcases Nat.lt_or_ge j k with h | h
  · exact hj j h
  · obtain rfl : j = k := by omega
    rw [offL_at hx hp, offL_at hy hq, h1, h2]
theorem off_ne {a b : List (Int × Int)} {k : Nat} {x y p q : Int × Int} (hx : a[0]? = some x) (hy : b[0]? = some y) (hp : a[k]? = some p) (hq : b[k]? = some q)
    (h : ¬ (p.1 - x.1 = q.1 - y.1 ∧ p.2 - x.2 = q.2 - y.2)) : ¬ offL a = offL b := fun e => h (by
  have h1 := offL_at hx hp
  rw [e, offL_at hy hq] at h1
  simp only [Option.some.injEq, Prod.mk.injEq] at h1
  exact ⟨h1.1.symm, h1.2.symm⟩)

set_option maxHeartbeats 4000000 in
theorem same_any {w : World} {va vb : Value} {la lb : List (Int × Int)} (ha : Rd2 w va la) (hb : Rd2 w vb lb) :
    Calls Try.prog 36 #[va, vb] w fun e w' => e = .returned (.bool (sameM la lb)) ∧ Below w.heap.size w w' := by
  obtain ⟨a1, cap1, rfl⟩ := Rd.slice ha
  obtain ⟨a2, cap2, rfl⟩ := Rd.slice hb
  by_cases hta : tuneB la = true
  · have HTA := Lib.hid hta
    have h40a := (tuneB_true.1 hta).1
    by_cases htb : tuneB lb = true
    · have HTB := Lib.hid htb
      have h40b := (tuneB_true.1 htb).1
      clear hta htb
      by_cases hlen : la.length = lb.length
      · have hl1 : ((la.length : Int) == (lb.length : Int)) = true := by rw [hlen]; simp
        have HL := Lib.hid hlen
        clear hlen
        go_enter Try.func36, Try.ntmps36
        go_wp2_with fail
        refine (tuneok_yes ha HTA.out).mono ?_
        rintro e w1 ⟨rfl, g1⟩
        go_wp2_with fail
        refine (tuneok_yes (Rd.below hb g1) HTB.out).mono ?_
        rintro e w2 ⟨rfl, hb2⟩
        have g2 := bstep g1 hb2
        clear hb2 g1
        go_wp2_with fail
        go_loopw [5] (fun v5 wr => ∃ k : Nat, 1 ≤ k ∧ (k ≤ la.length ∨ k = 1) ∧ v5 = .int .i64 k ∧ Hid (∀ j, j < k → (offL la)[j]? = (offL lb)[j]?) ∧ Below w.heap.size w wr) (fun v5 _ => la.length - (intOf v5).toNat)
        case atStart => exact ⟨1, Nat.le_refl _, Or.inr rfl, rfl, Lib.hid (fun j hj => (show j = 0 by omega) ▸ off_zero HL.out), g2⟩
        case round =>
          obtain ⟨k, hk1, hk2, rfl, hoff, hbr⟩ := hrel
          clear g2
          by_cases hlt : k < la.length
          · obtain ⟨p, hp⟩ : ∃ p, la[k]? = some p := ⟨_, List.getElem?_eq_getElem hlt⟩
            obtain ⟨q, hq⟩ : ∃ q, lb[k]? = some q := ⟨_, List.getElem?_eq_getElem (by have := HL.out; omega)⟩
            obtain ⟨x, hx⟩ : ∃ x, la[0]? = some x := ⟨_, List.getElem?_eq_getElem (by omega)⟩
            obtain ⟨y, hy⟩ : ∃ y, lb[0]? = some y := ⟨_, List.getElem?_eq_getElem (by have := HL.out; omega)⟩
            have hltb : k < lb.length := by have := HL.out; omega
            have hpa : 0 < la.length := by omega
            have hpb : 0 < lb.length := by omega
            have ta := tuneB_true.1 HTA.out
            have tb := tuneB_true.1 HTB.out
            obtain ⟨rp1, rp2, -⟩ := ta.2 _ _ hp
            obtain ⟨rx1, rx2, -⟩ := ta.2 _ _ hx
            obtain ⟨rq1, rq2, -⟩ := tb.2 _ _ hq
            obtain ⟨ry1, ry2, -⟩ := tb.2 _ _ hy
            clear ta tb
            obtain ⟨b1, o1, c1, hv1, x1, y1⟩ := Rd2.cells (Rd.below ha hbr) hx
            obtain ⟨b2, o2, c2, hv2, x2, y2⟩ := Rd2.cells (Rd.below ha hbr) hp
            obtain ⟨b3, o3, c3, hv3, x3, y3⟩ := Rd2.cells (Rd.below hb hbr) hy
            obtain ⟨b4, o4, c4, hv4, x4, y4⟩ := Rd2.cells (Rd.below hb hbr) hq
            simp only [Value.slice.injEq, true_and] at hv1
            obtain ⟨rfl, rfl⟩ := hv1
            simp only [Value.slice.injEq, true_and, Option.some.injEq, Addr.mk.injEq, and_true] at hv2
            obtain ⟨⟨rfl, rfl⟩, rfl⟩ := hv2
            simp only [Value.slice.injEq, true_and] at hv3
            obtain ⟨rfl, rfl⟩ := hv3
            simp only [Value.slice.injEq, true_and, Option.some.injEq, Addr.mk.injEq, and_true] at hv4
            obtain ⟨⟨rfl, rfl⟩, rfl⟩ := hv4
            rw [Nat.zero_mul, Nat.add_zero] at x1 y1 x3 y3
            have e1 : IntKind.i64.wrap (p.1 - x.1) = p.1 - x.1 := IntWalk.i64_in _ (by omega)
            have e2 : IntKind.i64.wrap (q.1 - y.1) = q.1 - y.1 := IntWalk.i64_in _ (by omega)
            have e3 : IntKind.i64.wrap (p.2 - x.2) = p.2 - x.2 := IntWalk.i64_in _ (by omega)
            have e4 : IntKind.i64.wrap (q.2 - y.2) = q.2 - y.2 := IntWalk.i64_in _ (by omega)
            by_cases h1 : p.1 - x.1 = q.1 - y.1
            · have f1 : (p.1 - x.1 == q.1 - y.1) = true := by simpa using h1
              have k1 : (p.1 - x.1 != q.1 - y.1) = false := by rw [bne, f1]; rfl
              by_cases h2 : p.2 - x.2 = q.2 - y.2
              · have f2 : (p.2 - x.2 == q.2 - y.2) = true := by simpa using h2
                have k2 : (p.2 - x.2 != q.2 - y.2) = false := by rw [bne, f2]; rfl
                have HN := Lib.hid (off_next hx hy hp hq h1 h2 hoff.out)
                clear hx hy hp hq h1 h2
                go_wp2_with fail
                go_quiet (fail)
                go_wp2
                go_roundw
                case rel => exact ⟨k + 1, by omega, Or.inl (by omega), by go_num, HN, below_drewN hbr _⟩
                case measure => simp [intOf]; omega
              · have f2 : (p.2 - x.2 == q.2 - y.2) = false := by simpa using h2
                have k2 : (p.2 - x.2 != q.2 - y.2) = true := by rw [bne, f2]; rfl
                have HN := Lib.hid (sameM_ne (off_ne hx hy hp hq (fun hh => h2 hh.2)))
                clear hx hy hp hq h1 h2
                go_wp2_with fail
                go_quiet (fail)
                go_wp2
                go_ret
                exact ⟨by rw [HN.out]; rfl, below_drewN hbr _⟩
            · have f1 : (p.1 - x.1 == q.1 - y.1) = false := by simpa using h1
              have k1 : (p.1 - x.1 != q.1 - y.1) = true := by rw [bne, f1]; rfl
              have HN := Lib.hid (sameM_ne (off_ne hx hy hp hq (fun hh => h1 hh.1)))
              clear hx hy hp hq h1
              go_wp2_with fail
              go_quiet (fail)
              go_wp2
              go_ret
              exact ⟨by rw [HN.out]; rfl, below_drewN hbr _⟩
          · have HM := Lib.hid (sameM_yes HTA.out HTB.out (off_all HL.out (k := k) (by omega) hoff.out))
            go_wp2
            go_ret
            exact ⟨by rw [HM.out]; rfl, hbr⟩
      · have hl1 : ((la.length : Int) == (lb.length : Int)) = false := by simp; omega
        have HM := Lib.hid (sameM_len hlen)
        go_enter Try.func36, Try.ntmps36
        go_wp2_with fail
        refine (tuneok_yes ha HTA.out).mono ?_
        rintro e w1 ⟨rfl, g1⟩
        go_wp2_with fail
        refine (tuneok_yes (Rd.below hb g1) HTB.out).mono ?_
        rintro e w2 ⟨rfl, hb2⟩
        have g2 := bstep g1 hb2
        clear hb2 g1
        go_wp2
        go_ret
        exact ⟨by rw [HM.out]; rfl, g2⟩
    · have htb' : tuneB lb = false := by simpa using htb
      have HTB := Lib.hid htb'
      have HM := Lib.hid (sameM_b (a := la) htb')
      clear hta htb htb'
      go_enter Try.func36, Try.ntmps36
      go_wp2_with fail
      refine (tuneok_yes ha HTA.out).mono ?_
      rintro e w1 ⟨rfl, g1⟩
      go_wp2_with fail
      refine (tuneok_no (Rd.below hb g1) HTB.out).mono ?_
      rintro e w2 ⟨rfl, hb2⟩
      have g2 := bstep g1 hb2
      clear hb2 g1
      go_wp2
      go_ret
      exact ⟨by rw [HM.out]; rfl, g2⟩
  · have hta' : tuneB la = false := by simpa using hta
    have HTA := Lib.hid hta'
    have HM := Lib.hid (sameM_a (b := lb) hta')
    clear hta hta'
    go_enter Try.func36, Try.ntmps36
    go_wp2_with fail
    refine (tuneok_no ha HTA.out).mono ?_
    rintro e w1 ⟨rfl, g1⟩
    go_wp2
    go_ret
    exact ⟨by rw [HM.out]; rfl, g1⟩
end Go.Proofs.Ytglehmffmailkaa
