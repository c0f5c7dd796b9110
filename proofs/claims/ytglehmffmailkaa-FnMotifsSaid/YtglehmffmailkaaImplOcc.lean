/- The contracts of the program's PartOf, Occurrences and OccursAt. No condition. Made by gen_implmotif.py. -/
import Derived.Test.YtglehmffmailkaaMotifSub
import Derived.Test.YtglehmffmailkaaMotifSpec3
import Derived.Test.YtglehmffmailkaaMotifRep
import Derived.Test.YtglehmffmailkaaNoteIn
import Derived.Test.YtglehmffmailkaaImplSort
import Derived.Deep.CutRange
namespace Go.Proofs.Ytglehmffmailkaa
open Go.ChangeShapes Go.WideShapes Go.ChangeAt Go.RowKit

theorem i64_bd18 {n : Int} (h : (Lit.int .i64 n).wf = true) : -9223372036854775808 ≤ n ∧ n ≤ 9223372036854775807 := by
  have h1 : IntKind.i64.min = -9223372036854775808 := rfl
  have h2 : IntKind.i64.max = 9223372036854775807 := rfl
  simp only [Lit.wf, Bool.and_eq_true, decide_eq_true_eq] at h
  omega
theorem occsM_no {t m : List (Int × Int)} (h : ¬ (tuneB t = true ∧ tuneB m = true ∧ 1 ≤ m.length)) : occsM t m = [] := by
  have hk : ∀ n, occL t m n = [] := by
    intro n
    induction n with
    | zero => rfl
    | succ n ih => rw [occL_no (occI_no fun q => h ⟨q.1, q.2.1, q.2.2.1⟩), ih]
  exact hk _
theorem occI_mem {t m : List (Int × Int)} (k : Int) : decide (k ∈ occsM t m) = occI t m k := by
  unfold occsM
  cases h : occI t m k with
  | true =>
    refine decide_eq_true ((occL_mem t m k _).2 ⟨?_, h⟩)
    by_cases hk : 0 ≤ k ∧ k < (t.length : Int)
    · exact hk
    · rw [occI_no fun q => hk q.2.2.2] at h; cases h
  | false => exact decide_eq_false fun hm => by have := ((occL_mem t m k _).1 hm).2; rw [h] at this; cases this

set_option maxHeartbeats 2000000 in
theorem ipart18_any {w : World} {v : Value} {l : List (Int × Int)} (f n : Int) (bf : -9223372036854775808 ≤ f ∧ f ≤ 9223372036854775807) (bn : -9223372036854775808 ≤ n ∧ n ≤ 9223372036854775807) (hc : Rc2 w v l) :
    Calls Try.prog 16 #[v, .int .i64 f, .int .i64 n] w (NewNotesB w (partM l f n).1 (partM l f n).2) := by
  have h := hc.1
  obtain ⟨a1, cap1, rfl⟩ := Rd.slice h
  have hcap := hc.2.le
  have hm := h.2.1
  unfold maxLen at hm
  clear hc
  by_cases ht : tuneB l = true
  · have HT := Lib.hid ht
    have h40 := (tuneB_true.1 ht).1
    by_cases h1 : 0 ≤ f
    · have hd1 : decide (f < 0) = false := decide_eq_false (by omega)
      have wl : IntKind.i64.wrap ((l.length : Int) - f) = (l.length : Int) - f := IntWalk.i64_in _ (by omega)
      by_cases h2 : 0 ≤ n
      · have hd2 : decide (n < 0) = false := decide_eq_false (by omega)
        by_cases h3 : n ≤ (l.length : Int) - f
        · obtain ⟨f, rfl⟩ := Int.eq_ofNat_of_zero_le h1
          obtain ⟨n, rfl⟩ := Int.eq_ofNat_of_zero_le h2
          have hfn : f + n ≤ l.length := by omega
          have hd3 : decide ((l.length : Int) - (f : Int) < (n : Int)) = false := decide_eq_false (by omega)
          have HR := Lib.hid (partM_yes ht hfn)
          have wf : IntKind.i64.wrap ((f : Int) + (n : Int)) = (f : Int) + (n : Int) := IntWalk.i64_in _ (by omega)
          have t1 : ((f : Int) + (n : Int)).toNat = f + n := by omega
          have d1 : f + n - f = n := by omega
          have hfi : (0 : Int) ≤ (f : Int) + (n : Int) ∧ (f : Int) + (n : Int) ≤ (cap1 : Int) := by omega
          have hCP : Hid (∀ (W : World) (e : Option Addr) (c : Nat), Below w.heap.size w W → (n = 0 ∨ (∃ b o, a1 = some ⟨b, o, none⟩ ∧ e = some ⟨b, o + f * 2, none⟩)) → Calls Try.prog 53 #[.slice e n c] W (NewNotes W (sub18 l f n))) := Lib.hid (fun W e c hW hh => by
            refine clone_any (l := sub18 l f n) ?_ (by rw [sub_len hfn]; omega)
            rcases hh with rfl | ⟨b, o, rfl, rfl⟩
            · have e0 : sub18 l f 0 = [] := by unfold sub18; simp
              rw [e0]
              exact ⟨rfl, Nat.zero_le _, Or.inl ⟨rfl, e, c, rfl⟩⟩
            · exact rd2_sub (Rd.below h hW) hfn)
          have HA1 : Hid (0 < l.length → ∃ b o, a1 = some ⟨b, o, none⟩) := Lib.hid (fun hp => by
            obtain ⟨b, o, c, hv, _⟩ := Rd.pos h hp
            simp only [Value.slice.injEq] at hv
            exact ⟨b, o, hv.1⟩)
          clear ht h1 h2 h3 bf bn
          go_enter Try.func16, Try.ntmps16
          go_wp2_with fail
          refine (itune_yes h HT.out).mono ?_
          rintro e w1 ⟨rfl, hb1⟩
          go_upto_region 3 with fail
          by_cases hcf : cap1 = f
          · have HN0 : Hid (n = 0) := Lib.hid (by omega)
            go_wp2_with fail
            refine (hCP.out _ _ _ hb1 (Or.inl HN0.out)).mono ?_
            rintro e w4 ⟨v4, rfl, ho4, hb4⟩
            have hS := sub_len hfn
            go_wp2
            go_ret2
            exact ⟨v4, by rw [HR.out]; (try rfl), by rw [HR.out]; exact ownS_mono ho4 hb1.size, bstep hb1 hb4⟩
          · by_cases hl0 : 0 < l.length
            · obtain ⟨b1, o1, rfl⟩ := HA1.out hl0
              go_wp2_with fail
              refine (hCP.out _ _ _ hb1 (Or.inr ⟨b1, o1, rfl, rfl⟩)).mono ?_
              rintro e w4 ⟨v4, rfl, ho4, hb4⟩
              have hS := sub_len hfn
              go_wp2
              go_ret2
              exact ⟨v4, by rw [HR.out]; (try rfl), by rw [HR.out]; exact ownS_mono ho4 hb1.size, bstep hb1 hb4⟩
            · have HN0 : Hid (n = 0) := Lib.hid (by omega)
              cases a1
              all_goals
                go_wp2_with fail
                refine (hCP.out _ _ _ hb1 (Or.inl HN0.out)).mono ?_
                rintro e w4 ⟨v4, rfl, ho4, hb4⟩
                have hS := sub_len hfn
                go_wp2
                go_ret2
                exact ⟨v4, by rw [HR.out]; (try rfl), by rw [HR.out]; exact ownS_mono ho4 hb1.size, bstep hb1 hb4⟩
        · have HR := Lib.hid (partM_no (t := l) (f := f) (n := n) fun q => h3 q.2.2.2)
          have hd3 : decide ((l.length : Int) - f < n) = true := decide_eq_true (by omega)
          go_enter Try.func16, Try.ntmps16
          go_wp2_with fail
          refine (itune_yes h HT.out).mono ?_
          rintro e w1 ⟨rfl, hb1⟩
          go_wp2
          go_ret2
          exact ⟨_, by rw [HR.out]; (try rfl), by rw [HR.out]; exact World.ownsRow_nil _ _ _ _, hb1⟩
      · have HR := Lib.hid (partM_no (t := l) (f := f) (n := n) fun q => h2 q.2.2.1)
        have hd2 : decide (n < 0) = true := decide_eq_true (by omega)
        go_enter Try.func16, Try.ntmps16
        go_wp2_with fail
        refine (itune_yes h HT.out).mono ?_
        rintro e w1 ⟨rfl, hb1⟩
        go_wp2
        go_ret2
        exact ⟨_, by rw [HR.out]; (try rfl), by rw [HR.out]; exact World.ownsRow_nil _ _ _ _, hb1⟩
    · have HR := Lib.hid (partM_no (t := l) (f := f) (n := n) fun q => h1 q.2.1.1)
      have hd1 : decide (f < 0) = true := decide_eq_true (by omega)
      go_enter Try.func16, Try.ntmps16
      go_wp2_with fail
      refine (itune_yes h HT.out).mono ?_
      rintro e w1 ⟨rfl, hb1⟩
      go_wp2
      go_ret2
      exact ⟨_, by rw [HR.out]; (try rfl), by rw [HR.out]; exact World.ownsRow_nil _ _ _ _, hb1⟩
  · have HT : Hid (tuneB l = false) := Lib.hid (by simpa using ht)
    have HR := Lib.hid (partM_no (t := l) (f := f) (n := n) fun q => ht q.1)
    clear ht
    go_enter Try.func16, Try.ntmps16
    go_wp2_with fail
    refine (itune_no h HT.out).mono ?_
    rintro e w1 ⟨rfl, hb1⟩
    go_wp2
    go_ret2
    exact ⟨_, by rw [HR.out]; (try rfl), by rw [HR.out]; exact World.ownsRow_nil _ _ _ _, hb1⟩

set_option maxHeartbeats 2000000 in
set_option maxRecDepth 100000 in
theorem ioccs_any {w : World} {vt vm : Value} {t m : List (Int × Int)} (ht : Rd2 w vt t) (hm : Rd2 w vm m) :
    Calls Try.prog 17 #[vt, vm] w (NewInts w (occsM t m)) := by
  obtain ⟨i0, hi0, hz0, hz1, hz2⟩ := info_parts infoInt
  obtain ⟨a1, cap1, rfl⟩ := Rd.slice ht
  obtain ⟨a2, cap2, rfl⟩ := Rd.slice hm
  by_cases h1 : tuneB t = true
  · have H1 := Lib.hid h1
    have h40 := (tuneB_true.1 h1).1
    by_cases h2 : tuneB m = true
    · have H2 := Lib.hid h2
      have h41 := (tuneB_true.1 h2).1
      by_cases h3 : m.length = 0
      · have HR := Lib.hid (occsM_no (t := t) (m := m) fun q => by have := q.2.2; omega)
        obtain rfl : m = [] := List.length_eq_zero_iff.1 h3
        have hm' : Rd2 w (.slice a2 0 cap2) [] := hm
        clear h1 h2 h3 hm
        go_enter Try.func17, Try.ntmps17
        go_wp2
        go_step3
        go_wp2_with fail
        refine (itune_yes ht H1.out).mono ?_
        rintro e w1 ⟨rfl, hb1⟩
        go_wp2_with fail
        refine (itune_yes (Rd.below hm' hb1) H2.out).mono ?_
        rintro e w2 ⟨rfl, hb2⟩
        go_wp2
        dsimp only [Exit.noGoto]
        go_ret
        exact ⟨_, rfl, by rw [HR.out]; exact World.ownsRow_nil _ _ _ _, bstep hb1 hb2⟩
      · obtain ⟨m0, hm0⟩ : ∃ x, m[0]? = some x := ⟨_, List.getElem?_eq_getElem (by omega)⟩
        have HM0 := Lib.hid hm0
        have rm := (tuneB_true.1 h2).2 _ _ hm0
        have rm1 := rm.1
        have rm2 := rm.2.1
        have hmp : 1 ≤ m.length := by omega
        have hmp2 : 0 < m.length := by omega
        have hd3 : ((m.length : Int) == 0) = false := by rw [beq_eq_false_iff_ne]; omega
        have HM := Lib.hid fun (j : Nat) (x : Int × Int) (hj : m[j]? = some x) => (show (0 ≤ x.1 ∧ x.1 ≤ 1000) ∧ (0 ≤ x.2 ∧ x.2 ≤ 60) from ⟨((tuneB_true.1 h2).2 _ _ hj).1, ((tuneB_true.1 h2).2 _ _ hj).2.1⟩)
        have HTT := Lib.hid fun (j : Nat) (x : Int × Int) (hj : t[j]? = some x) => (show (0 ≤ x.1 ∧ x.1 ≤ 1000) ∧ (0 ≤ x.2 ∧ x.2 ≤ 60) from ⟨((tuneB_true.1 h1).2 _ _ hj).1, ((tuneB_true.1 h1).2 _ _ hj).2.1⟩)
        have HOI := Lib.hid fun (k : Nat) (p : Int × Int) (hk : t[k]? = some p) => occI_yes h1 h2 hmp hk
        obtain ⟨b2, o2, c2, hv2, x2, y2⟩ := Rd2.cells hm hm0
        simp only [Value.slice.injEq, true_and] at hv2
        obtain ⟨rfl, rfl⟩ := hv2
        rw [Nat.zero_mul, Nat.add_zero] at x2 y2
        clear h1 h2 h3 hm0 rm
        go_enter Try.func17, Try.ntmps17
        go_wp2
        go_step3
        go_wp2_with fail
        refine (itune_yes ht H1.out).mono ?_
        rintro e w1 ⟨rfl, hb1⟩
        go_wp2_with fail
        refine (itune_yes (Rd.below hm hb1) H2.out).mono ?_
        rintro e w2 ⟨rfl, hb2⟩
        have g2 := bstep hb1 hb2
        clear hb1 hb2
        generalize hbs : w.heap.size = bs at *
        replace hbs := Lib.hid hbs
        go_wp2
        go_step3
        go_wp2
        go_loopw [5, 26] (fun v5 v26 wr => ∃ k : Nat, k ≤ t.length ∧ v26 = .int .i64 (k : Int) ∧ wr.ownsRow bs 3 1 v5 (occL t m k).length ((occL t m k).map intV) ∧ Below bs w wr) (fun _ v26 _ => t.length - (intOf v26).toNat)
        case atStart => exact ⟨0, Nat.zero_le _, rfl, World.ownsRow_nil _ _ _ _, g2⟩
        case round =>
          obtain ⟨k, hk, rfl, hown, hbr⟩ := hrel
          clear g2
          by_cases hlt : k < t.length
          · obtain ⟨p, hp⟩ : ∃ p, t[k]? = some p := ⟨_, List.getElem?_eq_getElem hlt⟩
            have hlen := occL_len t m k
            have HY := Lib.hid (occL_yes (t := t) (m := m) (n := k))
            have HN := Lib.hid (occL_no (t := t) (m := m) (n := k))
            have hbr' : Below w.heap.size w wr := by rw [hbs.out]; exact hbr
            have hsz : bs ≤ wr.heap.size := by rw [← hbs.out]; exact hbr'.size
            have rp := HTT.out k p hp
            have rp1 := rp.1
            have rp2 := rp.2
            have e1 : IntKind.i64.wrap (p.1 - m0.1) = p.1 - m0.1 := IntWalk.i64_in _ (by omega)
            have e2 : IntKind.i64.wrap (p.2 - m0.2) = p.2 - m0.2 := IntWalk.i64_in _ (by omega)
            have HW : Hid (∀ (j : Nat) (x : Int × Int), m[j]? = some x → IntKind.i64.wrap (x.1 + (p.1 - m0.1)) = x.1 + (p.1 - m0.1) ∧ IntKind.i64.wrap (x.2 + (p.2 - m0.2)) = x.2 + (p.2 - m0.2)) := Lib.hid fun j x hx => by
              have rx := HM.out j x hx
              have rx1 := rx.1
              have rx2 := rx.2
              exact ⟨IntWalk.i64_in _ (by omega), IntWalk.i64_in _ (by omega)⟩
            have HE := Lib.hid (HOI.out k p hp)
            obtain ⟨b1, o1, c1, hv1, x1, y1⟩ := Rd2.cells (Rd.below ht hbr') hp
            simp only [Value.slice.injEq, true_and] at hv1
            obtain ⟨rfl, rfl⟩ := hv1
            clear hp rp rp1 rp2
            go_wp2_with fail
            obtain ⟨z1, z2, x3, y3, hbs1, hown1⟩ : ((wr.alloc (.cells #[.int .i64 p.1, .int .i64 p.2] 39)).cell? ⟨wr.heap.size, 0, none⟩ = some (.int .i64 p.1)) ∧ ((wr.alloc (.cells #[.int .i64 p.1, .int .i64 p.2] 39)).cell? ⟨wr.heap.size, 1, none⟩ = some (.int .i64 p.2)) ∧
              ((wr.alloc (.cells #[.int .i64 p.1, .int .i64 p.2] 39)).cell? ⟨b2, o2, none⟩ = some (.int .i64 m0.1)) ∧ ((wr.alloc (.cells #[.int .i64 p.1, .int .i64 p.2] 39)).cell? ⟨b2, o2 + 1, none⟩ = some (.int .i64 m0.2)) ∧ Below wr.heap.size wr (wr.alloc (.cells #[.int .i64 p.1, .int .i64 p.2] 39)) ∧ (wr.alloc (.cells #[.int .i64 p.1, .int .i64 p.2] 39)).ownsRow bs 3 1 u5 (occL t m k).length ((occL t m k).map intV) :=
              ⟨cell0 _ _ _ _, cell0 _ _ _ _, kept_b ((Below.refl _ _).alloc (Nat.le_refl _) _) (kept_b hbr' x2), kept_b ((Below.refl _ _).alloc (Nat.le_refl _) _) (kept_b hbr' y2), (Below.refl _ _).alloc (Nat.le_refl _) _, hown.alloc _⟩
            generalize wr.alloc (.cells #[.int .i64 p.1, .int .i64 p.2] 39) = W1 at *
            go_region_held3 (fun w' => w'.cell? ⟨wr.heap.size, 0, none⟩ = some (.int .i64 p.1) ∧ w'.cell? ⟨wr.heap.size, 1, none⟩ = some (.int .i64 p.2) ∧ w'.cell? ⟨b2, o2, none⟩ = some (.int .i64 m0.1) ∧ w'.cell? ⟨b2, o2 + 1, none⟩ = some (.int .i64 m0.2)) (go_keep)
              ((go_at_call 54; (with_reducible refine (moveonto_any m0 p e1 e2).mono ?_); rintro e w3 ⟨bt, bp, rfl, hmv, hb3⟩; have q1 := kept_cell hb3 z1; have q2 := kept_cell hb3 z2; have q3 := kept_cell hb3 x3; have q4 := kept_cell hb3 y3))
            have gw1 := bstep hbr' (bstep hbs1 (below_undrew hb3))
            have hown3 := ownS_below hown1 (below_undrew hb3)
            clear hb3 q1 q2 q3 q4 z1 z2 x3 y3 hbs1 hown1 x1 y1 e1 e2 hown hbr hbr'
            go_wp2
            go_loopw [38] (fun v38 wx => ∃ j : Nat, j ≤ m.length ∧ v38 = .int .i64 (j : Int) ∧ Hid (∀ (i : Nat) (q : Int × Int), i < j → (offL m)[i]? = some q → hasB t (q.1 + p.1, q.2 + p.2) = true) ∧ Below w3.heap.size w3 wx) (fun v38 _ => m.length - (intOf v38).toNat)
            case atStart => exact ⟨0, Nat.zero_le _, rfl, Lib.hid fun i q hi => by omega, Below.refl _ _⟩
            case round =>
              obtain ⟨j, hj, rfl, HI, hbx⟩ := hrel
              have gx := bstep gw1 hbx
              by_cases hjl : j < m.length
              · obtain ⟨x, hx⟩ : ∃ x, m[j]? = some x := ⟨_, List.getElem?_eq_getElem hjl⟩
                have HXO := Lib.hid (offL_at HM0.out hx)
                have HWX := Lib.hid (HW.out j x hx)
                obtain ⟨b4, o4, c4, hv4, x4, y4⟩ := Rd2.cells (Rd.below hm gx) hx
                simp only [Value.slice.injEq, true_and, Option.some.injEq, Addr.mk.injEq, and_true] at hv4
                obtain ⟨⟨rfl, rfl⟩, rfl⟩ := hv4
                clear hx
                go_wp2_with fail
                have hba : Below wr.heap.size wr (wr.alloc (.cells #[.int .i64 x.1, .int .i64 x.2] 39)) := (Below.refl _ _).alloc (Nat.le_refl _) _
                have gal := bstep hbx hba
                have hmv2 := hmv.below gal
                refine (mvcall_any x hmv2 HWX.out.1 HWX.out.2).mono ?_
                rintro e w5 ⟨rfl, hg5⟩
                have g5 := bstep gal hg5.below
                have gw5 := bstep gw1 g5
                clear hba gal hmv2 hg5 x4 y4
                have hin : hasB t (x.1 - m0.1 + p.1, x.2 - m0.2 + p.2) = memB t (x.1 + (p.1 - m0.1), x.2 + (p.2 - m0.2)) := by
                  rw [show ((x.1 - m0.1 + p.1, x.2 - m0.2 + p.2) : Int × Int) = (x.1 + (p.1 - m0.1), x.2 + (p.2 - m0.2)) from Prod.ext (by simp only; omega) (by simp only; omega)]
                  rfl
                have HIN := Lib.hid hin
                clear hin
                cases hmem : memB t (x.1 + (p.1 - m0.1), x.2 + (p.2 - m0.2)) with
                | true =>
                  have HI2 := Lib.hid (occ_next HI.out HXO.out (by rw [HIN.out]; exact hmem))
                  have HMEM := Lib.hid hmem
                  clear hmem
                  go_wp2_with fail
                  refine (contains_yes (x := (x.1 + (p.1 - m0.1), x.2 + (p.2 - m0.2))) (Rd.below ht gw5) (by omega) HMEM.out).mono ?_
                  rintro e w6 ⟨rfl, hb6⟩
                  have g6 := bstep g5 hb6
                  go_wp2
                  go_roundw
                  case rel => exact ⟨j + 1, by omega, by go_num, HI2, g6⟩
                  case measure => simp [intOf]; omega
                | false =>
                  have HNO := Lib.hid (HE.out.trans (occK_false HXO.out (by rw [HIN.out]; exact hmem)))
                  have HMEM := Lib.hid hmem
                  clear hmem
                  go_wp2_with fail
                  refine (contains_no (x := (x.1 + (p.1 - m0.1), x.2 + (p.2 - m0.2))) (Rd.below ht gw5) (by omega) HMEM.out).mono ?_
                  rintro e w6 ⟨rfl, hb6⟩
                  have g6 := bstep gw5 hb6
                  have hown6 : w6.ownsRow bs 3 1 u5 (occL t m (k + 1)).length ((occL t m (k + 1)).map intV) := by
                    rw [HN.out HNO.out]; exact ownS_below hown3 (bstep g5 hb6)
                  have hbr6 : Below bs w w6 := by rw [← hbs.out]; exact g6
                  go_wp2
                  go_roundw
                  case rel => exact ⟨k + 1, by omega, by go_num, hown6, hbr6⟩
                  case measure => simp [intOf]; omega
              · obtain rfl : j = m.length := by omega
                have HYES := Lib.hid (HE.out.trans (occK_true fun j q hj => HI.out j q (by have := (List.getElem?_eq_some_iff.1 hj).1; rw [offL_len] at this; exact this) hj))
                have HA := Lib.hid (HY.out HYES.out)
                have ho2 := ownS_below hown3 hbx
                have hb3 : Below bs w wr := by rw [← hbs.out]; exact gx
                have hsz2 : bs ≤ wr.heap.size := by rw [← hbs.out]; exact gx.size
                clear HY HN hown3
                go_wp2_with (at_builtin; refine wpList_append_own _ rfl _ _ 31 rfl bs 3 i0 (.int .i64 0) 1 8 Try.underlying31 hi0 hz0 hz1 hz2 rfl (by decide) _ (occL t m k).length _ rfl (ho2.alloc _) ⟨wr.heap.size, 0, none⟩ 1 1 [.int .i64 (k : Int)] rfl rfl ?c1 ?c2 ?c3 ?c4 ?c5 ?_)
                try (case c1 => first | exact World.news_of_block (heap_alloc_new wr _) | exact fun _ _ h => h)
                case c2 => simp [Value.oneCell']
                case c3 => unfold maxLen; omega
                case c4 => omega
                case c5 => simp; omega
                intro v' w4 hown2 hgrow _
                have hb5 := (hb3.alloc hsz2 _).grown hgrow (by simp; omega) (fun q hq => (ho2.lt q hq).1)
                have hown4 : w4.ownsRow bs 3 1 v' (occL t m (k + 1)).length ((occL t m (k + 1)).map intV) := by
                  rw [HA.out, List.map_append, List.length_append]; exact hown2
                clear ho2 hown2 hgrow hb3
                go_wp2
                go_roundw
                case rel => exact ⟨k + 1, by omega, by go_num, hown4, hb5⟩
                case measure => simp [intOf]; omega
          · obtain rfl : k = t.length := by omega
            go_wp2
            go_ret
            exact ⟨_, rfl, by rw [hbs.out]; exact hown, by rw [hbs.out]; exact hbr⟩
    · have H2 : Hid (tuneB m = false) := Lib.hid (by simpa using h2)
      have HR := Lib.hid (occsM_no (t := t) (m := m) fun q => h2 q.2.1)
      clear h1 h2
      go_enter Try.func17, Try.ntmps17
      go_wp2
      go_step3
      go_wp2_with fail
      refine (itune_yes ht H1.out).mono ?_
      rintro e w1 ⟨rfl, hb1⟩
      go_wp2_with fail
      refine (itune_no (Rd.below hm hb1) H2.out).mono ?_
      rintro e w2 ⟨rfl, hb2⟩
      go_wp2
      dsimp only [Exit.noGoto]
      go_ret
      exact ⟨_, rfl, by rw [HR.out]; exact World.ownsRow_nil _ _ _ _, bstep hb1 hb2⟩
  · have H1 : Hid (tuneB t = false) := Lib.hid (by simpa using h1)
    have HR := Lib.hid (occsM_no (t := t) (m := m) fun q => h1 q.1)
    clear h1
    go_enter Try.func17, Try.ntmps17
    go_wp2
    go_step3
    go_wp2_with fail
    refine (itune_no ht H1.out).mono ?_
    rintro e w1 ⟨rfl, hb1⟩
    go_wp2
    dsimp only [Exit.noGoto]
    go_ret
    exact ⟨_, rfl, by rw [HR.out]; exact World.ownsRow_nil _ _ _ _, hb1⟩

theorem ioccurs_any {w : World} {vt vm : Value} {t m : List (Int × Int)} (k : Int) (ht : Rd2 w vt t) (hm : Rd2 w vm m) (hl : t.length ≤ 1048576) :
    Calls Try.prog 19 #[vt, vm, .int .i64 k] w fun e w' => e = .returned (.bool (occI t m k)) ∧ Below w.heap.size w w' := by
  have hol := occsM_len t m
  go_enter Try.func19, Try.ntmps19
  go_wp2_with fail
  refine (ioccs_any ht hm).mono ?_
  rintro e w1 ⟨v1, rfl, ho1, hb1⟩
  go_wp2_with fail
  refine (containsI_any k (Rd.of_own ho1 : Rd1 w1 v1 (occsM t m)) (by omega)).mono ?_
  rintro e w2 ⟨rfl, hb2⟩
  have HM := Lib.hid (occI_mem (t := t) (m := m) k)
  have g2 := bstep hb1 hb2
  clear hb1 hb2
  go_wp2
  go_ret
  exact ⟨by rw [← HM.out]; rfl, g2⟩
end Go.Proofs.Ytglehmffmailkaa
