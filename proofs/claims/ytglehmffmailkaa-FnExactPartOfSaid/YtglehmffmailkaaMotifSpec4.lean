/- The contract of chapter 18's model: PartOf. No condition. Made by gen_motif.py. -/
import Derived.Test.YtglehmffmailkaaMotifSub
import Derived.Deep.CutRange
namespace Go.Proofs.Ytglehmffmailkaa
open Go.ChangeShapes Go.WideShapes Go.ChangeAt Go.RowKit

set_option maxHeartbeats 2000000 in
theorem partG18_any {w : World} {v : Value} {l : List (Int × Int)} (f n : Int) (hc : Rc2 w v l) :
    Calls Try.prog 34 #[v, .int .i64 f, .int .i64 n] w (NewNotesB w (partM l f n).1 (partM l f n).2) := by
  have h := hc.1
  obtain ⟨a1, cap1, rfl⟩ := Rd.slice h
  have hcap := hc.2.le
  have hm := h.2.1
  unfold maxLen at hm
  clear hc
  have hno : ∀ W : World, Below w.heap.size w W → Below w.heap.size w (W.alloc (.cells #[] 39)) ∧ (W.alloc (.cells #[] 39)).ownsRow w.heap.size 39 2 (.slice (some ⟨W.heap.size, 0, none⟩) 0 0) 0 [] := fun W hW =>
    ⟨hW.alloc hW.size _, ownS_mono (World.ownsRow_made W #[] 0 (Nat.le_refl _) (by simp) rfl) hW.size⟩
  replace hno := Lib.hid hno
  by_cases ht : tuneB l = true
  · have HT := Lib.hid ht
    have h40 := (tuneB_true.1 ht).1
    by_cases h1 : 0 ≤ f ∧ f ≤ (l.length : Int)
    · by_cases h2 : 0 ≤ n ∧ n ≤ (l.length : Int) - f
      · obtain ⟨f, rfl⟩ := Int.eq_ofNat_of_zero_le h1.1
        obtain ⟨n, rfl⟩ := Int.eq_ofNat_of_zero_le h2.1
        have hfn : f + n ≤ l.length := by omega
        have HR := Lib.hid (partM_yes ht hfn)
        have H1 := Lib.hid h1
        have H2 := Lib.hid h2
        have wl : IntKind.i64.wrap ((l.length : Int) - (f : Int)) = (l.length : Int) - (f : Int) := IntWalk.i64_in _ (by omega)
        have wf : IntKind.i64.wrap ((f : Int) + (n : Int)) = (f : Int) + (n : Int) := IntWalk.i64_in _ (by omega)
        have t1 : ((f : Int) + (n : Int)).toNat = f + n := by omega
        have d1 : f + n - f = n := by omega
        have hfi : (0 : Int) ≤ (f : Int) + (n : Int) ∧ (f : Int) + (n : Int) ≤ (cap1 : Int) := by omega
        have hCP : Hid (∀ (W : World) (e : Option Addr) (c : Nat), Below w.heap.size w W → (n = 0 ∨ (∃ b o, a1 = some ⟨b, o, none⟩ ∧ e = some ⟨b, o + f * 2, none⟩)) → Calls Try.prog 58 #[.slice e n c] W (NewNotes W (sub18 l f n))) := Lib.hid (fun W e c hW hh => by
          refine copy_any (l := sub18 l f n) ?_ (by rw [sub_len hfn]; omega)
          rcases hh with rfl | ⟨b, o, rfl, rfl⟩
          · have e0 : sub18 l f 0 = [] := by unfold sub18; simp
            rw [e0]
            exact ⟨rfl, Nat.zero_le _, Or.inl ⟨rfl, e, c, rfl⟩⟩
          · exact rd2_sub (Rd.below h hW) hfn)
        have HA1 : Hid (0 < l.length → ∃ b o, a1 = some ⟨b, o, none⟩) := Lib.hid (fun hp => by
          obtain ⟨b, o, c, hv, _⟩ := Rd.pos h hp
          simp only [Value.slice.injEq] at hv
          exact ⟨b, o, hv.1⟩)
        clear ht h1 h2
        go_enter Try.func34, Try.ntmps34
        go_wp2_with fail
        refine (tuneok_yes h HT.out).mono ?_
        rintro e w1 ⟨rfl, hb1⟩
        go_wp2_with fail
        refine (in_yes _ _ _ H1.out _).mono ?_
        rintro e w2 ⟨rfl, rfl⟩
        go_wp2_with fail
        refine (in_yes _ _ _ H2.out _).mono ?_
        rintro e w2 ⟨rfl, rfl⟩
        go_upto_region 3 with fail
        by_cases hcf : cap1 = f
        · have HN0 : Hid (n = 0) := Lib.hid (by omega)
          go_wp2_with fail
          refine (hCP.out _ _ _ hb1 (Or.inl HN0.out)).mono ?_
          rintro e w4 ⟨v4, rfl, ho4, hb4⟩
          have hS := sub_len hfn
          go_wp2
          go_ret2
          exact ⟨v4, by rw [HR.out]; (try rfl), by rw [HR.out]; exact ownS_mono ho4 hb1.size, bstep hb1 hb4⟩
        · by_cases hl0 : 0 < l.length
          · obtain ⟨b1, o1, rfl⟩ := HA1.out hl0
            go_wp2_with fail
            refine (hCP.out _ _ _ hb1 (Or.inr ⟨b1, o1, rfl, rfl⟩)).mono ?_
            rintro e w4 ⟨v4, rfl, ho4, hb4⟩
            have hS := sub_len hfn
            go_wp2
            go_ret2
            exact ⟨v4, by rw [HR.out]; (try rfl), by rw [HR.out]; exact ownS_mono ho4 hb1.size, bstep hb1 hb4⟩
          · have HN0 : Hid (n = 0) := Lib.hid (by omega)
            cases a1
            all_goals
              go_wp2_with fail
              refine (hCP.out _ _ _ hb1 (Or.inl HN0.out)).mono ?_
              rintro e w4 ⟨v4, rfl, ho4, hb4⟩
              have hS := sub_len hfn
              go_wp2
              go_ret2
              exact ⟨v4, by rw [HR.out]; (try rfl), by rw [HR.out]; exact ownS_mono ho4 hb1.size, bstep hb1 hb4⟩
      · have HR := Lib.hid (partM_no (t := l) (f := f) (n := n) fun q => h2 q.2.2)
        have wl : IntKind.i64.wrap ((l.length : Int) - f) = (l.length : Int) - f := IntWalk.i64_in _ (by omega)
        have H1 := Lib.hid h1
        have H2 := Lib.hid h2
        clear ht h1 h2
        go_enter Try.func34, Try.ntmps34
        go_wp2_with fail
        refine (tuneok_yes h HT.out).mono ?_
        rintro e w1 ⟨rfl, hb1⟩
        go_wp2_with fail
        refine (in_yes _ _ _ H1.out _).mono ?_
        rintro e w2 ⟨rfl, rfl⟩
        go_wp2_with fail
        refine (in_no _ _ _ H2.out _).mono ?_
        rintro e w2 ⟨rfl, rfl⟩
        go_wp2
        go_ret2
        exact ⟨_, by rw [HR.out]; (try rfl), by rw [HR.out]; exact (hno.out _ hb1).2, (hno.out _ hb1).1⟩
    · have HR := Lib.hid (partM_no (t := l) (f := f) (n := n) fun q => h1 q.2.1)
      have H1 := Lib.hid h1
      clear ht h1
      go_enter Try.func34, Try.ntmps34
      go_wp2_with fail
      refine (tuneok_yes h HT.out).mono ?_
      rintro e w1 ⟨rfl, hb1⟩
      go_wp2_with fail
      refine (in_no _ _ _ H1.out _).mono ?_
      rintro e w2 ⟨rfl, rfl⟩
      go_wp2
      go_ret2
      exact ⟨_, by rw [HR.out]; (try rfl), by rw [HR.out]; exact (hno.out _ hb1).2, (hno.out _ hb1).1⟩
  · have HT : Hid (tuneB l = false) := Lib.hid (by simpa using ht)
    have HR := Lib.hid (partM_no (t := l) (f := f) (n := n) fun q => ht q.1)
    clear ht
    go_enter Try.func34, Try.ntmps34
    go_wp2_with fail
    refine (tuneok_no h HT.out).mono ?_
    rintro e w1 ⟨rfl, hb1⟩
    go_wp2
    go_ret2
    exact ⟨_, by rw [HR.out]; (try rfl), by rw [HR.out]; exact (hno.out _ hb1).2, (hno.out _ hb1).1⟩
end Go.Proofs.Ytglehmffmailkaa
