/- The contracts of chapter 2's model: l01In, l02Less, TuneOk. No condition. -/
import Derived.Test.YtcbdoldcdgaooaaNotes
namespace Go.Proofs.Ytcbdoldcdgaooaa
open Go.ChangeShapes Go.WideShapes Go.ChangeAt Go.RowKit

def inB (x lo hi : Int) : Bool := decide (lo ≤ x ∧ x ≤ hi)
def lessB (p q : Int × Int) : Bool := decide (p.1 < q.1 ∨ (p.1 = q.1 ∧ p.2 < q.2))
theorem inB_true {x lo hi : Int} (h : lo ≤ x ∧ x ≤ hi) : inB x lo hi = true := decide_eq_true h
theorem inB_false {x lo hi : Int} (h : ¬ (lo ≤ x ∧ x ≤ hi)) : inB x lo hi = false := decide_eq_false h

/-- What TuneOk asks of the note at place k. -/
def NoteOk (l : List (Int × Int)) (k : Nat) (p : Int × Int) : Prop := (0 ≤ p.1 ∧ p.1 ≤ 1000) ∧ (0 ≤ p.2 ∧ p.2 ≤ 60) ∧ ∀ i q, k = i + 1 → l[i]? = some q → lessB q p = true
def TuneP (l : List (Int × Int)) : Prop := l.length ≤ 40 ∧ ∀ k p, l[k]? = some p → NoteOk l k p
open Classical in
noncomputable def tuneB (l : List (Int × Int)) : Bool := decide (TuneP l)
theorem tuneB_true {l : List (Int × Int)} : tuneB l = true ↔ TuneP l := by unfold tuneB; simp
theorem tuneB_false {l : List (Int × Int)} : tuneB l = false ↔ ¬ TuneP l := by unfold tuneB; simp

theorem ret_b {a b : Bool} (h : a = b) : Ending.returned (.bool a) = .returned (.bool b) := by rw [h]

theorem in_any (x lo hi : Int) (w : World) :
    Calls Try.prog 90 #[.int .i64 x, .int .i64 lo, .int .i64 hi] w fun e w' => e = .returned (.bool (inB x lo hi)) ∧ w = w' := by
  by_cases h1 : lo ≤ x <;> by_cases h2 : x ≤ hi
  all_goals
    go_enter Try.func90, Try.ntmps90
    go_wp2
    go_ret
    exact ⟨by unfold inB; simp; omega, rfl⟩

theorem in_yes (x lo hi : Int) (h : lo ≤ x ∧ x ≤ hi) (w : World) :
    Calls Try.prog 90 #[.int .i64 x, .int .i64 lo, .int .i64 hi] w fun e w' => e = .returned (.bool true) ∧ w = w' :=
  (in_any x lo hi w).mono fun _ _ ⟨he, hw⟩ => ⟨by rw [he, inB_true h], hw⟩
theorem in_no (x lo hi : Int) (h : ¬ (lo ≤ x ∧ x ≤ hi)) (w : World) :
    Calls Try.prog 90 #[.int .i64 x, .int .i64 lo, .int .i64 hi] w fun e w' => e = .returned (.bool false) ∧ w = w' :=
  (in_any x lo hi w).mono fun _ _ ⟨he, hw⟩ => ⟨by rw [he, inB_false h], hw⟩

theorem in_yes' (x lo hi : Int) (h : lo ≤ x ∧ x ≤ hi) (w : World) :
    Calls Try.prog 90 #[.int .i64 x, .int .i64 lo, .int .i64 hi] w fun e w' => e = .returned (.bool true) ∧ w' = w := (in_yes x lo hi h w).mono fun _ _ ⟨he, hw⟩ => ⟨he, hw.symm⟩
theorem in_no' (x lo hi : Int) (h : ¬ (lo ≤ x ∧ x ≤ hi)) (w : World) :
    Calls Try.prog 90 #[.int .i64 x, .int .i64 lo, .int .i64 hi] w fun e w' => e = .returned (.bool false) ∧ w' = w := (in_no x lo hi h w).mono fun _ _ ⟨he, hw⟩ => ⟨he, hw.symm⟩

theorem less_any (p q : Int × Int) (w : World) :
    Calls Try.prog 115 #[.agg #[.int .i64 p.1, .int .i64 p.2], .agg #[.int .i64 q.1, .int .i64 q.2]] w fun e w' => e = .returned (.bool (lessB p q)) ∧ Below w.heap.size w w' := by
  obtain ⟨a, b⟩ := p
  obtain ⟨c, d⟩ := q
  have hb : ∀ x y : Obj, Below w.heap.size w ((w.alloc x).alloc y) := fun x y => ((Below.refl _ _).alloc (Nat.le_refl _) _).alloc (by simp) _
  have HB := Lib.hid hb; clear hb
  by_cases h1 : a < c
  · have e : lessB (a, b) (c, d) = true := decide_eq_true (Or.inl h1)
    have HE := Lib.hid e; clear e
    go_enter Try.func115, Try.ntmps115
    go_wp2
    go_ret
    exact ⟨by rw [HE.out]; rfl, HB.out _ _⟩
  · by_cases h2 : a = c
    · subst h2
      by_cases h3 : b < d
      · have e : lessB (a, b) (a, d) = true := decide_eq_true (Or.inr ⟨rfl, h3⟩)
        have HE := Lib.hid e; clear e
        go_enter Try.func115, Try.ntmps115
        go_wp2
        go_ret
        exact ⟨by rw [HE.out]; rfl, HB.out _ _⟩
      · have e : lessB (a, b) (a, d) = false := decide_eq_false (by simp; omega)
        have HE := Lib.hid e; clear e
        go_enter Try.func115, Try.ntmps115
        go_wp2
        go_ret
        exact ⟨by rw [HE.out]; rfl, HB.out _ _⟩
    · have e : lessB (a, b) (c, d) = false := decide_eq_false (by simp; omega)
      have HE := Lib.hid e; clear e
      have h2' : (a == c) = false := by simpa using h2
      go_enter Try.func115, Try.ntmps115
      go_wp2
      go_ret
      exact ⟨by rw [HE.out]; rfl, HB.out _ _⟩

theorem less_yes {p q : Int × Int} (h : lessB p q = true) (w : World) :
    Calls Try.prog 115 #[.agg #[.int .i64 p.1, .int .i64 p.2], .agg #[.int .i64 q.1, .int .i64 q.2]] w fun e w' => e = .returned (.bool true) ∧ Below w.heap.size w w' :=
  (less_any p q w).mono fun _ _ ⟨he, hb⟩ => ⟨by rw [he, h], hb⟩
theorem less_no {p q : Int × Int} (h : lessB p q = false) (w : World) :
    Calls Try.prog 115 #[.agg #[.int .i64 p.1, .int .i64 p.2], .agg #[.int .i64 q.1, .int .i64 q.2]] w fun e w' => e = .returned (.bool false) ∧ Below w.heap.size w w' :=
  (less_any p q w).mono fun _ _ ⟨he, hb⟩ => ⟨by rw [he, h], hb⟩

set_option maxHeartbeats 2000000 in
theorem tuneok_any {w : World} {v : Value} {l : List (Int × Int)} (h : Rd2 w v l) :
    Calls Try.prog 73 #[v] w fun e w' => e = .returned (.bool (tuneB l)) ∧ Below w.heap.size w w' := by
  obtain ⟨a1, cap1, rfl⟩ := Rd.slice h
  have hm := h.2.1
  unfold maxLen at hm
  go_enter Try.func73, Try.ntmps73
  go_wp2
  go_loopw [3] (fun v3 wr => ∃ j : Nat, j ≤ l.length ∧ v3 = .int .i64 j ∧ Below w.heap.size w wr ∧ (∀ k p, k < j → l[k]? = some p → NoteOk l k p)) (fun v3 _ => l.length - (intOf v3).toNat)
  case atStart => exact ⟨0, Nat.zero_le _, rfl, Below.refl _ _, fun k p hk => by omega⟩
  case round =>
    obtain ⟨j, hj, rfl, hbr, hall⟩ := hrel
    have HA := Lib.hid hall; clear hall
    by_cases hlt : j < l.length
    · obtain ⟨p, hp⟩ : ∃ p, l[j]? = some p := ⟨_, List.getElem?_eq_getElem hlt⟩
      have HP := Lib.hid hp
      obtain ⟨b1, o1, c1, hv1, x1, y1⟩ := Rd2.cells (Rd.below h hbr) hp
      simp only [Value.slice.injEq, true_and] at hv1
      obtain ⟨rfl, rfl⟩ := hv1
      clear hp
      by_cases r1 : 0 ≤ p.1 ∧ p.1 ≤ 1000
      · by_cases r2 : 0 ≤ p.2 ∧ p.2 ≤ 60
        · by_cases hj0 : 0 < j
          · obtain ⟨q, hq⟩ : ∃ q, l[j - 1]? = some q := ⟨_, List.getElem?_eq_getElem (by omega)⟩
            have HQ := Lib.hid hq
            obtain ⟨b2, o2, c2, hv2, x2, y2⟩ := Rd2.cells (Rd.below h hbr) hq
            simp only [Value.slice.injEq, true_and, Option.some.injEq, Addr.mk.injEq, and_true] at hv2
            obtain ⟨⟨rfl, rfl⟩, rfl⟩ := hv2
            clear hq
            have hj1 : (0 : Int) ≤ (j : Int) - 1 := by omega
            have hj2 : (1 : Int) ≤ (j : Int) := by omega
            have hj3 : (j : Int) - 1 < (l.length : Int) := by omega
            have hj4 : 1 ≤ j := by omega
            have ej1 : IntKind.i64.wrap ((j : Int) - 1) = (j : Int) - 1 := IntWalk.i64_in _ (by omega)
            have ej2 : ((j : Int) - 1).toNat = j - 1 := by omega
            by_cases hls : lessB q p = true
            · have HLS := Lib.hid hls; clear hls
              have hn : ∀ k p, k < j + 1 → l[k]? = some p → NoteOk l k p := fun k r hk hr => by
                by_cases hkj : k < j
                · exact HA.out k r hkj hr
                · obtain rfl : k = j := by omega
                  have := HP.out; rw [this] at hr
                  obtain rfl := Option.some.inj hr
                  exact ⟨r1, r2, fun i t hi ht => by
                    obtain rfl : i = k - 1 := by omega
                    have := HQ.out; rw [this] at ht
                    obtain rfl := Option.some.inj ht
                    exact HLS.out⟩
              have HN := Lib.hid hn; clear hn
              go_wp2_with fail
              go_region_held3 (fun w' => w'.cell? ⟨b1, o1 + j * 2, none⟩ = some (.int .i64 p.1) ∧ w'.cell? ⟨b1, o1 + j * 2 + 1, none⟩ = some (.int .i64 p.2) ∧ w'.cell? ⟨b1, o1 + (j - 1) * 2, none⟩ = some (.int .i64 q.1) ∧ w'.cell? ⟨b1, o1 + (j - 1) * 2 + 1, none⟩ = some (.int .i64 q.2)) (go_keep)
                (first
                  | (go_at_call 90; refine (in_yes _ _ _ (by assumption) _).mono ?_; rintro e w1 ⟨rfl, rfl⟩)
                  | (go_at_call 115; refine (less_yes HLS.out _).mono ?_; rintro e w1 ⟨rfl, hb1⟩; have q1 := kept_cell hb1 x1; have q2 := kept_cell hb1 y1; have q3 := kept_cell hb1 x2; have q4 := kept_cell hb1 y2))
              all_goals
                have hb2 := bstep hbr (below_undrew hb1)
                clear hb1 q1 q2 q3 q4 x1 x2 y1 y2 hbr ej1 ej2 hj1 hj2 hj3
                go_wp2
                go_roundw
                case rel => exact ⟨j + 1, by omega, by go_num, hb2, HN.out⟩
                case measure => simp [intOf]; omega
            · have hls' : lessB q p = false := by simpa using hls
              have HLS := Lib.hid hls'; clear hls'
              have hbad : ¬ TuneP l := fun ht => hls ((ht.2 _ _ HP.out).2.2 (j - 1) q (by omega) HQ.out)
              have HB := Lib.hid (tuneB_false.2 hbad); clear hbad hls
              go_wp2_with fail
              go_region_held3 (fun w' => w'.cell? ⟨b1, o1 + j * 2, none⟩ = some (.int .i64 p.1) ∧ w'.cell? ⟨b1, o1 + j * 2 + 1, none⟩ = some (.int .i64 p.2) ∧ w'.cell? ⟨b1, o1 + (j - 1) * 2, none⟩ = some (.int .i64 q.1) ∧ w'.cell? ⟨b1, o1 + (j - 1) * 2 + 1, none⟩ = some (.int .i64 q.2)) (go_keep)
                (first
                  | (go_at_call 90; refine (in_yes _ _ _ (by assumption) _).mono ?_; rintro e w1 ⟨rfl, rfl⟩)
                  | (go_at_call 115; refine (less_no HLS.out _).mono ?_; rintro e w1 ⟨rfl, hb1⟩; have q1 := kept_cell hb1 x1; have q2 := kept_cell hb1 y1; have q3 := kept_cell hb1 x2; have q4 := kept_cell hb1 y2))
              all_goals
                have hb2 := bstep hbr (below_undrew hb1)
                clear hb1 q1 q2 q3 q4 x1 x2 y1 y2 hbr ej1 ej2 hj1 hj2 hj3
                go_wp2
                go_ret
                exact ⟨by rw [HB.out]; rfl, hb2⟩
          · have hn : ∀ k p, k < j + 1 → l[k]? = some p → NoteOk l k p := fun k q hk hq => by
              obtain rfl : k = j := by omega
              have := HP.out; rw [this] at hq
              obtain rfl := Option.some.inj hq
              exact ⟨r1, r2, fun i q h => by omega⟩
            have HN := Lib.hid hn; clear hn
            have hj1 : decide (0 < j) = false := decide_eq_false hj0
            go_wp2_with fail
            go_quiet ((first | (go_at_call 90; exact Calls.quiet_of_same (in_yes' _ _ _ (by assumption) _)) | (go_at_call 90; exact Calls.quiet_of_same (in_no' _ _ _ (by assumption) _))))
            go_wp2
            go_roundw
            case rel => exact ⟨j + 1, by omega, by go_num, below_drewN hbr _, HN.out⟩
            case measure => simp [intOf]; omega
        · have hbad : ¬ TuneP l := fun ht => r2 (ht.2 _ _ HP.out).2.1
          have HB := Lib.hid (tuneB_false.2 hbad); clear hbad
          go_wp2_with fail
          go_quiet ((first | (go_at_call 90; exact Calls.quiet_of_same (in_yes' _ _ _ (by assumption) _)) | (go_at_call 90; exact Calls.quiet_of_same (in_no' _ _ _ (by assumption) _))))
          go_wp2
          go_ret
          exact ⟨by rw [HB.out]; rfl, below_drewN hbr _⟩
      · have hbad : ¬ TuneP l := fun ht => r1 (ht.2 _ _ HP.out).1
        have HB := Lib.hid (tuneB_false.2 hbad); clear hbad
        go_wp2_with fail
        go_quiet ((first | (go_at_call 90; exact Calls.quiet_of_same (in_yes' _ _ _ (by assumption) _)) | (go_at_call 90; exact Calls.quiet_of_same (in_no' _ _ _ (by assumption) _))))
        go_wp2
        go_ret
        exact ⟨by rw [HB.out]; rfl, below_drewN hbr _⟩
    · obtain rfl : j = l.length := by omega
      have hall : ∀ k p, l[k]? = some p → NoteOk l k p := fun k p hk => HA.out k p (List.getElem?_eq_some_iff.1 hk).1 hk
      by_cases h40 : l.length ≤ 40
      · have HT := Lib.hid (tuneB_true.2 ⟨h40, hall⟩); clear hall
        go_wp2
        go_ret
        exact ⟨ret_b (by rw [HT.out]; first | exact decide_eq_true (by omega) | exact decide_eq_false (by omega)), hbr⟩
      · have HT := Lib.hid (tuneB_false.2 (fun ht => h40 ht.1)); clear hall
        go_wp2
        go_ret
        exact ⟨ret_b (by rw [HT.out]; first | exact decide_eq_true (by omega) | exact decide_eq_false (by omega)), hbr⟩
end Go.Proofs.Ytcbdoldcdgaooaa
