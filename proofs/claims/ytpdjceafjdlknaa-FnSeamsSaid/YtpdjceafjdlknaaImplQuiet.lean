/- The program's quietFrom and QuietAngle: it answers as the model's. No condition. -/
import Derived.Test.YtpdjceafjdlknaaSeamSpec
import Derived.Test.YtpdjceafjdlknaaImplCyl
namespace Go.Proofs.Ytpdjceafjdlknaa
open Go.ChangeShapes Go.WideShapes Go.ChangeAt Go.RowKit

/-- n is the least way onward from a to one of the first j pins, s where there are none. -/
def FromL (s a : Int) (l : List (Int × Int)) (j : Nat) (n : Nat) : Prop :=
  (n : Int) ≤ s ∧ (∀ (m : Nat) (p : Int × Int), m < j → l[m]? = some p → (n : Int) ≤ wayG s a p.2) ∧ ((n : Int) = s ∨ ∃ (m : Nat) (p : Int × Int), l[m]? = some p ∧ wayG s a p.2 = (n : Int))
theorem fromL_0 (a : Int) (l : List (Int × Int)) (S : Nat) : FromL (S : Int) a l 0 S := ⟨Int.le_refl _, fun m p h => by omega, Or.inl rfl⟩
theorem fromL_next {s a : Int} {l : List (Int × Int)} {j n g : Nat} {p : Int × Int} (h : FromL s a l j n) (hp : l[j]? = some p) (hg : (g : Int) = wayG s a p.2) : FromL s a l (j + 1) (min n g) := by
  have h1 := h.1
  refine ⟨by omega, fun m q hm hq => ?_, ?_⟩
  · by_cases hmj : m < j
    · have := h.2.1 m q hmj hq; omega
    · obtain rfl : m = j := by omega
      rw [hp] at hq
      obtain rfl := Option.some.inj hq
      omega
  · by_cases hm : g ≤ n
    · exact Or.inr ⟨j, p, hp, by omega⟩
    · have e : min n g = n := by omega
      rw [e]; exact h.2.2
theorem way_iff {s a b : Int} {m : Nat} (hs : 0 < s) (ha : 0 ≤ a ∧ a < s) (hb : 0 ≤ b ∧ b ≤ s - 1) (hm : (m : Int) < s) : wayG s a b = (m : Int) ↔ b = (a + (m : Int)) % s := by
  unfold wayG
  rw [Int.add_emod_right]
  have a1 := emod_two (s := s) (x := b - a) hs (by omega) (by omega)
  have a2 := emod_two (s := s) (x := a + (m : Int)) hs (by omega) (by omega)
  have b1 := Int.emod_nonneg (b - a) (show s ≠ 0 by omega)
  have b2 := Int.emod_lt_of_pos (b - a) hs
  have b3 := Int.emod_nonneg (a + (m : Int)) (show s ≠ 0 by omega)
  have b4 := Int.emod_lt_of_pos (a + (m : Int)) hs
  generalize (b - a) % s = x at *
  generalize (a + (m : Int)) % s = y at *
  omega
theorem from_run {S : Nat} {t a : Int} {l : List (Int × Int)} {n : Nat} (hc : CylP (S : Int) t l) (ha : 0 ≤ a ∧ a < (S : Int)) (h : FromL (S : Int) a l l.length n) : IsRun (S : Int) l a n := by
  have h4 := hc.1
  refine ⟨h.1, fun j hj => ?_, ?_⟩
  · have h1 := h.1
    rw [List.eq_nil_iff_forall_not_mem]
    intro x hx
    have hp := pinsL_mem.1 hx
    obtain ⟨m, hm⟩ := List.mem_iff_getElem?.1 hp
    have h2 := h.2.1 m _ (List.getElem?_eq_some_iff.1 hm).1 hm
    have h3 := (way_iff (m := j) (by omega) ha (cyl_bd hc hp).2 (by omega)).2 rfl
    rw [h3] at h2
    omega
  · rcases h.2.2 with e | ⟨m, p, hp, e⟩
    · exact Or.inl e
    · by_cases hn : (n : Int) = (S : Int)
      · exact Or.inl hn
      · refine Or.inr fun hnil => ?_
        have h1 := h.1
        have h3 := (way_iff (m := n) (by omega) ha (cyl_bd hc (List.mem_of_getElem? hp)).2 (by omega)).1 e
        have : p.1 ∈ pinsL l ((a + (n : Int)) % (S : Int)) := pinsL_mem.2 (by rw [← h3]; exact List.mem_of_getElem? hp)
        rw [hnil] at this; cases this
theorem quiet_nil {S : Nat} {q : Int} {n : Nat} (hS : 4 ≤ (S : Int)) (h : Quiet (S : Int) [] (S : Int) q n) : q = 0 := by
  have hr : IsRun (S : Int) [] 0 S := ⟨Int.le_refl _, fun _ _ => rfl, Or.inl rfl⟩
  have h1 := h.1 0 S (by omega) (by omega) hr
  rcases h.2 with ⟨rfl, rfl⟩ | ⟨h2, h3, h4, h5⟩
  · omega
  · have h6 := h5.1
    have h7 := h1.2
    by_cases e : 0 < q
    · have := h7 e; omega
    · omega
theorem quietM_any {S : Nat} {t q : Int} {l : List (Int × Int)} {n : Nat} (h : cylB (S : Int) t l = true) (hq : Quiet (S : Int) l (S : Int) q n) : quietM (S : Int) t l = q := by
  by_cases hl : l = []
  · subst hl
    rw [quietM_none h, quiet_nil (cylB_true.1 h).1.1 hq]
  · exact quietM_yes h hl hq

set_option maxHeartbeats 2000000 in
set_option maxRecDepth 100000 in
theorem quietfrom_any {w : World} {v : Value} {l : List (Int × Int)} {S : Nat} {t a : Int} (hc : CylP (S : Int) t l) (ha : 0 ≤ a ∧ a < (S : Int)) (h : Rd2 w v l) :
    Calls Try.prog 48 #[.agg #[.int .i64 (S : Int), .int .i64 t, v], .int .i64 a] w fun e w' => (∃ n : Nat, e = .returned (.int .i64 (n : Int)) ∧ IsRun (S : Int) l a n) ∧ Below w.heap.size w w' := by
  obtain ⟨a1, cap1, rfl⟩ := Rd.slice h
  have HC := Lib.hid hc
  have hl := hc.2.2.1
  have hs := hc.1
  have HF := Lib.hid (fun n (k : FromL (S : Int) a l l.length n) => from_run hc ha k)
  clear hc
  obtain ⟨W, hW⟩ : ∃ W, W = w.alloc (.cells #[.int .i64 (S : Int), .int .i64 t, .slice a1 l.length cap1] 26) := ⟨_, rfl⟩
  have hX : Box W w.heap.size (S : Int) t (.slice a1 l.length cap1) := by rw [hW]; exact box_new _ _ _ _ _
  have hB : Below w.heap.size w W := by rw [hW]; exact (Below.refl _ _).alloc (Nat.le_refl _) _
  obtain ⟨-, k0, k1, k2⟩ := id hX
  rw [hW] at k0 k1 k2
  go_enter Try.func48, Try.ntmps48
  go_wp2_with fail
  rw [← hW]
  clear hW k0 k1 k2
  obtain ⟨bx, hbx⟩ : ∃ b, b = w.heap.size := ⟨_, rfl⟩
  rw [← hbx] at hX
  simp only [← hbx]
  clear hbx
  go_loopw [5, 13] (fun v5 v13 wr => ∃ j n : Nat, j ≤ l.length ∧ v13 = .int .i64 (j : Int) ∧ v5 = .int .i64 (n : Int) ∧ Hid (FromL (S : Int) a l j n) ∧ Below W.heap.size W wr) (fun _ v13 _ => l.length - (intOf v13).toNat)
  case atStart => exact ⟨0, S, Nat.zero_le _, rfl, rfl, Lib.hid (fromL_0 _ _ _), Below.refl _ _⟩
  case round =>
    obtain ⟨j, n, hj, rfl, rfl, HN, hbr⟩ := hrel
    have hwr := bstep hB hbr
    by_cases hlt : j < l.length
    · obtain ⟨p, hp⟩ : ∃ p, l[j]? = some p := ⟨_, List.getElem?_eq_getElem hlt⟩
      have hpb := (cyl_bd HC.out (List.mem_of_getElem? hp)).2
      obtain ⟨b1, o1, c1, hv1, x1, y1⟩ := Rd2.cells (Rd.below h hwr) hp
      simp only [Value.slice.injEq, true_and] at hv1
      obtain ⟨rfl, rfl⟩ := hv1
      obtain ⟨g, hg⟩ := Int.eq_ofNat_of_zero_le (wayG_bd (s := (S : Int)) (a := a) (b := p.2) (by omega)).1
      have HS := Lib.hid (fromL_next HN.out hp hg.symm)
      have HW := Lib.hid (way_on a p.2 (S : Int) (by omega) (by omega) hpb)
      rw [hg] at HW
      have hbV : Below wr.heap.size wr (wr.alloc (.cells #[.int .i64 p.1, .int .i64 p.2] 36)) := (Below.refl _ _).alloc (Nat.le_refl _) _
      have z1 : (wr.alloc (.cells #[.int .i64 p.1, .int .i64 p.2] 36)).cell? ⟨wr.heap.size, 1, none⟩ = some (.int .i64 p.2) := cell0 _ _ _ _
      obtain ⟨-, k0, k1, k2⟩ := (hX.below hbr).below hbV
      have hb2 := bstep hbr hbV
      clear hp hpb hbV hg
      go_wp2_with fail
      refine (HW.out _).mono ?_
      rintro e w1 ⟨rfl, rfl⟩
      clear HW
      by_cases hgn : g < n
      · have e : min n g = g := by omega
        rw [e] at HS
        go_wp2
        go_roundw
        case rel => exact ⟨j + 1, g, by omega, by go_num, rfl, HS, hb2⟩
        case measure => simp [intOf]; omega
      · have e : min n g = n := by omega
        rw [e] at HS
        go_wp2
        go_roundw
        case rel => exact ⟨j + 1, n, by omega, by go_num, rfl, HS, hb2⟩
        case measure => simp [intOf]; omega
    · obtain rfl : j = l.length := by omega
      have HR := Lib.hid (HF.out n HN.out)
      go_wp2
      go_ret
      exact ⟨⟨n, rfl, HR.out⟩, hwr⟩

set_option maxHeartbeats 4000000 in
set_option maxRecDepth 100000 in
theorem iquiet_any {w : World} {v : Value} {l : List (Int × Int)} (s t : Int) (h : Rd2 w v l) :
    Calls Try.prog 18 #[.agg #[.int .i64 s, .int .i64 t, v]] w fun e w' => e = .returned (.int .i64 (quietM s t l)) ∧ Below w.heap.size w w' := by
  obtain ⟨a1, cap1, rfl⟩ := Rd.slice h
  obtain ⟨W, hW⟩ : ∃ W, W = w.alloc (.cells #[.int .i64 s, .int .i64 t, .slice a1 l.length cap1] 26) := ⟨_, rfl⟩
  have hX : Box W w.heap.size s t (.slice a1 l.length cap1) := by rw [hW]; exact box_new _ _ _ _ _
  have hB : Below w.heap.size w W := by rw [hW]; exact (Below.refl _ _).alloc (Nat.le_refl _) _
  obtain ⟨-, k0, k1, k2⟩ := id hX
  rw [hW] at k0 k1 k2
  by_cases tc : cylB s t l = true
  · have TC := Lib.hid tc
    have HC := Lib.hid (cylB_true.1 tc)
    have hs := (cylB_true.1 tc).1
    obtain ⟨S, rfl⟩ := Int.eq_ofNat_of_zero_le (show 0 ≤ s by omega)
    clear tc
    go_enter Try.func18, Try.ntmps18
    go_wp2_with fail
    rw [← hW]
    clear hW k0 k1 k2
    obtain ⟨bx, hbx⟩ : ∃ b, b = w.heap.size := ⟨_, rfl⟩
    rw [← hbx] at hX
    simp only [← hbx]
    clear hbx
    refine (icyl_yes (Rd.below h hB) TC.out).mono ?_
    rintro e w1 ⟨rfl, hb1⟩
    have hX1 := hX.below hb1
    have g1 := bstep hB hb1
    clear hX hB hb1
    obtain ⟨-, k0, k1, k2⟩ := id hX1
    go_wp2_with fail
    clear k0 k1 k2
    go_loopw [3, 4, 12] (fun v3 v4 v12 wr => ∃ (a : Nat) (q : Int) (n : Nat), a ≤ S ∧ v12 = .int .i64 (a : Int) ∧ v3 = .int .i64 q ∧ v4 = .int .i64 (n : Int) ∧ Hid (Quiet (S : Int) l (a : Int) q n) ∧ Below w1.heap.size w1 wr) (fun _ _ v12 _ => S - (intOf v12).toNat)
    case atStart => exact ⟨0, -1, 0, Nat.zero_le _, rfl, rfl, rfl, Lib.hid (quiet_0 _ _), Below.refl _ _⟩
    case round =>
      obtain ⟨a, q, n, ha, rfl, rfl, rfl, HQ, hbr⟩ := hrel
      obtain ⟨-, k0, k1, k2⟩ := hX1.below hbr
      have hwr := bstep g1 hbr
      by_cases hlt : a < S
      · have HFR := Lib.hid (quietfrom_any (a := (a : Int)) HC.out (by omega) (Rd.below h hwr))
        go_wp2_with fail
        refine HFR.out.mono ?_
        rintro e w2 ⟨⟨m, rfl, hrun⟩, hb2⟩
        have HR := Lib.hid hrun
        have hb3 := bstep hbr hb2
        clear HFR hrun hb2 hbr k0 k1 k2
        by_cases hmn : n < m
        · have HQ2 := Lib.hid (quiet_more HQ.out (by omega) HR.out hmn)
          go_wp2
          go_roundw
          case rel => exact ⟨a + 1, (a : Int), m, by omega, by go_num, rfl, rfl, HQ2, hb3⟩
          case measure => simp [intOf]; omega
        · have HQ2 := Lib.hid (quiet_same HQ.out HR.out hmn)
          go_wp2
          go_roundw
          case rel => exact ⟨a + 1, q, n, by omega, by go_num, rfl, rfl, HQ2, hb3⟩
          case measure => simp [intOf]; omega
      · obtain rfl : a = S := by omega
        have HE := Lib.hid (quietM_any TC.out HQ.out)
        go_wp2
        go_ret
        exact ⟨by rw [HE.out]; rfl, hwr⟩
  · have TC := Lib.hid (show cylB s t l = false by simpa using tc)
    have HL := Lib.hid (quietM_no TC.out)
    clear tc
    go_enter Try.func18, Try.ntmps18
    go_wp2_with fail
    rw [← hW]
    clear hW k0 k1 k2
    refine (icyl_no (Rd.below h hB) TC.out).mono ?_
    rintro e w1 ⟨rfl, hb1⟩
    have g1 := bstep hB hb1
    clear hX hB hb1
    go_wp2
    go_ret
    exact ⟨by rw [HL.out]; rfl, g1⟩
end Go.Proofs.Ytpdjceafjdlknaa
