/- The contracts of chapter 5's model: LeastComb, LongestRest. No condition. -/
import Derived.Test.YtpjkajephloipaaAssignSpec2
import Derived.Test.YtpjkajephloipaaTeethSpec
namespace Go.Proofs.Ytpjkajephloipaa
open Go.ChangeShapes Go.WideShapes Go.ChangeAt Go.RowKit

/-- The teeth of the first k pitches. -/
def combTo : Nat → List Int → List Int
  | 0, _ => []
  | k + 1, n => combTo k n ++ List.replicate (n.getD k 0).toNat (k : Int)
def leastL (n : List Int) : List Int := combTo n.length n
noncomputable def leastM (r : Int) (t : List (Int × Int)) : List Int × Bool := if combB (leastL (needM r t)) = true then (leastL (needM r t), true) else ([], false)
theorem leastM_yes {r : Int} {t : List (Int × Int)} (h : combB (leastL (needM r t)) = true) : leastM r t = (leastL (needM r t), true) := if_pos h
theorem leastM_no {r : Int} {t : List (Int × Int)} (h : ¬ combB (leastL (needM r t)) = true) : leastM r t = ([], false) := if_neg h
theorem combTo_succ (k : Nat) (n : List Int) : combTo (k + 1) n = combTo k n ++ List.replicate (n.getD k 0).toNat (k : Int) := rfl
theorem combTo_le {n : List Int} {m : Nat} (h : ∀ x ∈ n, x ≤ (m : Int)) : ∀ k, (combTo k n).length ≤ k * m
  | 0 => Nat.zero_le _
  | k + 1 => by
    have ih := combTo_le h k
    rw [combTo_succ, List.length_append, List.length_replicate, Nat.add_mul]
    have : (n.getD k 0).toNat ≤ m := by
      rw [List.getD_eq_getElem?_getD]
      cases hk : n[k]? with
      | none => simp
      | some x => have := h x (List.mem_of_getElem? hk); simp; omega
    omega
theorem needM_le (r : Int) (t : List (Int × Int)) : ∀ x ∈ needM r t, 0 ≤ x ∧ x ≤ 40 := by
  intro x hx
  unfold needM at hx
  split at hx
  · rename_i h
    unfold needL at hx
    obtain ⟨p, -, rfl⟩ := List.mem_map.1 hx
    have h1 := needTo_le r t t.length (p : Int)
    have h2 := (tuneB_true.1 h.1).1
    omega
  · simp at hx
theorem leastL_le (r : Int) (t : List (Int × Int)) : (leastL (needM r t)).length ≤ 2440 := by
  have h1 := combTo_le (n := needM r t) (m := 40) (fun x hx => (needM_le r t x hx).2) (needM r t).length
  have h2 := needM_len r t
  unfold leastL
  have : (needM r t).length * 40 ≤ 61 * 40 := Nat.mul_le_mul_right _ h2
  omega
theorem leastM_len (r : Int) (t : List (Int × Int)) : (leastM r t).1.length ≤ 24 := by
  unfold leastM; split
  · rename_i h; exact (combB_true.1 h).1.2
  · simp

set_option maxHeartbeats 4000000 in
set_option maxRecDepth 100000 in
theorem least_any {w : World} {v : Value} {t : List (Int × Int)} (r : Int) (h : Rd2 w v t) :
    Calls Try.prog 33 #[v, .int .i64 r] w (NewIntsB w (leastM r t).1 (leastM r t).2) := by
  obtain ⟨i0, hi, hz0, hz1, hz2⟩ := info_parts infoInt
  obtain ⟨a1, cap1, rfl⟩ := Rd.slice h
  have hown0 : (w.alloc (.cells #[] 3)).ownsRow w.heap.size 3 1 (.slice (some ⟨w.heap.size, 0, none⟩) 0 0) 0 [] := World.ownsRow_made w #[] 0 (Nat.le_refl _) (by simp) rfl
  have hb0 : Below w.heap.size w (w.alloc (.cells #[] 3)) := (Below.refl _ _).alloc (Nat.le_refl _) _
  have HY := Lib.hid (fun h => leastM_yes (r := r) (t := t) h)
  have HN := Lib.hid (fun h => leastM_no (r := r) (t := t) h)
  have HB := Lib.hid (needM_le r t)
  have HLL := Lib.hid (leastL_le r t)
  have hnl := needM_len r t
  go_enter Try.func33, Try.ntmps33
  go_wp2_with fail
  refine (needed_any r (Rd.below h hb0)).mono ?_
  rintro e w1 ⟨vn, rfl, hon, hb1⟩
  have hon1 := ownS_mono hon hb0.size
  have hne : Hid (∀ g, vn.ownBlock = some g → w.heap.size < g) := Lib.hid fun g hg => by
    have := (World.ownsRow.lt hon g hg).1
    rw [size_alloc] at this; omega
  have ho1 := ownS_below hown0 hb1
  have g1 := bstep hb0 hb1
  clear hon hb1 hown0 hb0
  generalize needM r t = n at *
  obtain ⟨an, capn, rfl⟩ := ownS_slice hon1
  have HCL : Hid (∀ p, p ≤ n.length → (combTo p n).length ≤ 2440) := Lib.hid fun p hp => by
    have h1 := combTo_le (n := n) (m := 40) (fun x hx => (HB.out x hx).2) p
    have : p * 40 ≤ 61 * 40 := Nat.mul_le_mul_right _ (by omega)
    omega
  go_wp2_with fail
  go_loopw [6, 8] (fun v6 v8 wr => ∃ p : Nat, p ≤ n.length ∧ v8 = .int .i64 (p : Int) ∧ wr.ownsRow w.heap.size 3 1 v6 (combTo p n).length ((combTo p n).map intV) ∧ wr.ownsRow w.heap.size 3 1 (.slice an n.length capn) n.length (n.map intV) ∧ Hid (∀ g, (Value.slice an n.length capn).ownBlock = some g → v6.ownBlock ≠ some g) ∧ Below w.heap.size w wr) (fun _ v8 _ => n.length - (intOf v8).toNat)
  case atStart => exact ⟨0, Nat.zero_le _, rfl, ho1, hon1, Lib.hid (fun g hg e => by have := hne.out g hg; simp [Value.ownBlock] at e; omega), g1⟩
  case round =>
    obtain ⟨p, hp, rfl, hown, hon, HAP, hbr⟩ := hrel
    clear ho1 hon1 g1
    by_cases hlt : p < n.length
    · obtain ⟨x, hx⟩ : ∃ x, n[p]? = some x := ⟨_, List.getElem?_eq_getElem hlt⟩
      obtain ⟨hx0, hx40⟩ := HB.out x (List.mem_of_getElem? hx)
      obtain ⟨m, rfl⟩ := Int.eq_ofNat_of_zero_le hx0
      have HX := Lib.hid hx
      have HC := Lib.hid (combTo_succ p n)
      have hgd : n.getD p 0 = (m : Int) := by rw [List.getD_eq_getElem?_getD, hx]; rfl
      rw [hgd, Int.toNat_natCast] at HC
      have hcl := HCL.out p (by omega)
      have hdk : decide ((p : Int) < (n.length : Int)) = true := decide_eq_true (by omega)
      clear hx hgd
      go_wp2_with fail
      go_loopw [6, 9] (fun v6 v9 wx => ∃ j : Nat, j ≤ m ∧ v9 = .int .i64 (j : Int) ∧ wx.ownsRow w.heap.size 3 1 v6 ((combTo p n).length + j) ((combTo p n ++ List.replicate j (p : Int)).map intV) ∧ wx.ownsRow w.heap.size 3 1 (.slice an n.length capn) n.length (n.map intV) ∧ Hid (∀ g, (Value.slice an n.length capn).ownBlock = some g → v6.ownBlock ≠ some g) ∧ Below w.heap.size w wx) (fun _ v9 _ => m - (intOf v9).toNat)
      case atStart => exact ⟨0, Nat.zero_le _, rfl, by simpa using hown, hon, HAP, hbr⟩
      case round =>
        obtain ⟨j, hj, rfl, hown, hon, HAP, hbr⟩ := hrel
        obtain ⟨b1, o1, c1, hv1, x1⟩ := Rd1.cell (Rd.of_own hon : Rd1 wr _ n) HX.out
        simp only [Value.slice.injEq, true_and] at hv1
        obtain ⟨rfl, rfl⟩ := hv1
        by_cases hjm : j < m
        · obtain ⟨v', w4, e4, ho4, hg4, hbl4⟩ := app_int hown (p : Int) (by omega) hbr.size
          have hn4 := (hon.alloc (.cells #[.int .i64 (p : Int)] 3)).kept hg4 (by
            cases hb : (Value.slice (some ⟨b1, o1, none⟩) n.length capn).ownBlock with
            | none => exact Or.inl rfl
            | some g => exact Or.inr fun e => HAP.out g hb e.symm)
          have hb4 := (hbr.alloc hbr.size (.cells #[.int .i64 (p : Int)] 3)).grown hg4 (by rw [size_alloc]; have := hbr.size; omega) (fun x hx => (hown.lt x hx).1)
          have HAP4 : Hid (∀ g, (Value.slice (some ⟨b1, o1, none⟩) n.length capn).ownBlock = some g → v'.ownBlock ≠ some g) := Lib.hid fun g hg e => by
            rcases hbl4 g e with h | h
            · exact HAP.out g hg h
            · have := (World.ownsRow.lt hon g hg).2
              omega
          have ho5 : Hid (w4.ownsRow w.heap.size 3 1 v' ((combTo p n).length + (j + 1)) ((combTo p n ++ List.replicate (j + 1) (p : Int)).map intV)) := Lib.hid (by
            rw [List.replicate_succ', ← List.append_assoc, List.map_append]; exact ho4)
          have HN4 := Lib.hid hn4
          clear hown hon hbr hg4 hbl4 ho4 hn4
          go_wp2_with (at_builtin; refine wpList_append_eq rfl _ _ _ rfl _ _ _ rfl rfl e4 ?_)
          go_roundw
          case rel => exact ⟨j + 1, by omega, by go_num, ho5.out, HN4.out, HAP4, hb4⟩
          case measure => simp [intOf]; omega
        · obtain rfl : j = m := by omega
          have ho5 : Hid (wr.ownsRow w.heap.size 3 1 u6 (combTo (p + 1) n).length ((combTo (p + 1) n).map intV)) := Lib.hid (by
            rw [HC.out, List.length_append, List.length_replicate]; exact hown)
          clear hown
          go_wp2
          go_roundw
          case rel => exact ⟨p + 1, by omega, by go_num, ho5.out, hon, HAP, hbr⟩
          case measure => simp [intOf]; omega
    · obtain rfl : p = n.length := by omega
      have HR := Lib.hid (Rd.of_own hown : Rd1 wr u6 (leastL n))
      by_cases hc : combB (leastL n) = true
      · have HC := Lib.hid hc
        have HM := Lib.hid (HY.out hc)
        clear hc
        go_wp2_with fail
        refine (combok_yes HR.out HC.out).mono ?_
        rintro e w2 ⟨rfl, hb2⟩
        have ho2 := ownS_below hown hb2
        have g2 := bstep hbr hb2
        go_wp2
        go_ret2
        rw [HM.out]
        exact ⟨_, rfl, ho2, g2⟩
      · have HC := Lib.hid (show combB (leastL n) = false by simpa using hc)
        have HM := Lib.hid (HN.out hc)
        clear hc
        go_wp2_with fail
        refine (combok_no HR.out HC.out).mono ?_
        rintro e w2 ⟨rfl, hb2⟩
        have g2 := bstep hbr hb2
        have ho3 : (w2.alloc (.cells #[] 3)).ownsRow w.heap.size 3 1 (.slice (some ⟨w2.heap.size, 0, none⟩) 0 0) 0 [] := World.ownsRow_made w2 #[] 0 g2.size (by simp) rfl
        have g3 : Below w.heap.size w (w2.alloc (.cells #[] 3)) := g2.alloc g2.size _
        go_wp2
        go_ret2
        rw [HM.out]
        exact ⟨_, rfl, ho3, g3⟩

/-- The greatest rest from r down with which the teeth are assigned. -/
noncomputable def restTo (c : List Int) (t : List (Int × Int)) : Nat → Nat
  | 0 => 0
  | r + 1 => if (assignM c t ((r + 1 : Nat) : Int)).2 = true then r + 1 else restTo c t r
noncomputable def restM (c : List Int) (t : List (Int × Int)) : Nat := restTo c t 100
theorem restTo_yes {c : List Int} {t : List (Int × Int)} {r : Nat} (h : (assignM c t ((r + 1 : Nat) : Int)).2 = true) : restTo c t (r + 1) = r + 1 := if_pos h
theorem restTo_no {c : List Int} {t : List (Int × Int)} {r : Nat} (h : ¬ (assignM c t ((r + 1 : Nat) : Int)).2 = true) : restTo c t (r + 1) = restTo c t r := if_neg h

set_option maxHeartbeats 2000000 in
set_option maxRecDepth 100000 in
theorem rest_any {w : World} {vc vt : Value} {c : List Int} {t : List (Int × Int)} (hc : Rd1 w vc c) (ht : Rd2 w vt t) :
    Calls Try.prog 34 #[vc, vt] w fun e w' => e = .returned (.int .i64 (restM c t : Nat)) ∧ Below w.heap.size w w' := by
  obtain ⟨a1, cap1, rfl⟩ := Rd.slice hc
  obtain ⟨a2, cap2, rfl⟩ := Rd.slice ht
  go_enter Try.func34, Try.ntmps34
  go_wp2_with fail
  go_loopw [5] (fun v5 wr => ∃ r : Nat, r ≤ 100 ∧ v5 = .int .i64 (r : Int) ∧ Hid (restM c t = restTo c t r) ∧ Below w.heap.size w wr) (fun v5 _ => (intOf v5).toNat)
  case atStart => exact ⟨100, Nat.le_refl _, rfl, Lib.hid rfl, Below.refl _ _⟩
  case round =>
    obtain ⟨r, hr, rfl, HR, hbr⟩ := hrel
    by_cases h1 : 1 ≤ r
    · obtain ⟨q, rfl⟩ : ∃ q, r = q + 1 := ⟨r - 1, by omega⟩
      have HY := Lib.hid (fun h => restTo_yes (c := c) (t := t) (r := q) h)
      have HN := Lib.hid (fun h => restTo_no (c := c) (t := t) (r := q) h)
      have hcast : (((q + 1 : Nat)) : Int) = (q : Int) + 1 := by omega
      have hd1 : decide ((1 : Int) ≤ (q : Int) + 1) = true := decide_eq_true (by omega)
      rw [hcast] at HY HN
      rw [hcast]
      go_wp2_with fail
      refine (assign_any ((q : Int) + 1) (Rd.below hc hbr) (Rd.below ht hbr)).mono ?_
      rintro e w1 ⟨v1, rfl, ho1, hb1⟩
      have g1 := bstep hbr hb1
      obtain ⟨a3, cap3, rfl⟩ := ownS_slice ho1
      clear ho1 hb1 hbr
      generalize (assignM c t ((q : Int) + 1)).2 = ok at *
      cases ok with
      | true =>
        have HE := Lib.hid (HR.out.trans (HY.out (by trivial)))
        go_wp2
        go_ret
        exact ⟨by rw [HE.out, hcast]; rfl, g1⟩
      | false =>
        have HE := Lib.hid (HR.out.trans (HN.out (by simp)))
        go_wp2
        go_roundw
        case rel => exact ⟨q, by omega, by go_num, HE, g1⟩
        case measure => simp [intOf]
    · obtain rfl : r = 0 := by omega
      have HE := Lib.hid (HR.out.trans (show restTo c t 0 = 0 from rfl))
      go_wp2
      go_ret
      exact ⟨by rw [HE.out]; rfl, hbr⟩
end Go.Proofs.Ytpjkajephloipaa
