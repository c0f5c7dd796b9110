/- The contracts of the draw of a tune, l02Tune, DrawTune, and of laws.at. No condition. -/
import Derived.Test.YtcbdoldcdgaooaaDrawB
import Derived.Test.YtcbdoldcdgaooaaSortMath
namespace Go.Proofs.Ytcbdoldcdgaooaa
open Go.ChangeShapes Go.WideShapes Go.ChangeAt Go.RowKit

/-- The notes that l02Tune draws. -/
def DrawnNotes (l : List (Int × Int)) : Prop := ∀ p ∈ l, (0 ≤ p.1 ∧ p.1 ≤ 15) ∧ (10 ≤ p.2 ∧ p.2 ≤ 19)
theorem sortM_mem {l : List (Int × Int)} (h : l.length ≤ 40) (x : Int × Int) : x ∈ sortM l ↔ x ∈ l := by
  unfold sortM; rw [if_pos h, fold_mem]; simp
theorem sortM_ss {l : List (Int × Int)} (h : l.length ≤ 40) : SS (sortM l) := by
  unfold sortM; rw [if_pos h]; exact fold_ss l [] List.Pairwise.nil
theorem sortM_le (l : List (Int × Int)) : (sortM l).length ≤ l.length := by
  unfold sortM; split
  · have := fold_len l []; simpa using this
  · simp
theorem tuneP_of {l : List (Int × Int)} (hs : SS l) (hl : l.length ≤ 40) (h : ∀ p ∈ l, (0 ≤ p.1 ∧ p.1 ≤ 1000) ∧ (0 ≤ p.2 ∧ p.2 ≤ 60)) : TuneP l := by
  refine ⟨hl, fun k p hp => ?_⟩
  obtain ⟨hk, e⟩ := List.getElem?_eq_some_iff.1 hp
  have hm := h p (List.mem_iff_getElem?.2 ⟨k, hp⟩)
  refine ⟨hm.1, hm.2, fun i q hi hq => ?_⟩
  obtain ⟨hi2, e2⟩ := List.getElem?_eq_some_iff.1 hq
  have := List.pairwise_iff_getElem.1 hs i k hi2 hk (by omega)
  rw [e, e2] at this; exact this

/-- A tune is drawn: short, in order, in its ranges. -/
def TuneDrawn (t : List (Int × Int)) : Prop := t.length ≤ 11 ∧ tuneB t = true ∧ DrawnNotes t
theorem tuneDrawn_of {l : List (Int × Int)} (hl : l.length ≤ 11) (h : DrawnNotes l) : TuneDrawn (sortM l) := by
  have hd : DrawnNotes (sortM l) := fun p hp => h p ((sortM_mem (by omega) p).1 hp)
  refine ⟨by have := sortM_le l; omega, tuneB_true.2 (tuneP_of (sortM_ss (by omega)) (by have := sortM_le l; omega) fun p hp => ?_), hd⟩
  obtain ⟨⟨a, b⟩, c, d⟩ := hd p hp
  omega

theorem grow_own {w b b' : World} {row row' : Option Nat} (h : w.grownBy b row) (k : b.grownBy b' row') (hr : ∀ j, row' = some j → w.heap.size ≤ j) : w.grownBy b' row :=
  ⟨k.os.trans h.os, k.tape.trans h.tape, k.output.trans h.output, Nat.le_trans h.size k.size, fun i hi hne => (k.block i (Nat.lt_of_lt_of_le hi h.size) (fun e => by have := hr i e.symm; omega)).trans (h.block i hi hne)⟩
theorem apartC {a b : World} {c e s n : Nat} {v : Value} {xs : List Value} (h : b.ownsRow a.heap.size e s v n xs) (hc : c < a.heap.size) : v.ownBlock = none ∨ v.ownBlock ≠ some c := by
  cases h1 : v.ownBlock with
  | none => exact Or.inl rfl
  | some k => exact Or.inr (fun e => by have := (h.lt k h1).1; injection e; omega)

set_option maxHeartbeats 2000000 in
theorem l02tune_any {B c : Nat} {w : World} (hC : Cur 120 B w c) :
    Calls Try.prog 95 #[.pointer (some ⟨c, 0, none⟩)] w fun e w' => ∃ t v, TuneDrawn t ∧ e = .returned v ∧ w'.ownsRow w.heap.size 41 2 v t.length (flat2 t) ∧ w.grownBy w' (some c) := by
  obtain ⟨i0, hi, hz0, hz1, hz2⟩ := info_parts infoNote
  have hcl := hC.lt
  go_enter Try.func95, Try.ntmps95
  go_wp2_with fail
  have hCa : Cur 120 B (w.alloc (.cells #[] 41)) c := hC.kept (only_alloc (World.grownBy.refl _ _) _) (row := none) (by intro r hr; cases hr)
  have hoa : (w.alloc (.cells #[] 41)).ownsRow w.heap.size 41 2 (.slice (some ⟨w.heap.size, 0, none⟩) 0 0) 0 (flat2 []) := World.ownsRow_made w #[] 0 (Nat.le_refl _) (by simp) rfl
  have hga : w.grownBy (w.alloc (.cells #[] 41)) (some c) := only_alloc (World.grownBy.refl _ _) _
  refine (below_any 12 (by omega) (by omega) hCa).mono ?_
  rintro e w1 ⟨n, hn0, hn1, rfl, hg1, hC1⟩
  obtain ⟨m, rfl⟩ := Int.eq_ofNat_of_zero_le hn0
  have hne : w.heap.size ≠ c := by omega
  have ho1 := hoa.kept hg1 (Or.inr (by simp [Value.ownBlock]; exact hne))
  have hgt := only_trans hga hg1
  clear hCa hoa hga hg1
  go_wp2_with fail
  go_loopw [3, 5] (fun v3 v5 wr => ∃ (k : Nat) (l : List (Int × Int)), k ≤ m ∧ l.length = k ∧ Hid (DrawnNotes l) ∧ v5 = .int .i64 k ∧ wr.ownsRow w.heap.size 41 2 v3 k (flat2 l) ∧ Cur 120 B wr c ∧ w.grownBy wr (some c)) (fun _ v5 _ => m - (intOf v5).toNat)
  case atStart => exact ⟨0, [], Nat.zero_le _, rfl, Lib.hid (fun p hp => by cases hp), rfl, ho1, hC1, hgt⟩
  case round =>
    obtain ⟨k, l, hk, hlk, HD, rfl, hown, hCr, hgr⟩ := hrel
    have HLK := Lib.hid hlk; clear hlk ho1 hC1 hgt
    by_cases hlt : k < m
    · go_wp2_with fail
      refine (below_any 16 (by omega) (by omega) hCr).mono ?_
      rintro e w2 ⟨x, hx0, hx1, rfl, hg2, hC2⟩
      have ho2 := hown.kept hg2 (apartC hown hcl)
      have hgr2 := only_trans hgr hg2
      clear hCr hown hgr hg2
      go_wp2_with fail
      refine (below_any 10 (by omega) (by omega) hC2).mono ?_
      rintro e w3 ⟨y, hy0, hy1, rfl, hg3, hC3⟩
      have ho3 := ho2.kept hg3 (apartC ho2 hcl)
      have hgr3 := only_trans hgr2 hg3
      clear hC2 ho2 hgr2 hg3
      have hls : Hid (DrawnNotes (l ++ [(x, 10 + y)])) := Lib.hid (fun p hp => by
        rcases List.mem_append.1 hp with h | h
        · exact HD.out p h
        · obtain rfl : p = (x, 10 + y) := by simpa using h
          exact ⟨⟨hx0, by simp only; omega⟩, by simp only; omega⟩)
      have hsz : w.heap.size ≤ w3.heap.size := hgr3.size
      go_wp2_with (at_builtin; refine wpList_append_own _ rfl _ _ 42 rfl w.heap.size 41 i0 _ 2 16 Try.underlying42 hi hz0 hz1 hz2 rfl (by decide) _ k (flat2 l) rfl (ho3.alloc _) ⟨w3.heap.size, 0, none⟩ 1 1 (flat2 [(x, 10 + y)]) rfl rfl ?c2 (flat2_one _) ?c3 ?c4 ?c5 ?_)
      case c2 => exact World.news_of_block (heap_alloc_new w3 _)
      case c3 => unfold maxLen; omega
      case c4 => omega
      case c5 => simp; omega
      intro v' w4 hown4 hgrow _
      have hgr4 : w.grownBy w4 (some c) := grow_own (only_alloc hgr3 _) hgrow (fun j hj => (ho3.lt j hj).1)
      have hC4 : Cur 120 B w4 c := by
        have h1 : Cur 120 B (w3.alloc (.cells #[.int .i64 x, .int .i64 (10 + y)] 41)) c := hC3.kept (only_alloc (World.grownBy.refl _ _) _) (row := none) (by intro r hr; cases hr)
        exact h1.kept hgrow (fun r hr => by
          have h2 := (ho3.lt r hr).1
          have h3 := hC3.1
          exact ⟨by omega, by omega⟩)
      have hown5 : w4.ownsRow w.heap.size 41 2 v' (k + 1) (flat2 (l ++ [(x, 10 + y)])) := by rw [flat2_append]; exact hown4
      have HL1 : Hid ((l ++ [(x, 10 + y)]).length = k + 1) := Lib.hid (by rw [List.length_append, HLK.out]; rfl)
      clear ho3 hC3 hgr3 hown4 hgrow
      go_wp2
      go_roundw
      case rel => exact ⟨k + 1, _, by omega, HL1.out, hls, by go_num, hown5, hC4, hgr4⟩
      case measure => simp [intOf]; omega
    · have hkm : k = m := by omega
      have hr : Rd2 wr u3 l := by unfold Rd2; rw [HLK.out]; exact Rd.of_own hown
      have HT := Lib.hid (tuneDrawn_of (by rw [HLK.out]; omega) HD.out)
      go_wp2_with fail
      refine (sort_any hr).mono ?_
      rintro e w5 ⟨v5, rfl, ho5, hb5⟩
      have hg5 : w.grownBy w5 (some c) := only_trans hgr (only_of_below hb5 _)
      have ho6 := ownS_mono ho5 hgr.size
      clear hr hown hCr hgr ho5 hb5
      go_wp2
      go_ret
      exact ⟨_, _, HT.out, rfl, ho6, hg5⟩

theorem drawtune_any {w : World} {v : Value} {n : Nat} (hC : Code w w.heap.size v n) :
    Calls Try.prog 46 #[v] w fun e w' => ∃ t v, TuneDrawn t ∧ e = .returned v ∧ w'.ownsRow w.heap.size 41 2 v t.length (flat2 t) ∧ Below w.heap.size w w' := by
  go_enter Try.func46, Try.ntmps46
  go_wp2_with fail
  refine (new_any hC).mono ?_
  rintro e w1 ⟨c, rfl, hb1, hC1⟩
  go_wp2_with fail
  refine (l02tune_any hC1).mono ?_
  rintro e w2 ⟨t, v2, ht, rfl, ho2, hg2⟩
  have hb2 := hb1.grown hg2 hb1.size (fun k hk => by injection hk with e; rw [← e]; exact hC1.1)
  have ho3 := ownS_mono ho2 hb1.size
  go_wp2
  go_ret
  exact ⟨t, v2, ht, rfl, ho3, hb2⟩

theorem at_any {w : World} {v : Value} {n : Nat} {B : Nat} (i : Nat) (hi : i ≤ 1) (hC : Code w B v n) (hn : n ≤ 1048576) :
    Calls Try.prog 13 #[v, .int .i64 (i : Nat)] w fun e w' => ∃ x : Int, 0 ≤ x ∧ x ≤ 255 ∧ e = .returned (.int .i64 x) ∧ w = w' := by
  rcases hC with ⟨rfl, a, cap, rfl⟩ | ⟨b, off, cap, rfl, hm, hbB, hcell⟩
  · go_enter Try.func13, Try.ntmps13
    go_wp2
    go_ret
    exact ⟨0, by omega, by omega, rfl, rfl⟩
  · unfold maxLen at hm
    by_cases h0 : n = 0
    · subst h0
      clear hcell
      go_enter Try.func13, Try.ntmps13
      go_wp2
      go_ret
      exact ⟨0, by omega, by omega, rfl, rfl⟩
    · obtain ⟨z, hz0, hz1, hz⟩ := hcell ((i * 5 + 1) % n) (Nat.mod_lt _ (by omega))
      clear hcell
      have h0' : ((n : Int) == 0) = false := by simpa using h0
      have hm0 : (0 : Int) ≤ ((i : Int) * 5 + 1) % (n : Int) := Int.emod_nonneg _ (by omega)
      have hm1 : ((i : Int) * 5 + 1) % (n : Int) < (n : Int) := Int.emod_lt_of_pos _ (by omega)
      have hm2 : (((i : Int) * 5 + 1) % (n : Int)).toNat = (i * 5 + 1) % n := by
        have e : ((i : Int) * 5 + 1) % (n : Int) = (((i * 5 + 1) % n : Nat) : Int) := by rw [Int.natCast_emod, Int.natCast_add, Int.natCast_mul]; rfl
        rw [e]; exact Int.toNat_natCast _
      go_enter Try.func13, Try.ntmps13
      go_wp2
      go_ret
      exact ⟨z, hz0, hz1, rfl, rfl⟩
end Go.Proofs.Ytcbdoldcdgaooaa
