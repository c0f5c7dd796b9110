/- The contracts of chapter 9's model, further: l09Set, l09Bits, l09Less. No condition. -/
import Derived.Test.YtdmjfdigaiokfaaChooseSpec
namespace Go.Proofs.Ytdmjfdigaiokfaa
open Go.ChangeShapes Go.WideShapes Go.ChangeAt Go.RowKit

noncomputable def setI (n : Int) (c : List Int) : Int := match setTo n c c.length with | some S => (S : Int) | none => -1
theorem setI_some {n : Int} {c : List Int} {S : Nat} (h : setTo n c c.length = some S) : setI n c = (S : Int) := by unfold setI; rw [h]
theorem setI_none {n : Int} {c : List Int} (h : setTo n c c.length = none) : setI n c = -1 := by unfold setI; rw [h]

theorem orb_all : ∀ S : Fin 256, ∀ k : Fin 8, bits .or .i64 (S.1 : Int) (wrap64 (2 ^ k.1)) = ((S.1 ||| 2 ^ k.1 : Nat) : Int) := by decide +kernel
theorem orb_eq {S k : Nat} (hS : S < 256) (hk : k < 8) : bits .or .i64 (S : Int) (wrap64 (2 ^ k)) = ((S ||| 2 ^ k : Nat) : Int) := orb_all ⟨S, hS⟩ ⟨k, hk⟩

set_option maxHeartbeats 2000000 in
theorem l09set_any {w : World} {v : Value} {c : List Int} (n : Int) (hn : -1 ≤ n ∧ n ≤ 7) (h : Rd1 w v c) :
    Calls Try.prog 60 #[v, .int .i64 n] w fun e w' => e = .returned (.int .i64 (setI n c)) ∧ Below w.heap.size w w' := by
  obtain ⟨a1, cap1, rfl⟩ := Rd.slice h
  have hm := h.2.1
  unfold maxLen at hm
  go_enter Try.func60, Try.ntmps60
  go_wp2
  go_loopw [5, 6] (fun v5 v6 wr => ∃ j S : Nat, j ≤ c.length ∧ v6 = .int .i64 (j : Int) ∧ v5 = .int .i64 (S : Int) ∧ Below w.heap.size w wr ∧ Hid (setTo n c j = some S)) (fun _ v6 _ => c.length - (intOf v6).toNat)
  case atStart => exact ⟨0, 0, Nat.zero_le _, rfl, rfl, Below.refl _ _, Lib.hid rfl⟩
  case round =>
    obtain ⟨j, S, hj, rfl, rfl, hbr, HA⟩ := hrel
    by_cases hlt : j < c.length
    · obtain ⟨p, hp⟩ : ∃ p, c[j]? = some p := ⟨_, List.getElem?_eq_getElem hlt⟩
      have HP := Lib.hid hp
      obtain ⟨b1, o1, c1, hv1, x1⟩ := Rd1.cell (Rd.below h hbr) hp
      simp only [Value.slice.injEq, true_and] at hv1
      obtain ⟨rfl, rfl⟩ := hv1
      clear hp
      have hS := setTo_lt hn.2 HA.out
      by_cases r1 : 0 ≤ p ∧ p ≤ n
      · have hp0 := r1.1
        have hp7 : p ≤ 7 := by omega
        obtain ⟨q', rfl⟩ := Int.eq_ofNat_of_zero_le hp0
        by_cases hj0 : 0 < j
        · obtain ⟨q, hq⟩ : ∃ q, c[j - 1]? = some q := ⟨_, List.getElem?_eq_getElem (by omega)⟩
          have HQ := Lib.hid hq
          obtain ⟨b2, o2, c2, hv2, x2⟩ := Rd1.cell (Rd.below h hbr) hq
          simp only [Value.slice.injEq, true_and, Option.some.injEq, Addr.mk.injEq, and_true] at hv2
          obtain ⟨⟨rfl, rfl⟩, rfl⟩ := hv2
          clear hq
          have hj1 : (0 : Int) ≤ (j : Int) - 1 := by omega
          have hj2 : (1 : Int) ≤ (j : Int) := by omega
          have hj3 : (j : Int) - 1 < (c.length : Int) := by omega
          have hj4 : 1 ≤ j := by omega
          have ej1 : IntKind.i64.wrap ((j : Int) - 1) = (j : Int) - 1 := IntWalk.i64_in _ (by omega)
          have ej2 : ((j : Int) - 1).toNat = j - 1 := by omega
          by_cases hls : (q' : Int) ≤ q
          · have HB := Lib.hid (setI_none (setTo_end (setTo_bad HP.out HA.out fun k => by have := k.2 q (by omega) HQ.out; omega) (show j + 1 ≤ c.length by omega)))
            go_wp2_with fail
            go_quiet ((first | (go_at_call 58; exact Calls.quiet_of_same (in_yes' _ _ _ (by assumption) _)) | (go_at_call 58; exact Calls.quiet_of_same (in_no' _ _ _ (by assumption) _))))
            go_wp2
            go_ret
            exact ⟨by rw [HB.out]; rfl, below_drewN hbr _⟩
          · have HN := Lib.hid (setTo_step HP.out HA.out r1 fun y _ hy => by
              rw [HQ.out] at hy
              obtain rfl := Option.some.inj hy
              omega)
            go_wp2_with fail
            go_quiet ((first | (go_at_call 58; exact Calls.quiet_of_same (in_yes' _ _ _ (by assumption) _)) | (go_at_call 58; exact Calls.quiet_of_same (in_no' _ _ _ (by assumption) _))))
            go_wp2
            exact ⟨⟨j + 1, S ||| 2 ^ q', by omega, by go_num, by rw [orb_eq hS (by omega)], below_drewN hbr _, HN⟩, by simp [intOf]; omega⟩
        · have hj1 : decide (0 < j) = false := decide_eq_false hj0
          have HN := Lib.hid (setTo_step HP.out HA.out r1 fun y h0 _ => by omega)
          go_wp2_with fail
          go_quiet ((first | (go_at_call 58; exact Calls.quiet_of_same (in_yes' _ _ _ (by assumption) _)) | (go_at_call 58; exact Calls.quiet_of_same (in_no' _ _ _ (by assumption) _))))
          go_wp2
          exact ⟨⟨j + 1, S ||| 2 ^ q', by omega, by go_num, by rw [orb_eq hS (by omega)], below_drewN hbr _, HN⟩, by simp [intOf]; omega⟩
      · have HB := Lib.hid (setI_none (setTo_end (setTo_bad HP.out HA.out fun k => r1 k.1) (show j + 1 ≤ c.length by omega)))
        go_wp2_with fail
        go_quiet ((first | (go_at_call 58; exact Calls.quiet_of_same (in_yes' _ _ _ (by assumption) _)) | (go_at_call 58; exact Calls.quiet_of_same (in_no' _ _ _ (by assumption) _))))
        go_wp2
        go_ret
        exact ⟨by rw [HB.out]; rfl, below_drewN hbr _⟩
    · obtain rfl : j = c.length := by omega
      have HB := Lib.hid (setI_some HA.out)
      go_wp2
      go_ret
      exact ⟨by rw [HB.out]; rfl, hbr⟩

/-- The tunes below k in a set. -/
def bitsTo (S k : Nat) : List Int := ((List.range k).filter fun i => S.testBit i).map Int.ofNat
theorem bitsTo_yes {S k : Nat} (h : S.testBit k = true) : bitsTo S (k + 1) = bitsTo S k ++ [(k : Int)] := by
  unfold bitsTo; rw [List.range_succ, List.filter_append, List.map_append]; simp [h]
theorem bitsTo_no {S k : Nat} (h : S.testBit k = false) : bitsTo S (k + 1) = bitsTo S k := by
  unfold bitsTo; rw [List.range_succ, List.filter_append, List.map_append]; simp [h]
theorem bitsTo_len (S k : Nat) : (bitsTo S k).length ≤ k := by
  unfold bitsTo; rw [List.length_map]; exact Nat.le_trans (List.length_filter_le _ _) (by simp)

set_option maxHeartbeats 1000000 in
theorem l09bits_any {w : World} (S : Nat) (hS : S < 256) :
    Calls Try.prog 63 #[.int .i64 (S : Int)] w (NewInts w (bitsTo S 8)) := by
  obtain ⟨i0, hi, hz0, hz1, hz2⟩ := info_parts infoInt
  go_enter Try.func63, Try.ntmps63
  go_wp2_with fail
  go_loopw [3, 4] (fun v3 v4 wr => ∃ j : Nat, j ≤ 8 ∧ v4 = .int .i64 (j : Int) ∧ wr.ownsRow w.heap.size 3 1 v3 (bitsTo S j).length ((bitsTo S j).map intV) ∧ Below w.heap.size w wr) (fun _ v4 _ => 8 - (intOf v4).toNat)
  case atStart => exact ⟨0, Nat.zero_le _, rfl, World.ownsRow_made w #[] 0 (Nat.le_refl _) (by simp) rfl, (Below.refl _ _).alloc (Nat.le_refl _) _⟩
  case round =>
    obtain ⟨j, hj, rfl, hown, hbr⟩ := hrel
    by_cases hlt : j < 8
    · have hbit := bits_eq hS (k := j) (by omega)
      have htk := bitsTo_len S j
      have hd : decide ((j : Int) < 8) = true := decide_eq_true (by omega)
      by_cases hb : S.testBit j = true
      · rw [if_pos hb] at hbit
        have hbit2 : (bits .and .i64 ((S : Int) / 2 ^ j) 1 == 1) = true := by rw [hbit]; rfl
        have HA := Lib.hid (bitsTo_yes hb)
        go_wp2_with (at_builtin; refine wpList_append_own _ rfl _ _ 27 rfl w.heap.size 3 i0 (.int .i64 0) 1 8 Try.underlying27 hi hz0 hz1 hz2 rfl (by decide) _ (bitsTo S j).length _ rfl (hown.alloc _) ⟨wr.heap.size, 0, none⟩ 1 1 [.int .i64 (j : Int)] rfl rfl ?c1 ?c2 ?c3 ?c4 ?c5 ?_)
        case c1 => first | exact World.news_of_block (heap_alloc_new wr _) | exact fun _ _ h => h
        case c2 => simp [Value.oneCell']
        case c3 => unfold maxLen; omega
        case c4 => omega
        case c5 => have := hbr.size; simp; omega
        intro v' w2 hown2 hgrow _
        have hb2 := (hbr.alloc hbr.size _).grown hgrow (by have := hbr.size; simp; omega) (fun q hq => (hown.lt q hq).1)
        have hown3 : w2.ownsRow w.heap.size 3 1 v' (bitsTo S (j + 1)).length ((bitsTo S (j + 1)).map intV) := by
          rw [HA.out, List.map_append, List.length_append]; exact hown2
        clear hown hown2 hgrow hbr htk
        go_wp2
        go_roundw
        case rel => exact ⟨j + 1, by omega, by go_num, hown3, hb2⟩
        case measure => simp [intOf]; omega
      · have hbf : S.testBit j = false := by simpa using hb
        rw [if_neg hb] at hbit
        have hbit2 : (bits .and .i64 ((S : Int) / 2 ^ j) 1 == 1) = false := by rw [hbit]; rfl
        have HA := Lib.hid (bitsTo_no hbf)
        have hown3 : wr.ownsRow w.heap.size 3 1 u3 (bitsTo S (j + 1)).length ((bitsTo S (j + 1)).map intV) := by
          rw [HA.out]; exact hown
        clear hown htk
        go_wp2
        go_roundw
        case rel => exact ⟨j + 1, by omega, by go_num, hown3, hbr⟩
        case measure => simp [intOf]; omega
    · obtain rfl : j = 8 := by omega
      go_wp2
      go_ret
      exact ⟨_, rfl, hown, hbr⟩

/-- The order of rows of one length. -/
def rowLess : List Int → List Int → Bool
  | x :: a, y :: b => if x = y then rowLess a b else decide (x < y)
  | _, _ => false
theorem rowLess_same {a b : List Int} {j : Nat} {x : Int} (h1 : a[j]? = some x) (h2 : b[j]? = some x) : rowLess (a.drop j) (b.drop j) = rowLess (a.drop (j + 1)) (b.drop (j + 1)) := by
  obtain ⟨l1, e1⟩ := List.getElem?_eq_some_iff.1 h1
  obtain ⟨l2, e2⟩ := List.getElem?_eq_some_iff.1 h2
  rw [List.drop_eq_getElem_cons l1, List.drop_eq_getElem_cons l2, e1, e2]
  conv => lhs; unfold rowLess
  exact if_pos rfl
theorem rowLess_diff {a b : List Int} {j : Nat} {x y : Int} (h1 : a[j]? = some x) (h2 : b[j]? = some y) (h : ¬ x = y) : rowLess (a.drop j) (b.drop j) = decide (x < y) := by
  obtain ⟨l1, e1⟩ := List.getElem?_eq_some_iff.1 h1
  obtain ⟨l2, e2⟩ := List.getElem?_eq_some_iff.1 h2
  rw [List.drop_eq_getElem_cons l1, List.drop_eq_getElem_cons l2, e1, e2]
  conv => lhs; unfold rowLess
  exact if_neg h

set_option maxHeartbeats 2000000 in
theorem l09less_any {w : World} {va vb : Value} {a b : List Int} (hab : a.length = b.length) (ha : Rd1 w va a) (hb : Rd1 w vb b) :
    Calls Try.prog 64 #[va, vb] w fun e w' => e = .returned (.bool (rowLess a b)) ∧ Below w.heap.size w w' := by
  obtain ⟨a1, cap1, rfl⟩ := Rd.slice ha
  obtain ⟨a2, cap2, rfl⟩ := Rd.slice hb
  have hm := ha.2.1
  unfold maxLen at hm
  go_enter Try.func64, Try.ntmps64
  go_wp2
  go_loopw [5] (fun v5 wr => ∃ j : Nat, j ≤ a.length ∧ v5 = .int .i64 (j : Int) ∧ Below w.heap.size w wr ∧ Hid (rowLess a b = rowLess (a.drop j) (b.drop j))) (fun v5 _ => a.length - (intOf v5).toNat)
  case atStart => exact ⟨0, Nat.zero_le _, rfl, Below.refl _ _, Lib.hid (by simp)⟩
  case round =>
    obtain ⟨j, hj, rfl, hbr, HA⟩ := hrel
    by_cases hlt : j < a.length
    · obtain ⟨p, hp⟩ : ∃ p, a[j]? = some p := ⟨_, List.getElem?_eq_getElem hlt⟩
      obtain ⟨q, hq⟩ : ∃ q, b[j]? = some q := ⟨_, List.getElem?_eq_getElem (by omega)⟩
      have hltb : j < b.length := by omega
      have hltbi : (j : Int) < (b.length : Int) := by omega
      have HP := Lib.hid hp
      have HQ := Lib.hid hq
      obtain ⟨b1, o1, c1, hv1, x1⟩ := Rd1.cell (Rd.below ha hbr) hp
      simp only [Value.slice.injEq, true_and] at hv1
      obtain ⟨rfl, rfl⟩ := hv1
      obtain ⟨b2, o2, c2, hv2, x2⟩ := Rd1.cell (Rd.below hb hbr) hq
      simp only [Value.slice.injEq, true_and] at hv2
      obtain ⟨rfl, rfl⟩ := hv2
      clear hp hq
      by_cases he : p = q
      · subst he
        have HN := Lib.hid (HA.out.trans (rowLess_same HP.out HQ.out))
        go_wp2_with fail
        go_quiet (fail)
        go_wp2
        go_roundw
        case rel => exact ⟨j + 1, by omega, by go_num, below_drewN hbr _, HN⟩
        case measure => simp [intOf]; omega
      · have HN := Lib.hid (HA.out.trans (rowLess_diff HP.out HQ.out he))
        have hpb : (p == q) = false := by simpa using he
        go_wp2_with fail
        go_quiet (fail)
        go_wp2_with fail
        have x1d : (wr.drewN nq).cell? ⟨b1, o1 + j, none⟩ = some (.int .i64 p) := x1
        have x2d : (wr.drewN nq).cell? ⟨b2, o2 + j, none⟩ = some (.int .i64 q) := x2
        have hbd := below_drewN hbr nq
        clear x1 x2 hbr
        generalize wr.drewN nq = W2 at *
        go_quiet (fail)
        go_wp2
        go_ret
        exact ⟨by rw [HN.out]; rfl, below_drewN hbd _⟩
    · obtain rfl : j = a.length := by omega
      have HN := Lib.hid (HA.out.trans (show rowLess (a.drop a.length) (b.drop a.length) = false by rw [List.drop_length]; rfl))
      go_wp2
      go_ret
      exact ⟨by rw [HN.out]; rfl, hbr⟩
end Go.Proofs.Ytdmjfdigaiokfaa
