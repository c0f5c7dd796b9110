/- What FnPrograms asks of the answers of chapter 9, in one. Pure. No condition. -/
import Derived.Test.YtcbdoldcdgaooaaChooseMore
import Derived.Test.YtcbdoldcdgaooaaImplExtra
namespace Go.Proofs.Ytcbdoldcdgaooaa
open Go.ChangeShapes Go.WideShapes Go.ChangeAt Go.RowKit

def allL (n : Nat) : List Int := (List.range n).map Int.ofNat
theorem allL_succ (n : Nat) : allL (n + 1) = allL n ++ [(n : Int)] := by unfold allL; rw [List.range_succ, List.map_append]; rfl
theorem allL_len (n : Nat) : (allL n).length = n := by unfold allL; simp
theorem allL_bits : ∀ n : Fin 9, allL n.1 = bitsTo (2 ^ n.1 - 1) 8 := by decide +kernel
theorem bits_zero : bitsTo 0 8 = [] := by decide +kernel
theorem bits_more : ∀ S : Fin 256, ∀ k : Fin 8, S.1.testBit k.1 = false → (bitsTo (S.1 ||| 2 ^ k.1) 8).length = (bitsTo S.1 8).length + 1 := by decide +kernel
theorem bits_part : ∀ n : Fin 9, ∀ T : Fin 256, T.1 < 2 ^ n.1 → bitsTo T.1 n.1 = bitsTo T.1 8 := by decide +kernel
theorem needSet_ge {r : Int} {ll : List (List (Int × Int))} {S k : Nat} {t : List (Int × Int)} (h : ll[k]? = some t) (hb : S.testBit k = true) (p : Int) : ∀ m, k < m → needTo r t t.length p ≤ needSet r ll S m p
  | 0, hk => by omega
  | m + 1, hk => by
    by_cases e : k = m
    · subst e
      rw [needSet_in h hb]; omega
    · have ih := needSet_ge (r := r) h hb p m (by omega)
      cases hm : ll[m]? with
      | none =>
        have e2 : needSet r ll S (m + 1) p = needSet r ll S m p := by
          conv => lhs; unfold needSet
          rw [hm]
        rw [e2]; exact ih
      | some u =>
        cases hs : S.testBit m with
        | true => rw [needSet_in hm hs]; omega
        | false => rw [needSet_out hm hs]; exact ih

structure ChoiceP (r teeth : Int) (ll : List (List (Int × Int))) (b : List Int) (n1 whole : Int) (c : List Int) (mb : Bool) : Prop where
  most : mostM r ll teeth = (b, true)
  short : b.length ≤ 8
  of : allI r ll b = n1
  fits : 0 ≤ n1 ∧ n1 ≤ teeth
  more : ∀ k : Nat, k < ll.length → 0 ≤ extraI r ll b (k : Int) ∧ extraI r ll b (k : Int) ≤ 2440 ∧ ((k : Int) ∈ b → extraI r ll b (k : Int) = 0) ∧ ((k : Int) ∉ b → teeth < n1 + extraI r ll b (k : Int))
  all : allI r ll (allL ll.length) = whole
  above : n1 ≤ whole ∧ whole ≤ 2440
  comb : combAll r ll (allL ll.length) = (c, mb)
  made : mb = decide (1 ≤ whole ∧ whole ≤ 24)
  size : mb = true → (c.length : Int) = whole
  can : mb = true → ∀ (k : Nat) (t : List (Int × Int)), ll[k]? = some t → (assignM c t r).2 = true
  other : ∀ T : Nat, T < 2 ^ ll.length → 0 ≤ allI r ll (bitsTo T 8) ∧ allI r ll (bitsTo T 8) ≤ whole ∧ (teeth < allI r ll (bitsTo T 8) ∨ (bitsTo T 8).length < b.length ∨ ((bitsTo T 8).length = b.length ∧ n1 ≤ allI r ll (bitsTo T 8)))
  none : allI r ll [8] = -1

theorem choice_of {r teeth : Int} {ll : List (List (Int × Int))} (hr : 1 ≤ r ∧ r ≤ 100) (hte : 0 ≤ teeth ∧ teeth ≤ 100) (hl : ll.length ≤ 8) (hd : ∀ t ∈ ll, tuneB t = true) :
    ∃ b n1 whole c mb, ChoiceP r teeth ll b n1 whole c mb := by
  have hok : progB ll r = true := progB_true.2 ⟨hd, hl, hr⟩
  have h256 : 2 ^ ll.length ≤ 256 := Nat.pow_le_pow_right (n := 2) (by omega) hl
  have hpos : 0 < 2 ^ ll.length := Nat.pow_pos (by omega)
  obtain ⟨S, hS, hb, hn, hfit⟩ : ∃ S, S < 2 ^ ll.length ∧ (mostTo r ll teeth (2 ^ ll.length - 1)).1 = bitsTo S 8 ∧ (mostTo r ll teeth (2 ^ ll.length - 1)).2 = allS r ll S ∧ allS r ll S ≤ teeth := by
    rcases mostTo_is r ll teeth (2 ^ ll.length - 1) with h | ⟨S, h1, h2, h3, h4⟩
    · exact ⟨0, hpos, by rw [h, bits_zero], by rw [h, allS_empty], by rw [allS_empty]; exact hte.1⟩
    · exact ⟨S, by omega, by rw [h3], by rw [h3], h4⟩
  have ofS : ∀ T, T < 2 ^ ll.length → allO r ll (bitsTo T 8) = some T ∧ allI r ll (bitsTo T 8) = allS r ll T := fun T hT => by
    have e := (allO_ok (c := bitsTo T 8) hok).trans (set_of_bits hl hT)
    exact ⟨e, allI_some e⟩
  have best := fun T h1 h2 h3 => mostTo_best r ll teeth (2 ^ ll.length - 1) T h1 h2 h3
  rw [hb, hn] at best
  have hA : allL ll.length = bitsTo (2 ^ ll.length - 1) 8 := allL_bits ⟨ll.length, by omega⟩
  have inAll : ∀ T, T < 2 ^ ll.length → allS r ll T ≤ allS r ll (2 ^ ll.length - 1) := fun T hT => allS_mono fun i hi => by
    rw [Nat.testBit_two_pow_sub_one]
    have : 2 ^ i ≤ T := Nat.ge_two_pow_of_testBit hi
    exact decide_eq_true ((Nat.pow_lt_pow_iff_right (by omega : 1 < 2)).1 (Nat.lt_of_le_of_lt this hT))
  have hW := ofS (2 ^ ll.length - 1) (by omega)
  have nn := fun T => allS_nonneg (S := T) hok
  have hnl := needSL_len r ll (2 ^ ll.length - 1) ll.length
  have hnb := needSL_le (S := 2 ^ ll.length - 1) hok
  have hlen : ((combTo 61 (needSL r ll (2 ^ ll.length - 1) ll.length)).length : Int) = allS r ll (2 ^ ll.length - 1) := by
    have := combTo_sum (fun x hx => (hnb x hx).1) 61 (by omega)
    rw [List.take_of_length_le (by omega)] at this
    exact this
  refine ⟨bitsTo S 8, allS r ll S, allS r ll (2 ^ ll.length - 1), (combAll r ll (allL ll.length)).1, (combAll r ll (allL ll.length)).2,
    { most := by rw [mostM_yes hok hte, hb], short := bitsTo_len S 8, of := (ofS S hS).2, fits := ⟨(nn S).1, hfit⟩, more := fun k hk => ?_, all := by rw [hA]; exact hW.2, above := ⟨inAll S hS, (nn _).2⟩, comb := rfl, made := ?_, size := fun h => ?_, can := fun h k t ht => ?_, other := fun T hT => ?_, none := ?_ }⟩
  · have e := extraI_yes (ofS S hS).1 (show 0 ≤ (k : Int) ∧ (k : Int) ≤ (ll.length : Int) - 1 by omega)
    rw [Int.toNat_natCast] at e
    have hT : S ||| 2 ^ k < 2 ^ ll.length := Nat.or_lt_two_pow hS (Nat.pow_lt_pow_right (by omega) hk)
    have hm : allS r ll S ≤ allS r ll (S ||| 2 ^ k) := allS_mono fun i hi => by rw [or_bit, hi]; rfl
    have h1 := nn S
    have h2 := nn (S ||| 2 ^ k)
    rw [e]
    refine ⟨by omega, by omega, fun hin => ?_, fun hout => ?_⟩
    · obtain ⟨i, hi, -, hbit⟩ := bits_mem hin
      obtain rfl : k = i := by omega
      have : S ||| 2 ^ k = S := Nat.eq_of_testBit_eq fun i => by
        rw [or_bit]
        by_cases h : k = i
        · subst h; rw [hbit]; rfl
        · simp [h]
      rw [this]; omega
    · have hbit : S.testBit k = false := by
        cases h : S.testBit k with
        | false => rfl
        | true => exact absurd (mem_bits (by omega) h) hout
      have hlen := bits_more ⟨S, by omega⟩ ⟨k, by omega⟩ hbit
      simp only at hlen
      by_cases hfit2 : allS r ll (S ||| 2 ^ k) ≤ teeth
      · have hpk : 2 ^ k ≤ S ||| 2 ^ k := Nat.right_le_or
        have h1k : 0 < 2 ^ k := Nat.pow_pos (by omega)
        have := best (S ||| 2 ^ k) (by omega) (by omega) hfit2
        omega
      · omega
  · by_cases h : 1 ≤ allS r ll (2 ^ ll.length - 1) ∧ allS r ll (2 ^ ll.length - 1) ≤ 24
    · rw [decide_eq_true h, hA, combAll_yes (by rw [hW.2]; exact h) hW.1]
    · rw [decide_eq_false h, hA, combAll_no (by rw [hW.2]; exact h)]
  · by_cases hw : 1 ≤ allS r ll (2 ^ ll.length - 1) ∧ allS r ll (2 ^ ll.length - 1) ≤ 24
    · rw [hA, combAll_yes (by rw [hW.2]; exact hw) hW.1]; exact hlen
    · rw [hA, combAll_no (by rw [hW.2]; exact hw)] at h; cases h
  · by_cases hw : 1 ≤ allS r ll (2 ^ ll.length - 1) ∧ allS r ll (2 ^ ll.length - 1) ≤ 24
    · rw [hA, combAll_yes (by rw [hW.2]; exact hw) hW.1]
      have hwith := with_all hnb hnl
      rw [if_pos (show 1 ≤ (needSL r ll (2 ^ ll.length - 1) ll.length).sum ∧ (needSL r ll (2 ^ ll.length - 1) ll.length).sum ≤ 24 from hw)] at hwith
      have hcomb : combB (combTo 61 (needSL r ll (2 ^ ll.length - 1) ll.length)) = true := by
        have e : leastL (needSL r ll (2 ^ ll.length - 1) ll.length) = combTo 61 (needSL r ll (2 ^ ll.length - 1) ll.length) := by unfold leastL; rw [hnl]
        rw [← e]
        by_cases q : combB (leastL (needSL r ll (2 ^ ll.length - 1) ll.length)) = true
        · exact q
        · rw [withL_no q] at hwith; cases (Prod.mk.inj hwith).2
      have ht' := hd t (List.mem_of_getElem? ht)
      have hk := (List.getElem?_eq_some_iff.1 ht).1
      obtain ⟨⟨last, out⟩, hs⟩ := assign_enough (c := combTo 61 (needSL r ll (2 ^ ll.length - 1) ll.length)) ht' hr (fun q hq => by
        obtain ⟨i, hi⟩ := List.mem_iff_getElem?.1 hq
        obtain ⟨h0, h60⟩ := ((tuneB_true.1 ht').2 i q hi).2.1
        obtain ⟨p, hp⟩ := Int.eq_ofNat_of_zero_le h0
        rw [hits_idx, hp, combTo_hits, if_pos (by omega), List.getD_eq_getElem?_getD, needSL_at r ll _ _ (by omega)]
        show _ ≤ ((needSet r ll (2 ^ ll.length - 1) ll.length (p : Int) : Nat) : Int).toNat
        rw [Int.toNat_natCast]
        exact needSet_ge ht (by rw [Nat.testBit_two_pow_sub_one]; exact decide_eq_true hk) _ _ hk) t.length (Nat.le_refl _)
      rw [assignM_some hcomb ht' (by unfold inB; exact decide_eq_true hr) hs]
    · rw [hA, combAll_no (by rw [hW.2]; exact hw)] at h; cases h
  · rw [(ofS T hT).2]
    refine ⟨(nn T).1, inAll T hT, ?_⟩
    by_cases hf : allS r ll T ≤ teeth
    · by_cases h0 : T = 0
      · subst h0
        rw [bits_zero]
        by_cases hz : (bitsTo S 8).length = 0
        · have hz' : bitsTo S 8 = bitsTo 0 8 := by rw [bits_zero]; exact List.length_eq_zero_iff.1 hz
          have e := (ofS S hS).2
          rw [hz', (ofS 0 hpos).2] at e
          exact Or.inr (Or.inr ⟨by rw [hz]; rfl, by omega⟩)
        · exact Or.inr (Or.inl (by simp only [List.length_nil]; omega))
      · have := best T (by omega) (by omega) hf
        exact Or.inr this
    · left; omega
  · exact (allI_wrong hok (okC_two (by omega))).2
end Go.Proofs.Ytcbdoldcdgaooaa
