/- Chapter 16: the model's RootOf. No condition. -/
import Derived.Test.YtceebblokibapaaStepSpec
import Derived.Test.YtceebblokibapaaCmp
namespace Go.Proofs.Ytceebblokibapaa
open Go.ChangeShapes Go.WideShapes Go.ChangeAt Go.RowKit

theorem bits_or {a b : Nat} (ha : a < 4096) (hb : b < 4096) : bits BinOp.or IntKind.i64 (a : Int) (b : Int) = ((a ||| b : Nat) : Int) := by
  have hl : a ||| b < 2 ^ 12 := Nat.or_lt_two_pow (by omega) (by omega)
  unfold bits
  simp only [BitVec.ofInt_natCast, BitVec.toNat_or, BitVec.toNat_ofNat]
  rw [Nat.mod_eq_of_lt (show a < 2 ^ IntKind.i64.bits from Nat.lt_of_lt_of_le ha (by decide)), Nat.mod_eq_of_lt (show b < 2 ^ IntKind.i64.bits from Nat.lt_of_lt_of_le hb (by decide))]
  exact IntWalk.i64_in _ (by omega)
theorem two_lt {s : Nat} (hs : s < 12) : 2 ^ s < 4096 := (Nat.pow_lt_pow_right (by omega) hs : 2 ^ s < 2 ^ 12)
theorem wrap_two {s : Nat} (hs : s < 12) : wrap64 ((2 : Int) ^ s) = ((2 ^ s : Nat) : Int) := by
  have h := two_lt hs
  have e : ((2 ^ s : Nat) : Int) = (2 : Int) ^ s := by simp
  rw [← e]
  generalize 2 ^ s = m at h
  unfold wrap64; omega
theorem wrap_two' {s : Nat} (hs : s < 12) : IntKind.i64.wrap ((2 : Int) ^ s) = ((2 ^ s : Nat) : Int) := by
  have h := two_lt hs
  have e : ((2 ^ s : Nat) : Int) = (2 : Int) ^ s := by simp
  rw [← e]
  generalize 2 ^ s = m at h
  exact IntWalk.i64_in _ (by omega)
theorem bits_two {S s : Nat} (hS : S < 4096) (hs : s < 12) : bits BinOp.or IntKind.i64 (S : Int) (wrap64 ((2 : Int) ^ s)) = ((S ||| 2 ^ s : Nat) : Int) := by
  rw [wrap_two hs, bits_or hS (two_lt hs)]
theorem or_lt {a b : Nat} (ha : a < 4096) (hb : b < 4096) : a ||| b < 4096 := Nat.or_lt_two_pow (n := 12) ha hb
/-- A triad as a set of bits. -/
def triN (r th : Nat) : Nat := (2 ^ r ||| 2 ^ ((r + 7) % 12)) ||| 2 ^ ((r + th) % 12)
theorem triN_bit (r th s : Nat) : (triN r th).testBit s = (decide (r = s) || decide ((r + 7) % 12 = s) || decide ((r + th) % 12 = s)) := by
  unfold triN
  rw [Nat.testBit_or, Nat.testBit_or, Nat.testBit_two_pow, Nat.testBit_two_pow, Nat.testBit_two_pow]
theorem triN_eq {l : List Int} {S r th : Nat} (hr : r < 12) (hS : ∀ s, S.testBit s = (decide (s < 12) && inSt l s)) : S = triN r th ↔ triB l r th = true := by
  rw [triB_true]
  constructor
  · intro h s hs
    have h1 := hS s
    rw [h, triN_bit, decide_eq_true hs, Bool.true_and] at h1
    rw [← h1, Bool.eq_iff_iff]
    simp only [Bool.or_eq_true, decide_eq_true_iff, beq_iff_eq]
    omega
  · intro h
    apply Nat.eq_of_testBit_eq
    intro s
    rw [hS, triN_bit]
    by_cases hs : s < 12
    · rw [decide_eq_true hs, Bool.true_and, h s hs, Bool.eq_iff_iff]
      simp only [Bool.or_eq_true, decide_eq_true_iff, beq_iff_eq]
      omega
    · rw [decide_eq_false hs, Bool.false_and, eq_comm, Bool.or_eq_false_iff, Bool.or_eq_false_iff, decide_eq_false_iff_not, decide_eq_false_iff_not, decide_eq_false_iff_not]
      omega

set_option maxHeartbeats 2000000 in
theorem rootG_any {w : World} {v : Value} {l : List Int} (h : Rd1 w v l) :
    Calls Try.prog 7 #[v] w fun e w' => e = .returned (.int .i64 (rootI l)) ∧ Below w.heap.size w w' := by
  obtain ⟨a1, cap1, rfl⟩ := Rd.slice h
  have hm := h.2.1
  unfold maxLen at hm
  by_cases ht : (decide (1 ≤ l.length) && togB l) = true
  · have HT := Lib.hid ht
    have hp : TogP l := by rw [Bool.and_eq_true, togB_true] at ht; exact ht.2
    have HP := Lib.hid hp
    have h8 := hp.1
    clear ht hp
    go_enter Try.func7, Try.ntmps7
    go_wp2_with fail
    refine (okG_any 1 (by omega) h).mono ?_
    rintro e w1 ⟨rfl, rfl⟩
    rw [HT.out]
    go_wp2_with fail
    go_loopw [3, 4] (fun v3 v4 wr => ∃ j S : Nat, j ≤ l.length ∧ v4 = .int .i64 j ∧ v3 = .int .i64 (S : Int) ∧ S < 4096 ∧ w = wr ∧ Hid (∀ s, S.testBit s = (decide (s < 12) && inSt (l.take j) s))) (fun _ v4 _ => l.length - (intOf v4).toNat)
    case atStart => exact ⟨0, 0, Nat.zero_le _, rfl, rfl, by omega, rfl, Lib.hid (fun s => by simp [inSt])⟩
    case round =>
      obtain ⟨j, S, hj, rfl, rfl, hS, rfl, HI⟩ := hrel
      by_cases hlt : j < l.length
      · obtain ⟨p, hp⟩ : ∃ p, l[j]? = some p := ⟨_, List.getElem?_eq_getElem hlt⟩
        have hpr := HP.out.2 j p hp
        obtain ⟨b1, o1, c1, hv1, x1⟩ := Rd1.cell h hp
        simp only [Value.slice.injEq, true_and] at hv1
        obtain ⟨rfl, rfl⟩ := hv1
        have HQ := Lib.hid hp
        clear hp
        obtain ⟨s, hs⟩ : ∃ s : Nat, p % 12 = (s : Int) := ⟨(p % 12).toNat, by omega⟩
        have hs12 : s < 12 := by omega
        have hp0 : 0 ≤ p := hpr.1
        have hor := bits_two hS hs12
        have hlt2 := or_lt hS (two_lt hs12)
        have HK : Hid (∀ u, (S ||| 2 ^ s).testBit u = (decide (u < 12) && inSt (l.take (j + 1)) u)) := Lib.hid (fun u => by
          rw [Nat.testBit_or, Nat.testBit_two_pow, HI.out u, inSt_step HQ.out, hs]
          by_cases hu : u < 12
          · rw [decide_eq_true hu, Bool.true_and, Bool.true_and]
            congr 1
            rw [Bool.eq_iff_iff, decide_eq_true_iff, beq_iff_eq]; omega
          · rw [decide_eq_false hu, Bool.false_and, Bool.false_and, Bool.false_or, decide_eq_false_iff_not]; omega)
        generalize S ||| 2 ^ s = T at *
        go_wp2
        go_roundw
        case rel => exact ⟨j + 1, T, by omega, by go_num, by first | rfl | rw [hor], hlt2, by first | trivial | rfl, HK⟩
        case measure => simp [intOf]; omega
      · obtain rfl : j = l.length := by omega
        rw [List.take_length] at HI
        have HRT := Lib.hid (rootI_yes HP.out)
        go_wp2_with fail
        go_loopw [5] (fun v5 wr => ∃ r : Nat, r ≤ 12 ∧ v5 = .int .i64 r ∧ Below w.heap.size w wr ∧ Hid (rootI l = rootFrom l (12 - r) r)) (fun v5 _ => 12 - (intOf v5).toNat)
        case atStart => exact ⟨0, by omega, rfl, Below.refl _ _, HRT⟩
        case round =>
          obtain ⟨r, hr, rfl, hbr, HR⟩ := hrel
          by_cases hlr : r < 12
          · have e12 : 12 - r = (12 - (r + 1)) + 1 := by omega
            have H4 := Lib.hid (triN_eq (th := 4) hlr HI.out)
            have H3 := Lib.hid (triN_eq (th := 3) hlr HI.out)
            have HRY := Lib.hid (fun h => HR.out.trans ((congrArg (fun n => rootFrom l n r) e12).trans (rootFrom_yes h)))
            have HRN := Lib.hid (fun h => HR.out.trans ((congrArg (fun n => rootFrom l n r) e12).trans (rootFrom_no h)))
            clear e12 HR
            obtain ⟨r7, h7⟩ : ∃ n : Nat, n = (r + 7) % 12 := ⟨_, rfl⟩
            obtain ⟨r4, h4⟩ : ∃ n : Nat, n = (r + 4) % 12 := ⟨_, rfl⟩
            obtain ⟨r3, h3⟩ : ∃ n : Nat, n = (r + 3) % 12 := ⟨_, rfl⟩
            have i7 : ((r : Int) + 7) % 12 = (r7 : Int) := by omega
            have i4 : ((r : Int) + 4) % 12 = (r4 : Int) := by omega
            have i3 : ((r : Int) + 3) % 12 = (r3 : Int) := by omega
            have l7 : r7 < 12 := by omega
            have l4 : r4 < 12 := by omega
            have l3 : r3 < 12 := by omega
            obtain ⟨B, hB⟩ : ∃ B, B = 2 ^ r ||| 2 ^ r7 := ⟨_, rfl⟩
            have b1 : bits BinOp.or IntKind.i64 (wrap64 ((2 : Int) ^ r)) (wrap64 ((2 : Int) ^ r7)) = (B : Int) := by rw [wrap_two hlr, bits_two (two_lt hlr) l7, hB]
            have hB2 : B < 4096 := by rw [hB]; exact or_lt (two_lt hlr) (two_lt l7)
            have b4 := bits_two hB2 l4
            have b3 := bits_two hB2 l3
            have t4 : B ||| 2 ^ r4 = triN r 4 := by rw [hB, h7, h4]; rfl
            have t3 : B ||| 2 ^ r3 = triN r 3 := by rw [hB, h7, h3]; rfl
            rw [t4] at b4
            rw [t3] at b3
            generalize triN r 4 = T4 at *
            generalize triN r 3 = T3 at *
            clear hB h7 h4 h3 t4 t3 l7 l4 l3 hB2
            go_wp2_with fail
            refine wp_region_quiet_grown (by kernel_rfl) (by kernel_rfl) ?_
            repeat (go_big_quiet_step (fail))
            refine wpQuiet_nil ?_
            intro _ hw'
            obtain ⟨⟨nq, osq⟩, hw''⟩ := hw'
            subst hw''
            have hbe := bstep hbr (Gr.below ⟨nq, osq, rfl⟩ : Below wr.heap.size wr (Sort.grow (wr.drewN nq) osq))
            generalize Sort.grow (wr.drewN nq) osq = W2 at *
            clear hbr
            by_cases c4 : S = T4
            · have hq : ((S : Int) == (T4 : Int)) = true := by rw [beq_iff_eq]; omega
              have HZ := Lib.hid (HRY.out (by rw [H4.out.1 c4]; rfl))
              clear c4 H4 H3 HRY HRN
              go_wp2
              go_ret
              exact ⟨by rw [HZ.out]; rfl, hbe⟩
            · have hq : ((S : Int) == (T4 : Int)) = false := by rw [beq_eq_false_iff_ne]; omega
              have HF4 : Hid (triB l r 4 = false) := Lib.hid (by cases hx : triB l r 4 with | false => rfl | true => exact absurd (H4.out.2 hx) c4)
              by_cases c3 : S = T3
              · have hq3 : ((S : Int) == (T3 : Int)) = true := by rw [beq_iff_eq]; omega
                have HZ := Lib.hid (HRY.out (by rw [H3.out.1 c3, Bool.or_true]))
                clear c4 c3 H4 H3 HRY HRN
                go_wp2
                go_ret
                exact ⟨by rw [HZ.out]; rfl, hbe⟩
              · have hq3 : ((S : Int) == (T3 : Int)) = false := by rw [beq_eq_false_iff_ne]; omega
                have HF3 : Hid (triB l r 3 = false) := Lib.hid (by cases hx : triB l r 3 with | false => rfl | true => exact absurd (H3.out.2 hx) c3)
                have HZ := Lib.hid (HRN.out (by rw [HF4.out, HF3.out]; rfl))
                clear c4 c3 H4 H3 HRY HRN
                go_wp2
                go_roundw
                case rel => exact ⟨r + 1, by omega, by go_num, hbe, HZ⟩
                case measure => simp [intOf]; omega
          · obtain rfl : r = 12 := by omega
            have HZ : Hid (rootI l = -1) := HR
            go_wp2
            go_ret
            exact ⟨by rw [HZ.out]; rfl, hbr⟩
  · have HT : Hid ((decide (1 ≤ l.length) && togB l) = false) := Lib.hid (by simpa using ht)
    have HR : Hid (rootI l = -1) := Lib.hid (by
      by_cases hl : l = []
      · subst hl; exact rootI_nil
      · have h1 : 1 ≤ l.length := by cases l with | nil => exact absurd rfl hl | cons _ _ => simp
        have h2 := HT.out
        rw [decide_eq_true h1, Bool.true_and] at h2
        exact rootI_no (togB_false.1 h2))
    clear ht
    go_enter Try.func7, Try.ntmps7
    go_wp2_with fail
    refine (okG_any 1 (by omega) h).mono ?_
    rintro e w1 ⟨rfl, rfl⟩
    rw [HT.out]
    go_wp2
    go_ret
    exact ⟨by rw [HR.out]; rfl, Below.refl _ _⟩
end Go.Proofs.Ytceebblokibapaa
