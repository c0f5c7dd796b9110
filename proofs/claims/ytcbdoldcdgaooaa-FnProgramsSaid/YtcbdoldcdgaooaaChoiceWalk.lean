/- The walk of the law FnPrograms. No condition. Made by gen_programs.py. -/
import Derived.Test.YtcbdoldcdgaooaaChoiceFacts
import Derived.Test.YtcbdoldcdgaooaaDrawMany
import Derived.Test.YtcbdoldcdgaooaaImplMost
import Derived.Test.YtcbdoldcdgaooaaAssignSpec2
import Derived.Deep.CutRange
import Derived.Deep.RegionHeld3
namespace Go.Proofs.Ytcbdoldcdgaooaa
open Go.ChangeShapes Go.WideShapes Go.ChangeAt Go.RowKit

theorem hasQ_any {w : World} {v : Value} {l : List Int} (x : Int) (h : Rd1 w v l) :
    Calls Try.prog 19 #[v, .int .i64 x] w fun e w' => e = .returned (.bool (decide (x ∈ l))) ∧ Below w.heap.size w w' := by
  obtain ⟨a1, cap1, rfl⟩ := Rd.slice h
  have hm := h.2.1
  unfold maxLen at hm
  go_enter Try.func19, Try.ntmps19
  go_wp2
  go_loopw [5] (fun v5 wr => ∃ j : Nat, j ≤ l.length ∧ v5 = .int .i64 (j : Int) ∧ Below w.heap.size w wr ∧ Hid (x ∉ l.take j)) (fun v5 _ => l.length - (intOf v5).toNat)
  case atStart => exact ⟨0, Nat.zero_le _, rfl, Below.refl _ _, Lib.hid (by simp)⟩
  case round =>
    obtain ⟨j, hj, rfl, hbr, HX⟩ := hrel
    by_cases hlt : j < l.length
    · obtain ⟨p, hp⟩ : ∃ p, l[j]? = some p := ⟨_, List.getElem?_eq_getElem hlt⟩
      have HP := Lib.hid hp
      obtain ⟨b1, o1, c1, hv1, x1⟩ := Rd1.cell (Rd.below h hbr) hp
      simp only [Value.slice.injEq, true_and] at hv1
      obtain ⟨rfl, rfl⟩ := hv1
      clear hp
      by_cases hpx : p = x
      · have HD := Lib.hid (show decide (x ∈ l) = true from decide_eq_true (by rw [← hpx]; exact List.mem_of_getElem? HP.out))
        subst hpx
        go_wp2
        go_ret
        exact ⟨by rw [HD.out]; rfl, hbr⟩
      · have HX2 : Hid (x ∉ l.take (j + 1)) := Lib.hid (by
          rw [List.take_add_one, HP.out, List.mem_append]
          rintro (h | h)
          · exact HX.out h
          · simp at h; exact hpx h.symm)
        have hne : (p == x) = false := by simpa using hpx
        go_wp2
        go_roundw
        case rel => exact ⟨j + 1, by omega, by go_num, hbr, HX2⟩
        case measure => simp [intOf]; omega
    · obtain rfl : j = l.length := by omega
      have HD := Lib.hid (show decide (x ∈ l) = false from decide_eq_false (by have := HX.out; rw [List.take_length] at this; exact this))
      go_wp2
      go_ret
      exact ⟨by rw [HD.out]; rfl, hbr⟩

theorem atQ_any {w : World} {v : Value} {n : Nat} {B : Nat} (i : Nat) (hi : i ≤ 20) (hC : Code w B v n) (hn : n ≤ 1048576) :
    Calls Try.prog 13 #[v, .int .i64 (i : Nat)] w fun e w' => ∃ x : Int, 0 ≤ x ∧ x ≤ 255 ∧ e = .returned (.int .i64 x) ∧ w = w' := by
  rcases hC with ⟨rfl, a, cap, rfl⟩ | ⟨b, off, cap, rfl, hm, hbB, hcell⟩
  · go_enter Try.func13, Try.ntmps13
    go_wp2
    go_ret
    exact ⟨0, by omega, by omega, rfl, rfl⟩
  · unfold maxLen at hm
    by_cases h0 : n = 0
    · subst h0
      clear hcell
      go_enter Try.func13, Try.ntmps13
      go_wp2
      go_ret
      exact ⟨0, by omega, by omega, rfl, rfl⟩
    · obtain ⟨z, hz0, hz1, hz⟩ := hcell ((i * 5 + 1) % n) (Nat.mod_lt _ (by omega))
      clear hcell
      have h0' : ((n : Int) == 0) = false := by simpa using h0
      have hm0 : (0 : Int) ≤ ((i : Int) * 5 + 1) % (n : Int) := Int.emod_nonneg _ (by omega)
      have hm1 : ((i : Int) * 5 + 1) % (n : Int) < (n : Int) := Int.emod_lt_of_pos _ (by omega)
      have hm2 : (((i : Int) * 5 + 1) % (n : Int)).toNat = (i * 5 + 1) % n := by
        have e : ((i : Int) * 5 + 1) % (n : Int) = (((i * 5 + 1) % n : Nat) : Int) := by rw [Int.natCast_emod, Int.natCast_add, Int.natCast_mul]; rfl
        rw [e]; exact Int.toNat_natCast _
      go_enter Try.func13, Try.ntmps13
      go_wp2
      go_ret
      exact ⟨z, hz0, hz1, rfl, rfl⟩


theorem nz_int {M : Nat} (h : 1 ≤ M) : ((M : Int) == 0) = false := by rw [beq_eq_false_iff_ne]; omega
theorem nz_nat {M : Nat} (h : 1 ≤ M) : ¬ M = 0 := by omega
theorem rem_nat {M : Nat} (d : Int) (h : 1 ≤ M) : ∃ T : Nat, T < M ∧ d % (M : Int) = (T : Int) := by
  have h1 := Int.emod_lt_of_pos d (show (0 : Int) < (M : Int) by omega)
  have h2 := Int.emod_nonneg d (show (M : Int) ≠ 0 by omega)
  exact ⟨(d % (M : Int)).toNat, by omega, by omega⟩

set_option maxHeartbeats 2500000 in
set_option maxRecDepth 1000000 in
theorem programs_walk {w : World} {v : Value} {n : Nat} (hC : Code w w.heap.size v n) :
    Calls Try.prog 5 #[v] w fun e w' => e = .returned (.bool true) ∧ Below w.heap.size w w' := by
  by_cases hbig : 1048576 < n
  · go_enter Try.func5, Try.ntmps5
    go_wp2_with fail
    refine (big_yes hC hbig).mono ?_
    rintro e w1 ⟨rfl, rfl⟩
    go_wp2
    go_ret
    exact ⟨rfl, Below.refl _ _⟩
  · go_enter Try.func5, Try.ntmps5
    go_wp2_with fail
    refine (big_no hC hbig).mono ?_
    rintro e w1 ⟨rfl, rfl⟩
    go_wp2_with fail
    refine (drawtunes_any hC).mono ?_
    rintro e w2 ⟨vt, us, ll, rfl, hR2, hl4, hd, hb2⟩
    have hC2 := hC.below hb2
    obtain ⟨adt, cpt, rfl⟩ := hR2.1.slice
    go_wp2_with fail
    refine (atQ_any 0 (by omega) hC2 (by omega)).mono ?_
    rintro e w3 ⟨x, hx0, hx1, rfl, rfl⟩
    have hx2 : 0 ≤ x % 4 := Int.emod_nonneg _ (by omega)
    have hx3 : x % 4 ≤ 3 := by omega
    have hrI : IntKind.i64.wrap (1 + x % 4) = 1 + x % 4 := by rw [IntKind.wrap_i64]; omega
    have hr : 1 ≤ 1 + x % 4 ∧ 1 + x % 4 ≤ 100 := by omega
    go_wp2_with fail
    refine (atQ_any 1 (by omega) hC2 (by omega)).mono ?_
    rintro e w3 ⟨y, hy0, hy1, rfl, rfl⟩
    have hy2 : 0 ≤ y % 25 := Int.emod_nonneg _ (by omega)
    have hy3 : y % 25 ≤ 24 := by omega
    go_wp2_with fail
    clear hx0 hx1 hx2 hx3
    generalize 1 + x % 4 = r at *
    clear hy0 hy1
    generalize y % 25 = teeth at *
    have HCO := Lib.hid hC
    have HDR := Lib.hid hd
    clear hd hC2 hC hrI
    obtain ⟨b, n1, whole, c, mb, F⟩ := choice_of (r := r) (teeth := teeth) hr (by omega) (by omega) fun t ht => (HDR.out t ht).2.1
    have HR := Lib.hid (fun (W : World) (k : Below w2.heap.size w2 W) => hR2.below k)
    have HMost : Hid (∀ W : World, Below w2.heap.size w2 W → Calls Try.prog 34 #[.slice adt ll.length cpt, .int .i64 r, .int .i64 teeth] W (NewIntsB W b true)) := Lib.hid fun W k => by
      have := imost_any r teeth (HR.out W k)
      rw [F.most] at this
      exact this
    have HOf : Hid (∀ (W : World) (U : Value), Below w2.heap.size w2 W → Rd1 W U b → Calls Try.prog 35 #[.slice adt ll.length cpt, U, .int .i64 r] W (fun e w' => e = .returned (.int .i64 n1) ∧ Below W.heap.size W w')) := Lib.hid fun W U k h => by
      have := iforall_any r (HR.out W k) h
      rw [F.of] at this
      exact this
    have HMore : Hid (∀ k : Nat, k < ll.length → ∃ e1 : Int, 0 ≤ e1 ∧ e1 ≤ 2440 ∧ ((k : Int) ∈ b → e1 = 0) ∧ ((k : Int) ∉ b → teeth < n1 + e1) ∧ ∀ (W : World) (U : Value), Below w2.heap.size w2 W → Rd1 W U b → Calls Try.prog 36 #[.slice adt ll.length cpt, U, .int .i64 (k : Int), .int .i64 r] W (fun e w' => e = .returned (.int .i64 e1) ∧ Below W.heap.size W w')) := Lib.hid fun k hk => by
      obtain ⟨q1, q2, q3, q4⟩ := F.more k hk
      exact ⟨_, q1, q2, q3, q4, fun W U kb h => iextra_any (k : Int) r (HR.out W kb) h⟩
    have HAll : Hid (∀ (W : World) (U : Value), Below w2.heap.size w2 W → Rd1 W U (allL ll.length) → Calls Try.prog 35 #[.slice adt ll.length cpt, U, .int .i64 r] W (fun e w' => e = .returned (.int .i64 whole) ∧ Below W.heap.size W w')) := Lib.hid fun W U k h => by
      have := iforall_any r (HR.out W k) h
      rw [F.all] at this
      exact this
    have HComb : Hid (∀ (W : World) (U : Value), Below w2.heap.size w2 W → Rd1 W U (allL ll.length) → Calls Try.prog 37 #[.slice adt ll.length cpt, U, .int .i64 r] W (NewIntsB W c mb)) := Lib.hid fun W U k h => by
      have := icomball_any r (HR.out W k) h
      rw [F.comb] at this
      exact this
    have HCan : Hid (mb = true → ∀ (k : Nat) (t : List (Int × Int)), ll[k]? = some t → ∀ (W : World) (U V : Value), Rd1 W U c → Rd2 W V t → Calls Try.prog 38 #[U, V, .int .i64 r] W (fun e w' => ∃ v, e = .returned (.tuple #[v, .bool true]) ∧ Below W.heap.size W w')) := Lib.hid fun hmb k t hk W U V h1 h2 => by
      have := assign_any r h1 h2
      rw [F.can hmb k t hk] at this
      exact this.mono fun _ _ ⟨v, he, _, hb⟩ => ⟨v, he, hb⟩
    have HOther : Hid (∀ T : Nat, T < 2 ^ ll.length → ∃ o : Int, 0 ≤ o ∧ o ≤ whole ∧ (teeth < o ∨ (bitsTo T 8).length < b.length ∨ ((bitsTo T 8).length = b.length ∧ n1 ≤ o)) ∧ ∀ (W : World) (U : Value), Below w2.heap.size w2 W → Rd1 W U (bitsTo T 8) → Calls Try.prog 35 #[.slice adt ll.length cpt, U, .int .i64 r] W (fun e w' => e = .returned (.int .i64 o) ∧ Below W.heap.size W w')) := Lib.hid fun T hT => by
      obtain ⟨q1, q2, q3⟩ := F.other T hT
      exact ⟨_, q1, q2, q3, fun W U kb h => iforall_any r (HR.out W kb) h⟩
    have HNone : Hid (∀ (W : World) (U : Value), Below w2.heap.size w2 W → Rd1 W U [8] → Calls Try.prog 35 #[.slice adt ll.length cpt, U, .int .i64 r] W (fun e w' => e = .returned (.int .i64 (-1)) ∧ Below W.heap.size W w')) := Lib.hid fun W U k h => by
      have := iforall_any r (HR.out W k) h
      rw [F.none] at this
      exact this
    have HMade := Lib.hid F.made
    have HSize := Lib.hid F.size
    have HTune : Hid (∀ (k : Nat) (t : List (Int × Int)), ll[k]? = some t → ∀ W : World, Below w2.heap.size w2 W → ∃ bk off cap u, Value.slice adt ll.length cpt = .slice (some ⟨bk, off, none⟩) ll.length cap ∧ W.cell? ⟨bk, off + k, none⟩ = some u ∧ Rd2 W u t) := Lib.hid fun k t hk W kb => by
      obtain ⟨bk, off, cap, u, -, h1, h2, h3⟩ := (HR.out W kb).1.cell hk
      exact ⟨bk, off, cap, u, h1, h2, h3⟩
    obtain ⟨hf1, hf2⟩ := F.fits
    obtain ⟨ha1, ha2⟩ := F.above
    have hbs := F.short
    clear F HDR hR2 HR
    have hn1 : ¬ n1 < 0 := by omega
    have hn2 : ¬ teeth < n1 := by omega
    -- the choice, and its teeth
    refine (HMost.out _ (Below.refl _ _)).mono ?_
    rintro e w4 ⟨vb, rfl, hvb, k4⟩
    obtain ⟨ab, cb, rfl⟩ := ownS_slice hvb
    go_wp2_with fail
    refine (HOf.out _ _ k4 (Rd.of_own hvb)).mono ?_
    rintro e w5 ⟨rfl, hb5⟩
    have hvb5 := ownS_below hvb hb5
    have k5 := bstep k4 hb5
    clear hvb k4 hb5 HMost HOf
    have hown0 : (w5.alloc (.cells #[] 3)).ownsRow w5.heap.size 3 1 (.slice (some ⟨w5.heap.size, 0, none⟩) 0 0) (allL 0).length ((allL 0).map intV) := World.ownsRow_made w5 #[] 0 (Nat.le_refl _) (by simp) rfl
    have hb0 : Below w5.heap.size w5 (w5.alloc (.cells #[] 3)) := (Below.refl _ _).alloc (Nat.le_refl _) _
    have HB5 := Lib.hid (Rd.of_own hvb5 : Rd1 w5 _ b)
    have g5 := bstep hb2 k5
    have hkk := hb2.size
    clear hvb5
    go_wp2_with fail
    go_loopw [9, 10] (fun v9 v10 wr => ∃ k : Nat, k ≤ ll.length ∧ v10 = .int .i64 (k : Int) ∧ wr.ownsRow w5.heap.size 3 1 v9 (allL k).length ((allL k).map intV) ∧ Below w5.heap.size w5 wr) (fun _ v10 _ => ll.length - (intOf v10).toNat)
    case atStart => exact ⟨0, Nat.zero_le _, rfl, hown0, hb0⟩
    case round =>
      obtain ⟨k, hk, rfl, hown, hbr⟩ := hrel
      clear hown0 hb0
      by_cases hlt : k < ll.length
      · obtain ⟨e1, he0, he1, hein, heout, hecall⟩ := HMore.out k hlt
        have HEC := Lib.hid hecall
        have HEI := Lib.hid hein
        have HEO := Lib.hid heout
        have HAS := Lib.hid (allL_succ k)
        have hal := allL_len k
        clear hecall hein heout
        obtain ⟨v', w6, e6, ho6, hg6, -⟩ := app_int hown (k : Int) (by omega) hbr.size
        have hb6 := (hbr.alloc hbr.size (.cells #[.int .i64 (k : Int)] 3)).grown hg6 (by rw [size_alloc]; have := hbr.size; omega) (fun x hx => (hown.lt x hx).1)
        have ho7 : Hid (w6.ownsRow w5.heap.size 3 1 v' (allL (k + 1)).length ((allL (k + 1)).map intV)) := Lib.hid (by rw [HAS.out, List.length_append, List.map_append]; exact ho6)
        have hB6 := Rd.below HB5.out hb6
        have k6 := bstep k5 hb6
        clear hown hbr hg6 ho6 hal
        go_wp2_with (at_builtin; refine wpList_append_eq rfl _ _ _ rfl _ _ _ rfl rfl e6 ?_)
        refine (HEC.out _ _ k6 hB6).mono ?_
        rintro e w7 ⟨rfl, hb7⟩
        have ho8 := ownS_below ho7.out hb7
        have hB7 := Rd.below hB6 hb7
        have hb8 := bstep hb6 hb7
        clear hB6 k6 hb6 hb7 ho7 HEC e6
        by_cases hin : (k : Int) ∈ b
        · obtain rfl : e1 = 0 := HEI.out hin
          have HIN : Hid (decide ((k : Int) ∈ b) = true) := Lib.hid (decide_eq_true hin)
          clear hin
          go_wp2_with fail
          refine (hasQ_any (k : Int) hB7).mono ?_
          rintro e w8 ⟨rfl, hb9⟩
          rw [HIN.out]
          have ho9 := ownS_below ho8 hb9
          have hB8 := Rd.below hB7 hb9
          have hb10 := bstep hb8 hb9
          clear ho8 hB7 hb8 hb9
          go_wp2_with fail
          refine (hasQ_any (k : Int) hB8).mono ?_
          rintro e w9 ⟨rfl, hb11⟩
          rw [HIN.out]
          have ho10 := ownS_below ho9 hb11
          have hb12 := bstep hb10 hb11
          clear ho9 hB8 hb10 hb11
          go_wp2
          go_roundw
          case rel => exact ⟨k + 1, by omega, by go_num, ho10, hb12⟩
          case measure => simp [intOf]; omega
        · have hout := HEO.out hin
          have HIN : Hid (decide ((k : Int) ∈ b) = false) := Lib.hid (decide_eq_false hin)
          have hnw : IntKind.i64.wrap (n1 + e1) = n1 + e1 := IntWalk.i64_in _ (by omega)
          have hno : ¬ n1 + e1 ≤ teeth := by omega
          have hne : ¬ e1 < 0 := by omega
          clear hin
          go_wp2_with fail
          refine (hasQ_any (k : Int) hB7).mono ?_
          rintro e w8 ⟨rfl, hb9⟩
          rw [HIN.out]
          have ho9 := ownS_below ho8 hb9
          have hB8 := Rd.below hB7 hb9
          have hb10 := bstep hb8 hb9
          clear ho8 hB7 hb8 hb9
          go_wp2_with fail
          refine (hasQ_any (k : Int) hB8).mono ?_
          rintro e w9 ⟨rfl, hb11⟩
          rw [HIN.out]
          have ho10 := ownS_below ho9 hb11
          have hb12 := bstep hb10 hb11
          clear ho9 hB8 hb10 hb11
          go_wp2
          go_roundw
          case rel => exact ⟨k + 1, by omega, by go_num, ho10, hb12⟩
          case measure => simp [intOf]; omega
      · obtain rfl : k = ll.length := by omega
        obtain ⟨a9, c9, rfl⟩ := ownS_slice hown
        have k6 := bstep k5 hbr
        have HA6 := Lib.hid (Rd.of_own hown : Rd1 wr _ (allL ll.length))
        clear hown
        go_wp2_with fail
        refine (HAll.out _ _ k6 HA6.out).mono ?_
        rintro e w6 ⟨rfl, hb6⟩
        have HA7 := Lib.hid (Rd.below HA6.out hb6)
        have k7 := bstep k6 hb6
        have hb7 := bstep hbr hb6
        clear hbr k6 hb6 HA6 HAll
        go_wp2_with fail
        refine (HComb.out _ _ k7 HA7.out).mono ?_
        rintro e w7 ⟨vc, rfl, hvc, hb8⟩
        obtain ⟨ac, cc, rfl⟩ := ownS_slice hvc
        have k8 := bstep k7 hb8
        have hb9 := bstep hb7 hb8
        have g8 := bstep g5 hb9
        have HC7 := Lib.hid (Rd.of_own hvc : Rd1 w7 _ c)
        clear hvc k7 hb7 hb8 HA7 HComb hb9 g5 k5
        have hwn : ¬ whole < n1 := by omega
        go_upto_region 20 with fail
        go_cut [127] from 106 to 127 (fun s127 wx => s127 = .bool false ∧ w7 = wx)
        case first =>
          by_cases c1 : 1 ≤ whole
          · by_cases c2 : whole ≤ 24
            · obtain rfl : mb = true := by rw [HMade.out]; exact decide_eq_true ⟨c1, c2⟩
              have hsz := HSize.out rfl
              have hsz2 : ((c.length : Int) == whole) = true := by rw [beq_iff_eq]; exact hsz
              go_wp2_with fail
              go_meet
              exact ⟨by first | rfl | rw [decide_eq_false (by omega)], rfl⟩
            · obtain rfl : mb = false := by rw [HMade.out]; exact decide_eq_false fun q => c2 q.2
              go_wp2_with fail
              go_meet
              exact ⟨by first | rfl | rw [decide_eq_false (by omega)], rfl⟩
          · obtain rfl : mb = false := by rw [HMade.out]; exact decide_eq_false fun q => c1 q.1
            go_wp2_with fail
            go_meet
            exact ⟨by first | rfl | rw [decide_eq_false (by omega)], rfl⟩
        case rest =>
        obtain ⟨rfl, rfl⟩ := hcut
        clear HMade HSize hwn
        go_wp2_with fail
        go_loopw [15] (fun v15 wr => ∃ k : Nat, k ≤ ll.length ∧ v15 = .int .i64 (k : Int) ∧ Below w7.heap.size w7 wr) (fun v15 _ => ll.length - (intOf v15).toNat)
        case atStart => exact ⟨0, Nat.zero_le _, rfl, Below.refl _ _⟩
        case round =>
          obtain ⟨k, hk, rfl, hbr⟩ := hrel
          go_upto_region 23 with fail
          go_cut [134] from 128 to 134 (fun s134 wx => s134 = .bool (decide (k < ll.length) && mb) ∧ wr = wx)
          case first =>
            by_cases hlt : k < ll.length
            · have hlti : (k : Int) < (ll.length : Int) := by omega
              have hd : decide (k < ll.length) = true := decide_eq_true hlt
              cases mb <;> (go_wp2_with fail; go_meet; exact ⟨by rw [hd]; rfl, rfl⟩)
            · have hlti : ¬ (k : Int) < (ll.length : Int) := by omega
              have hd : decide (k < ll.length) = false := decide_eq_false hlt
              cases mb <;> (go_wp2_with fail; go_meet; exact ⟨by rw [hd]; rfl, rfl⟩)
          case rest =>
          obtain ⟨rfl, rfl⟩ := hcut
          by_cases hgo : (decide (k < ll.length) && mb) = true
          · rw [hgo]
            rw [Bool.and_eq_true, decide_eq_true_eq] at hgo
            obtain ⟨hlt, hmb⟩ := hgo
            obtain ⟨t, ht⟩ : ∃ t, ll[k]? = some t := ⟨_, List.getElem?_eq_getElem hlt⟩
            obtain ⟨bk, off, cap, u, hv, x1, hu⟩ := HTune.out k t ht wr (bstep k8 hbr)
            have HCN := Lib.hid (HCan.out hmb k t ht)
            simp only [Value.slice.injEq, true_and] at hv
            obtain ⟨rfl, rfl⟩ := hv
            obtain ⟨au, cu, rfl⟩ := Rd.slice hu
            have hc8 := Rd.below HC7.out hbr
            clear ht hmb
            go_wp2_with fail
            refine (HCN.out _ _ _ hc8 hu).mono ?_
            rintro e w8 ⟨va, rfl, hb8⟩
            have hb9 := bstep hbr hb8
            clear hc8 hu hb8 hbr x1
            go_wp2
            go_roundw
            case rel => exact ⟨k + 1, by omega, by go_num, hb9⟩
            case measure => simp [intOf]; omega
          · rw [Bool.not_eq_true] at hgo
            rw [hgo]
            clear hgo
            have kE := bstep k8 hbr
            have gE := bstep g8 hbr
            have HAT := Lib.hid (show ∀ (W : World), Code W w.heap.size v n → Calls Try.prog 13 #[v, .int .i64 2] W (fun e w' => ∃ x : Int, 0 ≤ x ∧ x ≤ 255 ∧ e = .returned (.int .i64 x) ∧ W = w') from fun W h => atQ_any 2 (by omega) h (by omega))
            have hd0 : Code wr.drew w.heap.size v n := HCO.out.below gE.drew
            have hd1 : Code wr w.heap.size v n := HCO.out.below gE
            obtain ⟨M, hM⟩ : ∃ M, 2 ^ ll.length = M := ⟨_, rfl⟩
            obtain ⟨ew1, ew2, hM1, hM2⟩ := shl_len (Nat.le_trans hl4 (by decide)) hM
            have HM := Lib.hid hM
            have hMz := nz_int hM2
            have hMy := nz_nat hM2
            clear hbr k8 g8 HC7 HCan HTune hM
            go_upto_region 28 with fail
            go_cut [18] from 149 to 154 (fun s18 wx => ∃ T : Nat, T < M ∧ s18 = .int .i64 (T : Int) ∧ Below wr.heap.size wr wx)
            case first =>
              go_region_held3 (fun _ => True) (trivial)
                ((go_at_call 13; (with_reducible refine (HAT.out _ ?atg).mono ?_); (case atg => first | exact hd0 | exact hd1); rintro e wa ⟨d, hdl, hdu, rfl, rfl⟩))
              all_goals
                obtain ⟨T, hT, eT⟩ := rem_nat d hM2
                go_wp2_with fail
                go_meet
                exact ⟨T, hT, by first | (rw [← eT]; done) | rw [← eT, Int.tmod_eq_emod_of_nonneg hdl], (Below.refl _ _).drew⟩
            case rest =>
            obtain ⟨T, hT, rfl, hb10⟩ := hcut
            have kF := bstep kE hb10
            have gF := bstep gE hb10
            obtain ⟨o, ho0, ho1, hoc, hocall⟩ := HOther.out T (by rw [HM.out]; exact hT)
            have HOC := Lib.hid hocall
            have hT256 : T < 256 := Nat.lt_of_lt_of_le hT hM1
            have HBP : Hid (bitsTo T ll.length = bitsTo T 8) := Lib.hid (bits_part ⟨ll.length, by omega⟩ ⟨T, hT256⟩ (by show T < 2 ^ ll.length; rw [HM.out]; exact hT))
            clear hocall HOther kE gE hb10 hMz hMy ew1 ew2 hM1 hM2 hT hd0 hd1 HAT
            have hown0 : (wc.alloc (.cells #[] 3)).ownsRow wc.heap.size 3 1 (.slice (some ⟨wc.heap.size, 0, none⟩) 0 0) (bitsTo T 0).length ((bitsTo T 0).map intV) := World.ownsRow_made wc #[] 0 (Nat.le_refl _) (by simp) rfl
            have hb0 : Below wc.heap.size wc (wc.alloc (.cells #[] 3)) := (Below.refl _ _).alloc (Nat.le_refl _) _
            go_wp2_with fail
            go_loopw [19, 20] (fun v19 v20 wr => ∃ j : Nat, j ≤ ll.length ∧ v20 = .int .i64 (j : Int) ∧ wr.ownsRow wc.heap.size 3 1 v19 (bitsTo T j).length ((bitsTo T j).map intV) ∧ Below wc.heap.size wc wr) (fun _ v20 _ => ll.length - (intOf v20).toNat)
            case atStart => exact ⟨0, Nat.zero_le _, rfl, hown0, hb0⟩
            case round =>
              obtain ⟨j, hj, rfl, hown, hbr⟩ := hrel
              clear hown0 hb0
              by_cases hlt : j < ll.length
              · have hbit := bits_eq hT256 (k := j) (by omega)
                have htk := bitsTo_len T j
                have hlti : (j : Int) < (ll.length : Int) := by omega
                by_cases hb : T.testBit j = true
                · rw [if_pos hb] at hbit
                  have hbit2 : (bits .and .i64 ((T : Int) / 2 ^ j) 1 == 1) = true := by rw [hbit]; rfl
                  have HA := Lib.hid (bitsTo_yes hb)
                  obtain ⟨v', w6, e6, ho6, hg6, -⟩ := app_int hown (j : Int) (by omega) hbr.size
                  have hb6 := (hbr.alloc hbr.size (.cells #[.int .i64 (j : Int)] 3)).grown hg6 (by rw [size_alloc]; have := hbr.size; omega) (fun x hx => (hown.lt x hx).1)
                  have ho7 : Hid (w6.ownsRow wc.heap.size 3 1 v' (bitsTo T (j + 1)).length ((bitsTo T (j + 1)).map intV)) := Lib.hid (by rw [HA.out, List.length_append, List.map_append]; exact ho6)
                  clear hown hbr hg6 ho6 htk
                  go_wp2_with (at_builtin; refine wpList_append_eq rfl _ _ _ rfl _ _ _ rfl rfl e6 ?_)
                  go_roundw
                  case rel => exact ⟨j + 1, by omega, by go_num, ho7.out, hb6⟩
                  case measure => simp [intOf]; omega
                · have hbf : T.testBit j = false := by simpa using hb
                  rw [if_neg hb] at hbit
                  have hbit2 : (bits .and .i64 ((T : Int) / 2 ^ j) 1 == 1) = false := by rw [hbit]; rfl
                  have HA := Lib.hid (bitsTo_no hbf)
                  rw [← HA.out] at hown
                  clear htk
                  go_wp2
                  go_roundw
                  case rel => exact ⟨j + 1, by omega, by go_num, hown, hbr⟩
                  case measure => simp [intOf]; omega
              · obtain rfl : j = ll.length := by omega
                rw [HBP.out] at hown
                obtain ⟨ao, co, rfl⟩ := ownS_slice hown
                have hlt8 := bitsTo_len T 8
                have kG := bstep kF hbr
                have gG := bstep gF hbr
                have HRO := Lib.hid (Rd.of_own hown : Rd1 wr _ (bitsTo T 8))
                clear hown hbr kF gF
                go_wp2_with fail
                refine (HOC.out _ _ kG HRO.out).mono ?_
                rintro e w9 ⟨rfl, hb11⟩
                have kH := bstep kG hb11
                have gH := bstep gG hb11
                clear HRO HOC hb11 kG gG HBP
                generalize bitsTo T 8 = ol at *
                have HNN := Lib.hid (HNone.out _ _ (kH.alloc kH.size (.cells #[.int .i64 8] 3)) (one_row w9 8))
                have gI := gH.alloc gH.size (.cells #[.int .i64 8] 3)
                by_cases c1 : teeth < o
                · go_wp2_with fail
                  refine HNN.out.mono ?_
                  rintro e w10 ⟨rfl, hb12⟩
                  have gJ := bstep gI hb12
                  go_wp2
                  go_ret
                  exact ⟨rfl, gJ⟩
                · by_cases c2 : ol.length < b.length
                  · have c2' : (ol.length : Int) < (b.length : Int) := by omega
                    go_wp2_with fail
                    refine HNN.out.mono ?_
                    rintro e w10 ⟨rfl, hb12⟩
                    have gJ := bstep gI hb12
                    go_wp2
                    go_ret
                    exact ⟨rfl, gJ⟩
                  · have c2' : ¬ (ol.length : Int) < (b.length : Int) := by omega
                    have c3 : ((ol.length : Int) == (b.length : Int)) = true := by rw [beq_iff_eq]; omega
                    have c4 : n1 ≤ o := by omega
                    clear hoc c2
                    go_wp2_with fail
                    refine HNN.out.mono ?_
                    rintro e w10 ⟨rfl, hb12⟩
                    have gJ := bstep gI hb12
                    go_wp2
                    go_ret
                    exact ⟨rfl, gJ⟩
end Go.Proofs.Ytcbdoldcdgaooaa
