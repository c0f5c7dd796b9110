/- The walk of the law FnCombs: THE PROGRAM'S OWN CONTRACTS ARE PREMISES. Made by mk_combs.py. -/
import Derived.Test.YtkciolegfonabaaCombMath
import Derived.Test.YtkciolegfonabaaNestOps
namespace Go.Proofs.Ytkciolegfonabaa
open Go.ChangeShapes Go.WideShapes Go.ChangeAt Go.RowKit

theorem has_any {w : World} {v : Value} {l : List Int} (x : Int) (h : Rd1 w v l) :
    Calls Try.prog 34 #[v, .int .i64 x] w fun e w' => e = .returned (.bool (decide (x ∈ l))) ∧ Below w.heap.size w w' := by
  obtain ⟨a1, cap1, rfl⟩ := Rd.slice h
  have hm := h.2.1
  unfold maxLen at hm
  go_enter Try.func34, Try.ntmps34
  go_wp2
  go_loopw [5] (fun v5 wr => ∃ j : Nat, j ≤ l.length ∧ v5 = .int .i64 (j : Int) ∧ Below w.heap.size w wr ∧ Hid (x ∉ l.take j)) (fun v5 _ => l.length - (intOf v5).toNat)
  case atStart => exact ⟨0, Nat.zero_le _, rfl, Below.refl _ _, Lib.hid (by simp)⟩
  case round =>
    obtain ⟨j, hj, rfl, hbr, HX⟩ := hrel
    by_cases hlt : j < l.length
    · obtain ⟨p, hp⟩ : ∃ p, l[j]? = some p := ⟨_, List.getElem?_eq_getElem hlt⟩
      have HP := Lib.hid hp
      obtain ⟨b1, o1, c1, hv1, x1⟩ := Rd1.cell (Rd.below h hbr) hp
      simp only [Value.slice.injEq, true_and] at hv1
      obtain ⟨rfl, rfl⟩ := hv1
      clear hp
      by_cases hpx : p = x
      · have HD := Lib.hid (show decide (x ∈ l) = true from decide_eq_true (by rw [← hpx]; exact List.mem_of_getElem? HP.out))
        subst hpx
        go_wp2
        go_ret
        exact ⟨by rw [HD.out]; rfl, hbr⟩
      · have HX2 : Hid (x ∉ l.take (j + 1)) := Lib.hid (by
          rw [List.take_add_one, HP.out, List.mem_append]
          rintro (h | h)
          · exact HX.out h
          · simp at h; exact hpx h.symm)
        have hne : (p == x) = false := by simpa using hpx
        go_wp2
        go_roundw
        case rel => exact ⟨j + 1, by omega, by go_num, hbr, HX2⟩
        case measure => simp [intOf]; omega
    · obtain rfl : j = l.length := by omega
      have HD := Lib.hid (show decide (x ∈ l) = false from decide_eq_false (by have := HX.out; rw [List.take_length] at this; exact this))
      go_wp2
      go_ret
      exact ⟨by rw [HD.out]; rfl, hbr⟩
theorem one_tune {W : World} {v : Value} {t : List (Int × Int)} (ty : TypeId) (h : Rd2 W v t) : RdT (W.alloc (.cells #[v] ty)) (.slice (some ⟨W.heap.size, 0, none⟩) 1 1) [t] := by
  refine ⟨[v], rfl, ⟨rfl, by simp [maxLen], Or.inr ⟨W.heap.size, 0, 1, rfl, by simp, fun c hc => ?_⟩⟩, fun i u l hu hl => ?_⟩
  · obtain rfl : c = 0 := by simp at hc; omega
    exact World.cell?_alloc_mark W #[v] ty (0, 0) 0
  · have hi : i = 0 := by have := (List.getElem?_eq_some_iff.1 hu).1; simp at this; omega
    subst hi
    obtain rfl : v = u := by simpa using hu
    obtain rfl : t = l := by simpa using hl
    exact Rd.below h ((Below.refl _ _).alloc (Nat.le_refl _) _)

set_option maxHeartbeats 8000000 in
set_option maxRecDepth 1000000 in
theorem combs_walk {w : World} {v : Value} {n : Nat}
    (hM : ∀ (W : World) (U V : Value) (c : List Int) (t : List (Int × Int)), Rd1 W U c → Rd2 W V t → c.length ≤ 1048576 → t.length ≤ 1048576 → Calls Try.prog 29 #[U, V] W (NewInts W (missM c t)))
    (hB : ∀ (W : World) (U V : Value) (c : List Int) (t : List (Int × Int)), Rd1 W U c → Rd2 W V t → c.length ≤ 1048576 → t.length ≤ 1048576 → Calls Try.prog 30 #[U, V] W (fun e w' => e = .returned (.tuple #[.int .i64 (bestM c t).1, .int .i64 (bestM c t).2]) ∧ Below W.heap.size W w'))
    (hP : ∀ (W : World) (U V : Value) (c : List Int) (t : List (Int × Int)), Rd1 W U c → Rd2 W V t → c.length ≤ 1048576 → t.length ≤ 1048576 → Calls Try.prog 31 #[U, V] W (fun e w' => e = .returned (.bool (playM c t)) ∧ Below W.heap.size W w'))
    (hH : ∀ (W : World) (V : Value) (t : List (Int × Int)) (n : Int), Rd2 W V t → t.length ≤ 1048576 → Calls Try.prog 20 #[V, .int .i64 n] W (NewNotesB W (higherM n t).1 (higherM n t).2))
    (hT : ∀ (W : World) (U : Value) (c : List Int) (x : Int), Rd1 W U c → c.length ≤ 1048576 → Calls Try.prog 33 #[U, .int .i64 x] W (NewInts W (teethM c x)))
    (hF : ∀ (W : World) (U : Value) (ll : List (List (Int × Int))), RdT W U ll → bulkN ll ≤ 1048576 → Calls Try.prog 35 #[U] W (NewIntsB W (forM ll).1 (forM ll).2))
    (hK : ∀ (W : World) (U : Value) (c : List Int), Rd1 W U c → c.length ≤ 1048576 → Calls Try.prog 36 #[U] W (fun e w' => e = .returned (.bool (combB c)) ∧ Below W.heap.size W w'))
    (hC : Code w w.heap.size v n) :
    Calls Try.prog 6 #[v] w fun e w' => e = .returned (.bool true) ∧ Below w.heap.size w w' := by
  by_cases hbig : 1048576 < n
  · go_enter Try.func6, Try.ntmps6
    go_wp2_with fail
    refine (big_yes hC hbig).mono ?_
    rintro e w1 ⟨rfl, rfl⟩
    go_wp2
    go_ret
    exact ⟨rfl, Below.refl _ _⟩
  · have P := Lib.hid (And.intro hM (And.intro hB (And.intro hP (And.intro hH (And.intro hT (And.intro hF hK))))))
    clear hM hB hP hH hT hF hK
    go_enter Try.func6, Try.ntmps6
    go_wp2_with fail
    refine (big_no hC hbig).mono ?_
    rintro e w1 ⟨rfl, rfl⟩
    go_wp2_with fail
    refine (drawcomb_any hC).mono ?_
    rintro e w2 ⟨c, t, vc, vt, hcc, htd, rfl, hc2, ht2, hb2⟩
    obtain ⟨adc, capc, rfl⟩ := ownS_slice hc2
    obtain ⟨adt, capt, rfl⟩ := ownS_slice ht2
    have htt := htd.2.1
    have hc24 := (combB_true.1 hcc).1.2
    have ht11 := htd.1
    obtain ⟨hM, hB, hP, hH, hT, hF, hK⟩ := P.out
    clear P
    have HM := Lib.hid (fun (W : World) (U V : Value) (x : List (Int × Int)) (h1 : Rd1 W U c) (h2 : Rd2 W V x) (h3 : x.length ≤ 1048576) => hM W U V c x h1 h2 (by omega) h3)
    have HLX : Hid (∀ d, (higherM d t).1.length ≤ 1048576) := Lib.hid fun d => by unfold higherM; rw [changeM_len]; omega
    have HLT : Hid (t.length ≤ 1048576) := Lib.hid (by omega)
    have HB : Hid (∀ (W : World) (U V : Value), Rd1 W U c → Rd2 W V t → Calls Try.prog 30 #[U, V] W (fun e w' => e = .returned (.tuple #[.int .i64 (bestTo c t 24).1, .int .i64 ((bestTo c t 24).2 : Int)]) ∧ Below W.heap.size W w')) := Lib.hid fun W U V h1 h2 => by
      have := hB W U V c t h1 h2 (by omega) (by omega)
      rw [show bestM c t = ((bestTo c t 24).1, ((bestTo c t 24).2 : Int)) from if_pos ⟨hcc, htt⟩] at this
      exact this
    have HP : Hid (∀ (W : World) (U V : Value), Rd1 W U c → Rd2 W V t → Calls Try.prog 31 #[U, V] W (fun e w' => e = .returned (.bool (((missM c t).length : Int) == 0)) ∧ Below W.heap.size W w')) := Lib.hid fun W U V h1 h2 => by
      have := hP W U V c t h1 h2 (by omega) (by omega)
      rw [show playM c t = (((missM c t).length : Int) == 0) by
        unfold playM; rw [hcc, htt]
        by_cases h : (missM c t).length = 0 <;> simp [h]] at this
      exact this
    have HP2 : Hid (0 < t.length → ∀ (W : World) (U V : Value), Rd1 W U (forM [t]).1 → Rd2 W V t → Calls Try.prog 31 #[U, V] W (fun e w' => e = .returned (.bool true) ∧ Below W.heap.size W w')) := Lib.hid fun h0 W U V h1 h2 => by
      have := hP W U V _ t h1 h2 (Nat.le_trans (forM_len _) (by omega)) (by omega)
      rw [((for_one htd).2 h0).2] at this
      exact this
    have HH : Hid (∀ (W : World) (V : Value), Rd2 W V t → Calls Try.prog 20 #[V, .int .i64 (bestTo c t 24).1] W (NewNotesB W (higherM (bestTo c t 24).1 t).1 true)) := Lib.hid fun W V h2 => by
      have := hH W V t (bestTo c t 24).1 h2 (by omega)
      rw [(bestTo_inv c htt 24).1] at this
      exact this
    have HX : Hid ((missM c (higherM (bestTo c t 24).1 t).1).length = (bestTo c t 24).2) := Lib.hid (bestTo_inv c htt 24).2
    have HS := Lib.hid (fun (W : World) (V : Value) (d : Int) (h2 : Rd2 W V t) => higher_any d h2 (by omega))
    have HD : Hid (∀ d : Int, -12 ≤ d → d ≤ 12 → (higherM d t).2 = true → (bestTo c t 24).2 ≤ (missM c (higherM d t).1).length) := Lib.hid fun d h1 h2 h3 => best_least c htt d h1 h2 h3
    have HT := Lib.hid (fun (W : World) (U : Value) (x : Int) (h1 : Rd1 W U c) => hT W U c x h1 (by omega))
    have HTS := Lib.hid (fun k => tsum_succ hcc k)
    have HTA := Lib.hid (tsum_all hcc)
    have HTL : Hid (∀ k, tsum k c ≤ 24) := Lib.hid fun k => Nat.le_trans (tsum_le k c) hc24
    have HN := Lib.hid (fun (q : Int × Int) (hq : q ∈ t) => And.intro (miss_mem hcc htt hq) (teeth_nil hcc q.2))
    have HF : Hid (∀ (W : World) (U : Value), RdT W U [t] → Calls Try.prog 35 #[U] W (NewIntsB W (forM [t]).1 (decide (0 < t.length)))) := Lib.hid fun W U h1 => by
      have := hF W U [t] h1 (by unfold bulkN lensN; simp; omega)
      rw [(for_one htd).1] at this
      exact this
    have HK1 : Hid (∀ (W : World) (U : Value), Rd1 W U c → Calls Try.prog 36 #[U] W (fun e w' => e = .returned (.bool true) ∧ Below W.heap.size W w')) := Lib.hid fun W U h1 => by
      have := hK W U c h1 (by omega)
      rw [hcc] at this
      exact this
    have HK2 : Hid (0 < t.length → ∀ (W : World) (U : Value), Rd1 W U (forM [t]).1 → Calls Try.prog 36 #[U] W (fun e w' => e = .returned (.bool true) ∧ Below W.heap.size W w')) := Lib.hid fun h0 W U h1 => by
      have := hK W U _ h1 (Nat.le_trans (forM_len _) (by omega))
      rw [((for_one htd).2 h0).1] at this
      exact this
    have HLX2 := Lib.hid (HLX.out (bestTo c t 24).1)
    have hn1 := bestTo_start c t 24
    obtain ⟨hby1, hby2⟩ := bestTo_bd c t 24 (Nat.le_refl _)
    have hml := missM_len c t
    clear hM hB hP hH hT hF hK hcc htd htt hC
    generalize (forM [t]).1 = f at *
    generalize (higherM (bestTo c t 24).1 t).1 = x at *
    generalize (bestTo c t 24).1 = by' at *
    generalize (bestTo c t 24).2 = nn at *
    go_wp2_with fail
    refine (HM.out _ _ _ _ (Rd.of_own hc2) (Rd.of_own ht2) HLT.out).mono ?_
    rintro e w_3 ⟨vm, rfl, hm0, bl3⟩
    have hm1 := ownS_mono hm0 hb2.size
    obtain ⟨adm, capm, rfl⟩ := ownS_slice hm0
    have hc3 := ownS_below hc2 bl3
    have ht3 := ownS_below ht2 bl3
    have g3 := bstep hb2 bl3
    clear bl3 hm0 hc2 ht2 hb2
    have HMN := Lib.hid (show ∀ q, q ∈ missM c t ↔ q ∈ missM c t from fun _ => Iff.rfl)
    go_wp2_with fail
    refine (HB.out _ _ _ (Rd.of_own hc3) (Rd.of_own ht3)).mono ?_
    rintro e w_4 ⟨rfl, bl4⟩
    have hc4 := ownS_below hc3 bl4
    have ht4 := ownS_below ht3 bl4
    have hm4 := ownS_below hm1 bl4
    have g4 := bstep g3 bl4
    clear bl4 hc3 ht3 hm1 g3
    go_wp2_with fail
    refine (HP.out _ _ _ (Rd.of_own hc4) (Rd.of_own ht4)).mono ?_
    rintro e w_5 ⟨rfl, bl5⟩
    have hc5 := ownS_below hc4 bl5
    have ht5 := ownS_below ht4 bl5
    have hm5 := ownS_below hm4 bl5
    have g5 := bstep g4 bl5
    clear bl5 hc4 ht4 hm4 g4
    go_wp2_with fail
    refine (HH.out _ _ (Rd.of_own ht5)).mono ?_
    rintro e w_6 ⟨vx, rfl, hx0, bl6⟩
    have hx1 := ownS_mono hx0 g5.size
    obtain ⟨adx, capx, rfl⟩ := ownS_slice hx0
    have hc6 := ownS_below hc5 bl6
    have ht6 := ownS_below ht5 bl6
    have hm6 := ownS_below hm5 bl6
    have g6 := bstep g5 bl6
    clear bl6 hx0 hc5 ht5 hm5 g5
    go_wp2_with fail
    refine (HM.out _ _ _ _ (Rd.of_own hc6) (Rd.of_own hx1) HLX2.out).mono ?_
    rintro e w_7 ⟨vy, rfl, hy0, bl7⟩
    have hy1 := ownS_mono hy0 g6.size
    obtain ⟨ady, capy, rfl⟩ := ownS_slice hy0
    have hc7 := ownS_below hc6 bl7
    have ht7 := ownS_below ht6 bl7
    have hm7 := ownS_below hm6 bl7
    have hx7 := ownS_below hx1 bl7
    have g7 := bstep g6 bl7
    clear bl7 hy0 hc6 ht6 hm6 hx1 g6
    rw [HX.out]
    clear HX
    clear hx7
    clear hy1
    go_wp2_with fail
    go_loopw [10] (fun v10 wr => ∃ d : Int, -12 ≤ d ∧ d ≤ 13 ∧ v10 = .int .i64 d ∧ wr.ownsRow w.heap.size 3 1 (.slice adc c.length capc) c.length (c.map intV) ∧ wr.ownsRow w.heap.size 35 2 (.slice adt t.length capt) t.length (flat2 t) ∧ wr.ownsRow w.heap.size 3 1 (.slice adm (missM c t).length capm) (missM c t).length ((missM c t).map intV) ∧ Below w.heap.size w wr) (fun v10 _ => (13 - intOf v10).toNat)
    case atStart => exact ⟨-12, by omega, by omega, rfl, hc7, ht7, hm7, g7⟩
    case round =>
      obtain ⟨d, hd1, hd2, rfl, rc, rt, rm, hbr⟩ := hrel
      clear hc7 ht7 hm7 g7
      by_cases hlt : d ≤ 12
      · have HDd := Lib.hid (HD.out d hd1 hlt)
        have HLd := Lib.hid (HLX.out d)
        have hd12 : decide (d ≤ 12) = true := decide_eq_true hlt
        go_wp2_with fail
        refine (HS.out _ _ d (Rd.of_own rt)).mono ?_
        rintro e w_23 ⟨vy, rfl, hy0, bl23⟩
        have hy1 := ownS_mono hy0 hbr.size
        obtain ⟨ady, capy, rfl⟩ := ownS_slice hy0
        have hc23 := ownS_below rc bl23
        have ht23 := ownS_below rt bl23
        have hm23 := ownS_below rm bl23
        have g23 := bstep hbr bl23
        clear bl23 hy0 rc rt rm hbr
        generalize (higherM d t).2 = ok at *
        generalize (higherM d t).1 = yy at *
        cases ok with
        | false =>
          go_wp2
          go_roundw
          case rel => exact ⟨d + 1, by omega, by omega, rfl, hc23, ht23, hm23, g23⟩
          case measure => simp [intOf]; omega
        | true =>
          go_wp2_with fail
          refine (HM.out _ _ _ _ (Rd.of_own hc23) (Rd.of_own hy1) HLd.out).mono ?_
          rintro e w_24 ⟨vz, rfl, hz0, bl24⟩
          have hz1 := ownS_mono hz0 g23.size
          obtain ⟨adz, capz, rfl⟩ := ownS_slice hz0
          have hc24 := ownS_below hc23 bl24
          have ht24 := ownS_below ht23 bl24
          have hm24 := ownS_below hm23 bl24
          have hy24 := ownS_below hy1 bl24
          have g24 := bstep g23 bl24
          clear bl24 hz0 hc23 ht23 hm23 hy1 g23
          have hge := HDd.out (by trivial)
          generalize (missM c yy).length = lz at *
          go_wp2
          go_roundw
          case rel => exact ⟨d + 1, by omega, by omega, rfl, hc24, ht24, hm24, g24⟩
          case measure => simp [intOf]; omega
      · obtain rfl : d = 13 := by omega
        clear HD HS HLX
        have HT0 : Hid (tsum 0 c = 0) := Lib.hid (by unfold tsum; rw [List.filter_eq_nil_iff.2 (fun x _ h => by have := of_decide_eq_true h; omega)]; rfl)
        go_wp2_with fail
        go_loopw [13, 14] (fun v13 v14 wr => ∃ p : Nat, p ≤ 61 ∧ v14 = .int .i64 (p : Int) ∧ v13 = .int .i64 ((tsum p c : Nat) : Int) ∧ wr.ownsRow w.heap.size 3 1 (.slice adc c.length capc) c.length (c.map intV) ∧ wr.ownsRow w.heap.size 35 2 (.slice adt t.length capt) t.length (flat2 t) ∧ wr.ownsRow w.heap.size 3 1 (.slice adm (missM c t).length capm) (missM c t).length ((missM c t).map intV) ∧ Below w.heap.size w wr) (fun _ v14 _ => 61 - (intOf v14).toNat)
        case atStart => exact ⟨0, by omega, rfl, by rw [HT0.out]; rfl, rc, rt, rm, hbr⟩
        case round =>
          obtain ⟨p, hp, rfl, rfl, rc, rt, rm, hbr⟩ := hrel
          by_cases hlp : p ≤ 60
          · have HE := Lib.hid (HTS.out p)
            have hb1 := HTL.out p
            have hb2 := HTL.out (p + 1)
            rw [HE.out] at hb2
            have hd60 : decide ((p : Int) ≤ 60) = true := decide_eq_true (by omega)
            go_wp2_with fail
            refine (HT.out _ _ (p : Int) (Rd.of_own rc)).mono ?_
            rintro e w_35 ⟨vq, rfl, hq0, bl35⟩
            have hq1 := ownS_mono hq0 hbr.size
            obtain ⟨adq, capq, rfl⟩ := ownS_slice hq0
            have hc35 := ownS_below rc bl35
            have ht35 := ownS_below rt bl35
            have hm35 := ownS_below rm bl35
            have g35 := bstep hbr bl35
            clear bl35 hq0 rc rt rm hbr
            generalize (teethM c (p : Int)).length = lq at *
            generalize tsum p c = sp at *
            go_wp2
            go_roundw
            case rel => exact ⟨p + 1, by omega, by go_num, by rw [HE.out]; go_num, hc35, ht35, hm35, g35⟩
            case measure => simp [intOf]; omega
          · obtain rfl : p = 61 := by omega
            rw [HTA.out, show ((61 : Nat) : Int) = 61 from rfl]
            clear HTS HTL HTA HT0
            go_wp2_with fail
            go_loopw [15] (fun v15 wr => ∃ k : Nat, k ≤ t.length ∧ v15 = .int .i64 (k : Int) ∧ wr.ownsRow w.heap.size 3 1 (.slice adc c.length capc) c.length (c.map intV) ∧ wr.ownsRow w.heap.size 35 2 (.slice adt t.length capt) t.length (flat2 t) ∧ wr.ownsRow w.heap.size 3 1 (.slice adm (missM c t).length capm) (missM c t).length ((missM c t).map intV) ∧ Below w.heap.size w wr) (fun v15 _ => t.length - (intOf v15).toNat)
            case atStart => exact ⟨0, Nat.zero_le _, rfl, rc, rt, rm, hbr⟩
            case round =>
              obtain ⟨k, hk, rfl, rc, rt, rm, hbr⟩ := hrel
              by_cases hlk : k < t.length
              · obtain ⟨q, hq⟩ : ∃ q, t[k]? = some q := ⟨_, List.getElem?_eq_getElem hlk⟩
                obtain ⟨b1, o1, c1, hv1, x1, y1⟩ := Rd2.cells (Rd.of_own rt) hq
                have hqm := HN.out q (List.mem_of_getElem? hq)
                simp only [Value.slice.injEq, true_and] at hv1
                obtain ⟨rfl, rfl⟩ := hv1
                clear hq x1
                obtain ⟨lq, hlq⟩ : ∃ x, (teethM c q.2).length = x := ⟨_, rfl⟩
                have hbe : decide (q.2 ∈ missM c t) = ((lq : Int) == 0) := by
                  rw [hlq] at hqm
                  by_cases hl0 : lq = 0
                  · rw [decide_eq_true (hqm.1.2 (hqm.2.1 hl0)), hl0]; rfl
                  · have h1 : ¬ q.2 ∈ missM c t := fun hh => hl0 (hqm.2.2 (hqm.1.1 hh))
                    rw [decide_eq_false h1]; simp; omega
                have C1 : Hid (∀ W', Below wr.heap.size wr W' → Calls Try.prog 33 #[.slice adc c.length capc, .int .i64 q.2] W' (fun e w' => ∃ a cp, e = .returned (.slice a lq cp) ∧ Below W'.heap.size W' w')) := Lib.hid fun W' hW => by
                  refine (HT.out _ _ q.2 (Rd.below (Rd.of_own rc) hW)).mono ?_
                  rintro e w' ⟨v', rfl, ho, hb'⟩
                  rw [hlq] at ho
                  obtain ⟨a', cp', rfl⟩ := ownS_slice ho
                  exact ⟨a', cp', rfl, hb'⟩
                have C2 : Hid (∀ W', Below wr.heap.size wr W' → Calls Try.prog 34 #[.slice adm (missM c t).length capm, .int .i64 q.2] W' (fun e w' => e = .returned (.bool ((lq : Int) == 0)) ∧ Below W'.heap.size W' w')) := Lib.hid fun W' hW => by
                  refine (has_any q.2 (Rd.below (Rd.of_own rm) hW : Rd1 _ _ (missM c t))).mono ?_
                  rintro e w' ⟨rfl, hb'⟩
                  rw [hbe]; exact ⟨rfl, hb'⟩
                clear hbe hqm hlq
                have HRC := Lib.hid rc
                have HRT := Lib.hid rt
                have HRM := Lib.hid rm
                clear rc rt rm
                go_wp2_with fail
                go_region_held3 (fun w' => w'.cell? ⟨b1, o1 + k * 2 + 1, none⟩ = some (.int .i64 q.2)) (go_keep)
                  (first
                    | (go_at_call 33; (with_reducible refine (C1.out _ (Below.drew (Below.refl _ _))).mono ?_); rintro e wa ⟨a1, cp1, rfl, hba⟩; have q1 := kept_cell hba y1)
                    | (go_at_call 34; (with_reducible refine (C2.out _ (Below.drew (Below.refl _ _))).mono ?_); rintro e wb ⟨rfl, hbb⟩; have q2 := kept_cell hbb y1)
                    | (go_at_call 34; (with_reducible refine (C2.out _ (below_undrew hba)).mono ?_); rintro e wb ⟨rfl, hbb⟩; have q3 := kept_b hbb q1)
                    | (go_at_call 33; (with_reducible refine (C1.out _ (below_undrew hbb)).mono ?_); rintro e wa ⟨a1, cp1, rfl, hba⟩; have q3 := kept_b hba q2))
                have hbz := bstep (below_undrew hba) hbb
                have g4 := bstep hbr hbz
                have rc4 := ownS_below HRC.out hbz
                have rt4 := ownS_below HRT.out hbz
                have rm4 := ownS_below HRM.out hbz
                clear hba hbb hbz q1 q3 y1 hbr C1 C2 HRC HRT HRM
                go_wp2
                go_roundw
                case rel => exact ⟨k + 1, by omega, by go_num, rc4, rt4, rm4, g4⟩
                case measure => simp [intOf]; omega
              · obtain rfl : k = t.length := by omega
                have ga : Below w.heap.size w (wr.alloc (.cells #[.slice adt t.length capt] 25)) := hbr.alloc hbr.size _
                have rca := World.ownsRow.alloc rc (.cells #[.slice adt t.length capt] 25)
                have rta := World.ownsRow.alloc rt (.cells #[.slice adt t.length capt] 25)
                have HT1 := Lib.hid (one_tune 25 (Rd.of_own rt : Rd2 wr _ t))
                clear rc rt rm hbr HN HT
                go_wp2_with fail
                refine (HF.out _ _ HT1.out).mono ?_
                rintro e w_51 ⟨vf, rfl, hf0, bl51⟩
                have hf1 := ownS_mono hf0 ga.size
                obtain ⟨adf, capf, rfl⟩ := ownS_slice hf0
                have hc51 := ownS_below rca bl51
                have ht51 := ownS_below rta bl51
                have g51 := bstep ga bl51
                clear bl51 hf0 rca rta ga
                by_cases h0 : 0 < t.length
                · have hd : decide (0 < t.length) = true := decide_eq_true h0
                  rw [hd]
                  clear hd
                  have HP3 := Lib.hid (HP2.out h0)
                  have HK3 := Lib.hid (HK2.out h0)
                  clear HP2 HK2
                  go_wp2_with fail
                  refine (HP3.out _ _ _ (Rd.of_own hf1) (Rd.of_own ht51)).mono ?_
                  rintro e w_52 ⟨rfl, bl52⟩
                  have hc52 := ownS_below hc51 bl52
                  have ht52 := ownS_below ht51 bl52
                  have hf52 := ownS_below hf1 bl52
                  have g52 := bstep g51 bl52
                  clear bl52 hc51 ht51 hf1 g51
                  go_wp2_with fail
                  refine (HK3.out _ _ (Rd.of_own hf52)).mono ?_
                  rintro e w_53 ⟨rfl, bl53⟩
                  have hc53 := ownS_below hc52 bl53
                  have ht53 := ownS_below ht52 bl53
                  have hf53 := ownS_below hf52 bl53
                  have g53 := bstep g52 bl53
                  clear bl53 hc52 ht52 hf52 g52
                  go_wp2_with fail
                  refine (HK1.out _ _ (Rd.of_own hc53)).mono ?_
                  rintro e w_54 ⟨rfl, bl54⟩
                  have hc54 := ownS_below hc53 bl54
                  have ht54 := ownS_below ht53 bl54
                  have hf54 := ownS_below hf53 bl54
                  have g54 := bstep g53 bl54
                  clear bl54 hc53 ht53 hf53 g53
                  go_wp2
                  go_ret
                  exact ⟨rfl, g54⟩
                · have hd : decide (0 < t.length) = false := decide_eq_false h0
                  rw [hd]
                  clear hd
                  go_wp2_with fail
                  refine (HK1.out _ _ (Rd.of_own hc51)).mono ?_
                  rintro e w_52 ⟨rfl, bl52⟩
                  have hc52 := ownS_below hc51 bl52
                  have ht52 := ownS_below ht51 bl52
                  have hf52 := ownS_below hf1 bl52
                  have g52 := bstep g51 bl52
                  clear bl52 hc51 ht51 hf1 g51
                  go_wp2
                  go_ret
                  exact ⟨rfl, g52⟩
end Go.Proofs.Ytkciolegfonabaa
