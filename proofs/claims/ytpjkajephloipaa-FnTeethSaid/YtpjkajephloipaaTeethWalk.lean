/- The walk of the law FnTeeth: THE PROGRAM'S OWN CONTRACTS ARE PREMISES. -/
import Derived.Test.YtpjkajephloipaaTeethCut
import Derived.Test.YtpjkajephloipaaIntsArg
import Derived.Deep.RegionHeld3
import Derived.Test.YtpjkajephloipaaRdCap
namespace Go.Proofs.Ytpjkajephloipaa
open Go.ChangeShapes Go.WideShapes Go.ChangeAt Go.RowKit

set_option maxHeartbeats 8000000 in
set_option maxRecDepth 1000000 in
theorem teeth_walk {w : World} {v : Value} {n : Nat}
    (hN : ∀ (W : World) (U : Value) (t : List (Int × Int)) (r : Int), Rc2 W U t → t.length ≤ 1048576 → Calls Try.prog 16 #[U, .int .i64 r] W (NewInts W (needM r t)))
    (hL : ∀ (W : World) (U : Value) (t : List (Int × Int)) (r : Int), Rc2 W U t → t.length ≤ 1048576 → Calls Try.prog 17 #[U, .int .i64 r] W (NewIntsB W (leastM r t).1 (leastM r t).2))
    (hA : ∀ (W : World) (U V : Value) (c : List Int) (t : List (Int × Int)) (r : Int), Rd1 W U c → Rd2 W V t → c.length ≤ 1048576 → t.length ≤ 1048576 → Calls Try.prog 19 #[U, V, .int .i64 r] W (NewIntsB W (assignM c t r).1 (assignM c t r).2))
    (hI : ∀ (W : World) (U V X : Value) (c : List Int) (t : List (Int × Int)) (r : Int) (a : List Int), Rd1 W U c → Rd2 W V t → Rd1 W X a → c.length ≤ 1048576 → t.length ≤ 1048576 → a.length ≤ 1048576 → Calls Try.prog 20 #[U, V, .int .i64 r, X] W (fun e w' => e = .returned (.bool (isM c t r a)) ∧ Below W.heap.size W w'))
    (hR : ∀ (W : World) (U V : Value) (c : List Int) (t : List (Int × Int)), Rd1 W U c → Rd2 W V t → c.length ≤ 1048576 → t.length ≤ 1048576 → Calls Try.prog 18 #[U, V] W (fun e w' => e = .returned (.int .i64 ((restM c t : Nat) : Int)) ∧ Below W.heap.size W w'))
    (hC : Code w w.heap.size v n) :
    Calls Try.prog 3 #[v] w fun e w' => e = .returned (.bool true) ∧ Below w.heap.size w w' := by
  by_cases hbig : 1048576 < n
  · go_enter Try.func3, Try.ntmps3
    go_wp2_with fail
    refine (big_yes hC hbig).mono ?_
    rintro e w1 ⟨rfl, rfl⟩
    go_wp2
    go_ret
    exact ⟨rfl, Below.refl _ _⟩
  · have P := Lib.hid (And.intro hN (And.intro hL (And.intro hA (And.intro hI hR))))
    clear hN hL hA hI hR
    go_enter Try.func3, Try.ntmps3
    go_wp2_with fail
    refine (big_no hC hbig).mono ?_
    rintro e w1 ⟨rfl, rfl⟩
    go_wp2_with fail
    refine (drawtune_any hC).mono ?_
    rintro e w2 ⟨t, vt, htd, rfl, ht2, hb2⟩
    obtain ⟨adt, capt, rfl⟩ := ownS_slice ht2
    have hC2 := hC.below hb2
    have HD := Lib.hid htd
    have ht11 := htd.1
    clear htd hC
    go_wp2_with fail
    refine (at_any 0 (by omega) hC2 (by omega)).mono ?_
    rintro e w3 ⟨x, hx0, hx1, rfl, rfl⟩
    clear hC2
    have hx2 : 0 ≤ x % 6 := Int.emod_nonneg _ (by omega)
    have hx3 : x % 6 ≤ 5 := by omega
    obtain ⟨hN, hL, hA, hI, hR⟩ := P.out
    clear P
    have hr : 1 ≤ 1 + x % 6 ∧ 1 + x % 6 ≤ 100 := by omega
    go_wp2_with fail
    have hrI : IntKind.i64.wrap (1 + x % 6) = 1 + x % 6 := by rw [IntKind.wrap_i64]; omega
    clear hx0 hx1 hx2 hx3
    generalize 1 + x % 6 = r at *
    have htt := HD.out.2.1
    have HNL : Hid ((needM r t).length = 61) := Lib.hid (by rw [needM_yes htt hr, needL_len])
    have HN := Lib.hid (fun (W : World) (U : Value) (h : Rc2 W U t) => hN W U t r h (by omega))
    by_cases h0 : 0 < t.length
    · have hcc := least_comb htt hr h0 (by omega)
      have hc24 := (combB_true.1 hcc).1.2
      have hfit := least_fits HD.out hr h0
      have hgood := rest_good hr hfit.1
      have hml := assignM_len (leastL (needM r t)) t r
      have HL : Hid (∀ (W : World) (U : Value), Rc2 W U t → Calls Try.prog 17 #[U, .int .i64 r] W (NewIntsB W (leastL (needM r t)) true)) := Lib.hid fun W U h => by
        have := hL W U t r h (by omega)
        rw [least_eq HD.out hr h0] at this
        exact this
      have HA : Hid (∀ (W : World) (U V : Value), Rd1 W U (leastL (needM r t)) → Rd2 W V t → Calls Try.prog 19 #[U, V, .int .i64 r] W (NewIntsB W (assignM (leastL (needM r t)) t r).1 true)) := Lib.hid fun W U V h1 h2 => by
        have := hA W U V _ t r h1 h2 (by omega) (by omega)
        rw [hfit.1] at this
        exact this
      have HI : Hid (∀ (W : World) (U V X : Value), Rd1 W U (leastL (needM r t)) → Rd2 W V t → Rd1 W X (assignM (leastL (needM r t)) t r).1 → Calls Try.prog 20 #[U, V, .int .i64 r, X] W (fun e w' => e = .returned (.bool true) ∧ Below W.heap.size W w')) := Lib.hid fun W U V X h1 h2 h3 => by
        have := hI W U V X _ t r _ h1 h2 h3 (by omega) (by omega) (by omega)
        rw [hfit.2] at this
        exact this
      have HLESS : Hid (∀ k, k < (leastL (needM r t)).length → ∀ (W : World) (U V : Value), Rd1 W U ((leastL (needM r t)).take k ++ (leastL (needM r t)).drop (k + 1)) → Rd2 W V t → Calls Try.prog 19 #[U, V, .int .i64 r] W (fun e w' => ∃ v, e = .returned (.tuple #[v, .bool false]) ∧ Below W.heap.size W w')) := Lib.hid fun k hk W U V h1 h2 => by
        have := hA W U V _ t r h1 h2 (by rw [List.length_append, List.length_take, List.length_drop]; omega) (by omega)
        rw [least_less htt hr hk] at this
        exact this.mono fun _ _ ⟨v, he, _, hb⟩ => ⟨v, he, hb⟩
      have HP : Hid (∀ p : Nat, p < 61 → ∃ l : Nat, (needM r t)[p]? = some (l : Int) ∧ ∀ (W : World) (U : Value), Rd1 W U (leastL (needM r t)) → Calls Try.prog 21 #[U, .int .i64 (p : Int)] W (fun e w' => ∃ (a : Option Addr) (cp : Nat), e = .returned (.slice a l cp) ∧ Below W.heap.size W w')) := Lib.hid fun p hp => by
        refine ⟨_, least_teeth htt hr hcc hp, fun W U h1 => (teethof_any (p : Int) h1).mono ?_⟩
        rintro e w' ⟨v, rfl, ho, hb⟩
        obtain ⟨a, cp, rfl⟩ := ownS_slice ho
        exact ⟨a, cp, rfl, hb⟩
      have HS : Hid (isum (needM r t) 61 = (((leastL (needM r t)).length : Nat) : Int)) := Lib.hid (isum_all htt hr)
      have HSB : Hid (∀ k, k ≤ 61 → 0 ≤ isum (needM r t) k ∧ isum (needM r t) k ≤ 2440) := Lib.hid fun k hk => by
        rw [isum_len _ (fun x hx => (needM_le r t x hx).1)]
        have := combTo_le (n := needM r t) (m := 40) (fun x hx => (needM_le r t x hx).2) k
        omega
      have HR : Hid (∀ (W : World) (U V : Value), Rd1 W U (leastL (needM r t)) → Rd2 W V t → Calls Try.prog 18 #[U, V] W (fun e w' => e = .returned (.int .i64 ((restM (leastL (needM r t)) t : Nat) : Int)) ∧ Below W.heap.size W w')) := Lib.hid fun W U V h1 h2 => hR W U V _ t h1 h2 (by omega) (by omega)
      have HF1 : Hid (∀ (W : World) (U V : Value), Rd1 W U (leastL (needM r t)) → Rd2 W V t → Calls Try.prog 19 #[U, V, .int .i64 ((restM (leastL (needM r t)) t : Nat) : Int)] W (fun e w' => ∃ v, e = .returned (.tuple #[v, .bool true]) ∧ Below W.heap.size W w')) := Lib.hid fun W U V h1 h2 => by
        have := hA W U V _ t ((restM (leastL (needM r t)) t : Nat) : Int) h1 h2 (by omega) (by omega)
        rw [hgood.2.1] at this
        exact this.mono fun _ _ ⟨v, he, _, hb⟩ => ⟨v, he, hb⟩
      have HF2 : Hid (∀ (W : World) (U V : Value), Rd1 W U (leastL (needM r t)) → Rd2 W V t → Calls Try.prog 19 #[U, V, .int .i64 (((restM (leastL (needM r t)) t : Nat) : Int) + 1)] W (fun e w' => ∃ v, e = .returned (.tuple #[v, .bool false]) ∧ Below W.heap.size W w')) := Lib.hid fun W U V h1 h2 => by
        have := hA W U V _ t (((restM (leastL (needM r t)) t : Nat) : Int) + 1) h1 h2 (by omega) (by omega)
        rw [hgood.2.2] at this
        exact this.mono fun _ _ ⟨v, he, _, hb⟩ => ⟨v, he, hb⟩
      have hrl := hgood.1
      have hr100 : restM (leastL (needM r t)) t ≤ 100 := restTo_le _ _ 100
      have hcpos := least_pos htt hr h0
      clear hN hL hA hI hR htt HD hcc hfit hgood hml
      generalize restM (leastL (needM r t)) t = l at *
      generalize (assignM (leastL (needM r t)) t r).1 = av at *
      generalize leastL (needM r t) = c at *
      generalize needM r t = ns at *
      go_wp2_with fail
      refine (HN.out _ _ (Rc2.of_own ht2)).mono ?_
      rintro e w_3 ⟨vn, rfl, hn0, bl3⟩
      have hn1 := ownS_mono hn0 hb2.size
      rw [HNL.out] at hn1
      clear hn0
      obtain ⟨gn, capn, rfl, -, -, -⟩ := ownS_pos hn1 (by omega)
      have ht3 := ownS_below ht2 bl3
      have g3 := bstep hb2 bl3
      clear bl3 ht2 hb2
      go_wp2_with fail
      refine (HL.out _ _ (Rc2.of_own ht3)).mono ?_
      rintro e w_4 ⟨vc, rfl, hc0, bl4⟩
      have hc1 := ownS_mono hc0 g3.size
      clear hc0
      obtain ⟨gc, capc, rfl, -, hlc, hcm⟩ := ownS_pos hc1 hcpos
      have ht4 := ownS_below ht3 bl4
      have hn4 := ownS_below hn1 bl4
      have g4 := bstep g3 bl4
      clear bl4 ht3 hn1 g3 HN HL
      go_wp2_with fail
      refine (HA.out _ _ _ (Rd.of_own hc1) (Rd.of_own ht4)).mono ?_
      rintro e w_5 ⟨va, rfl, ha0, bl5⟩
      have ha1 := ownS_mono ha0 g4.size
      obtain ⟨ada, capa, rfl⟩ := ownS_slice ha0
      have ht5 := ownS_below ht4 bl5
      have hn5 := ownS_below hn4 bl5
      have hc5 := ownS_below hc1 bl5
      have g5 := bstep g4 bl5
      clear bl5 ha0 ht4 hn4 hc1 g4 HA
      go_wp2_with fail
      refine (HI.out _ _ _ _ (Rd.of_own hc5) (Rd.of_own ht5) (Rd.of_own ha1)).mono ?_
      rintro e w_6 ⟨rfl, bl6⟩
      have ht6 := ownS_below ht5 bl6
      have hn6 := ownS_below hn5 bl6
      have hc6 := ownS_below hc5 bl6
      have g6 := bstep g5 bl6
      clear bl6 ht5 hn5 hc5 ha1 g5 HI
      unfold maxLen at hcm
      go_wp2_with fail
      go_loopw [10] (fun v10 wr => ∃ k : Nat, k ≤ c.length ∧ v10 = .int .i64 (k : Int) ∧ wr.ownsRow w.heap.size 3 1 (.slice (some ⟨gc, 0, none⟩) c.length capc) c.length (c.map intV) ∧ wr.ownsRow w.heap.size 3 1 (.slice (some ⟨gn, 0, none⟩) 61 capn) 61 (ns.map intV) ∧ wr.ownsRow w.heap.size 54 2 (.slice adt t.length capt) t.length (flat2 t) ∧ Below w.heap.size w wr) (fun v10 _ => c.length - (intOf v10).toNat)
      case atStart => exact ⟨0, Nat.zero_le _, rfl, hc6, hn6, ht6, g6⟩
      case round =>
        obtain ⟨k, hk, rfl, rc, rn, rt, hbr⟩ := hrel
        clear hc6 hn6 ht6 g6
        by_cases hlt : k < c.length
        · have hk1 : IntKind.i64.wrap ((k : Int) + 1) = (k : Int) + 1 := by rw [IntKind.wrap_i64]; omega
          have hk2 : (0 : Int) ≤ (k : Int) + 1 := by omega
          have hk3 : ((k : Int) + 1).toNat = k + 1 := by omega
          have hk4 : (k : Int) + 1 ≤ (c.length : Int) := by omega
          have hk5 : (k : Int) ≤ (capc : Int) := by omega
          have hk6 : (c.length : Int) ≤ (capc : Int) := by omega
          have hk7 : ¬ (capc = k) := by omega
          by_cases hcz : capc = k + 1
          · obtain ⟨v1, w1, v2, w3, e1, e2, o2, b2⟩ := app_cut rc.drew hlt hc24 capc (capc - (k + 1)) ⟨gc, 0, none⟩ (by omega)
            have hcz' : (capc = k + 1) = True := eq_true hcz
            have HCZ := Lib.hid hcz
            clear hcz
            rw [show wr.drew.heap.size = wr.heap.size from rfl, show wr.drew.alloc (.cells #[] 3) = (wr.alloc (.cells #[] 3)).drew from rfl] at e1
            have E1 := Lib.hid e1
            have E2 := Lib.hid (show _ from e2)
            clear e1 e2
            go_wp2_with fail
            go_region_held3 (fun _ => True) (go_keep)
              (first
                | ((with_reducible refine step_append_eq ?h1 (.tmp 77) (.tmp 80) #[27, 27] ?h2 (.slice (some ⟨wr.heap.size, 0, none⟩) 0 0) (.slice (some ⟨gc, 0, none⟩) k capc) v1 ?h3 ?h4 E1.out ?h5); (case h1 => rfl); (case h2 => rfl); (case h3 => rfl); (case h4 => rfl))
                | ((with_reducible refine step_append_eq ?k1 (.tmp 81) (.tmp 85) #[27, 27] ?k2 v1 (.slice (some ⟨gc, 0, none⟩) (c.length - (k + 1)) (capc - (k + 1))) v2 ?k3 ?k4 E2.out ?k5); (case k1 => rfl); (case k2 => rfl); (case k3 => rfl); (case k4 => rfl)))
            clear E1 E2
            have b2u := below_undrew b2
            have rc4 := ownS_below rc b2u
            have rn4 := ownS_below rn b2u
            have rt4 := ownS_below rt b2u
            have g4 := bstep hbr b2u
            clear b2 b2u rc rn rt hbr
            go_wp2_with fail
            refine (HLESS.out k hlt _ _ _ (Rd.of_own o2) (Rd.of_own rt4)).mono ?_
            rintro e w_7 ⟨vl, rfl, bl7⟩
            have rc5 := ownS_below rc4 bl7
            have rn5 := ownS_below rn4 bl7
            have rt5 := ownS_below rt4 bl7
            have g5 := bstep g4 bl7
            clear bl7 rc4 rn4 rt4 g4 o2
            go_wp2
            go_roundw
            case rel => exact ⟨k + 1, by omega, by go_num, rc5, rn5, rt5, g5⟩
            case measure => simp [intOf]; omega
          · obtain ⟨v1, w1, v2, w3, e1, e2, o2, b2⟩ := app_cut rc.drew hlt hc24 capc (capc - (k + 1)) ⟨gc, k + 1, none⟩ (by intro _; rfl)
            rw [show wr.drew.heap.size = wr.heap.size from rfl, show wr.drew.alloc (.cells #[] 3) = (wr.alloc (.cells #[] 3)).drew from rfl] at e1
            have E1 := Lib.hid e1
            have E2 := Lib.hid (show _ from e2)
            clear e1 e2
            go_wp2_with fail
            go_region_held3 (fun _ => True) (go_keep)
              (first
                | ((with_reducible refine step_append_eq ?p1 (.tmp 77) (.tmp 80) #[27, 27] ?p2 (.slice (some ⟨wr.heap.size, 0, none⟩) 0 0) (.slice (some ⟨gc, 0, none⟩) k capc) v1 ?p3 ?p4 E1.out ?p5); (case p1 => rfl); (case p2 => rfl); (case p3 => rfl); (case p4 => rfl))
                | ((with_reducible refine step_append_eq ?q1 (.tmp 81) (.tmp 85) #[27, 27] ?q2 v1 (.slice (some ⟨gc, k + 1, none⟩) (c.length - (k + 1)) (capc - (k + 1))) v2 ?q3 ?q4 E2.out ?q5); (case q1 => rfl); (case q2 => rfl); (case q3 => rfl); (case q4 => rfl)))
            clear E1 E2
            have b2u := below_undrew b2
            have rc4 := ownS_below rc b2u
            have rn4 := ownS_below rn b2u
            have rt4 := ownS_below rt b2u
            have g4 := bstep hbr b2u
            clear b2 b2u rc rn rt hbr
            go_wp2_with fail
            refine (HLESS.out k hlt _ _ _ (Rd.of_own o2) (Rd.of_own rt4)).mono ?_
            rintro e w_7 ⟨vl, rfl, bl7⟩
            have rc5 := ownS_below rc4 bl7
            have rn5 := ownS_below rn4 bl7
            have rt5 := ownS_below rt4 bl7
            have g5 := bstep g4 bl7
            clear bl7 rc4 rn4 rt4 g4 o2
            go_wp2
            go_roundw
            case rel => exact ⟨k + 1, by omega, by go_num, rc5, rn5, rt5, g5⟩
            case measure => simp [intOf]; omega
        · obtain rfl : k = c.length := by omega
          clear HLESS
          go_wp2_with fail
          go_loopw [14, 15] (fun v14 v15 wr => ∃ p : Nat, p ≤ 61 ∧ v15 = .int .i64 (p : Int) ∧ v14 = .int .i64 (isum ns p) ∧ wr.ownsRow w.heap.size 3 1 (.slice (some ⟨gc, 0, none⟩) c.length capc) c.length (c.map intV) ∧ wr.ownsRow w.heap.size 3 1 (.slice (some ⟨gn, 0, none⟩) 61 capn) 61 (ns.map intV) ∧ wr.ownsRow w.heap.size 54 2 (.slice adt t.length capt) t.length (flat2 t) ∧ Below w.heap.size w wr) (fun _ v15 _ => 61 - (intOf v15).toNat)
          case atStart => exact ⟨0, by omega, rfl, rfl, rc, rn, rt, hbr⟩
          case round =>
            obtain ⟨p, hp, rfl, rfl, rc, rn, rt, hbr⟩ := hrel
            by_cases hlp : p < 61
            · obtain ⟨m, hm, hcall⟩ := HP.out p hlp
              have y1 : wr.cell? ⟨gn, p, none⟩ = some (.int .i64 (m : Int)) := by
                rw [rn.cellAt _ (by omega), List.getElem?_map, hm]; rfl
              have HSS : Hid (isum ns (p + 1) = isum ns p + (m : Int)) := Lib.hid (by
                show isum ns p + ns.getD p 0 = _
                rw [List.getD_eq_getElem?_getD, hm]; rfl)
              have hs1 := HSB.out p hp
              have hs2 := HSB.out (p + 1) (by omega)
              rw [HSS.out] at hs2
              have C1 : Hid (∀ W' : World, Below wr.heap.size wr W' → Calls Try.prog 21 #[.slice (some ⟨gc, 0, none⟩) c.length capc, .int .i64 (p : Int)] W' (fun e w' => ∃ (a : Option Addr) (cp : Nat), e = .returned (.slice a m cp) ∧ Below W'.heap.size W' w')) := Lib.hid fun W' hW => hcall W' _ (Rd.below (Rd.of_own rc) hW)
              have hp0 : (0 : Int) ≤ (p : Int) := by omega
              have hp61 : (p : Int) < 61 := by omega
              have hm0 : ¬ ((m : Int) < 0) := by omega
              have hm1 : decide ((m : Int) < 0) = false := decide_eq_false hm0
              have HRC := Lib.hid rc
              have HRN := Lib.hid rn
              have HRT := Lib.hid rt
              clear hm hcall rc rn rt
              generalize isum ns p = sm at *
              go_wp2_with fail
              go_region_held3 (fun w' => w'.cell? ⟨gn, p, none⟩ = some (.int .i64 (m : Int))) (go_keep)
                (first
                  | (go_at_call 21; (with_reducible refine (C1.out _ (Below.drew (Below.refl _ _))).mono ?_); rintro e wa ⟨a1, cp1, rfl, hba⟩; have q1 := kept_cell hba y1))
              have hbz := below_undrew hba
              have g6 := bstep hbr hbz
              have rc6 := ownS_below HRC.out hbz
              have rn6 := ownS_below HRN.out hbz
              have rt6 := ownS_below HRT.out hbz
              clear hba hbz q1 y1 hbr C1 HRC HRN HRT
              go_wp2
              go_roundw
              case rel => exact ⟨p + 1, by omega, by go_num, by rw [HSS.out], rc6, rn6, rt6, g6⟩
              case measure => simp [intOf]; omega
            · obtain rfl : p = 61 := by omega
              rw [HS.out]
              clear HP HSB HS
              go_wp2_with fail
              refine (HR.out _ _ _ (Rd.of_own rc) (Rd.of_own rt)).mono ?_
              rintro e w_8 ⟨rfl, bl8⟩
              have rc8 := ownS_below rc bl8
              have rt8 := ownS_below rt bl8
              have g8 := bstep hbr bl8
              clear bl8 rc rt rn hbr
              go_wp2_with fail
              refine (HF1.out _ _ _ (Rd.of_own rc8) (Rd.of_own rt8)).mono ?_
              rintro e w_9 ⟨vx, rfl, bl9⟩
              have rc9 := ownS_below rc8 bl9
              have rt9 := ownS_below rt8 bl9
              have g9 := bstep g8 bl9
              clear bl9 rc8 rt8 g8
              go_wp2_with fail
              refine (HF2.out _ _ _ (Rd.of_own rc9) (Rd.of_own rt9)).mono ?_
              rintro e w_10 ⟨vy, rfl, bl10⟩
              have g10 := bstep g9 bl10
              clear bl10 rc9 rt9 g9
              go_wp2
              go_ret
              exact ⟨rfl, g10⟩
    · have HL : Hid (∀ (W : World) (U : Value), Rc2 W U t → Calls Try.prog 17 #[U, .int .i64 r] W (fun e w' => ∃ v, e = .returned (.tuple #[v, .bool false]) ∧ Below W.heap.size W w')) := Lib.hid fun W U h => by
        have := hL W U t r h (by omega)
        rw [least_one HD.out hr, decide_eq_false h0] at this
        exact this.mono fun _ _ ⟨v, he, _, hb⟩ => ⟨v, he, hb⟩
      have HR : Hid (∀ (W : World) (U V : Value), Rd1 W U [12] → Rd2 W V t → Calls Try.prog 18 #[U, V] W (fun e w' => e = .returned (.int .i64 100) ∧ Below W.heap.size W w')) := Lib.hid fun W U V h1 h2 => by
        have := hR W U V [12] t h1 h2 (by simp) (by omega)
        obtain rfl : t = [] := List.length_eq_zero_iff.1 (by omega)
        rw [rest_none] at this
        exact this
      have hz : ¬ ((0 : Int) < (t.length : Int)) := by omega
      have hz1 : decide ((0 : Int) < (t.length : Int)) = false := decide_eq_false hz
      clear hN hL hA hI hR htt HD
      generalize needM r t = ns at *
      go_wp2_with fail
      refine (HN.out _ _ (Rc2.of_own ht2)).mono ?_
      rintro e w_3 ⟨vn, rfl, hn0, bl3⟩
      rw [HNL.out] at hn0
      obtain ⟨gn, capn, rfl, -, -, -⟩ := ownS_pos hn0 (by omega)
      have ht3 := ownS_below ht2 bl3
      have g3 := bstep hb2 bl3
      clear bl3 ht2 hb2 hn0
      go_wp2_with fail
      refine (HL.out _ _ (Rc2.of_own ht3)).mono ?_
      rintro e w_4 ⟨vc, rfl, bl4⟩
      have ht4 := ownS_below ht3 bl4
      have g4 := bstep g3 bl4
      clear bl4 ht3 g3 HN HL
      have ga : Below w.heap.size w (w_4.alloc (.cells #[.int .i64 12] 3)) := g4.alloc g4.size _
      have hta := World.ownsRow.alloc ht4 (.cells #[.int .i64 12] 3)
      have h12 : (w_4.alloc (.cells #[.int .i64 12] 3)).ownsRow w.heap.size 3 1 (.slice (some ⟨w_4.heap.size, 0, none⟩) 1 1) 1 (([12] : List Int).map intV) := World.ownsRow_lit w_4 #[.int .i64 12] 1 g4.size (by simp [maxLen]) rfl
      go_wp2_with fail
      refine (HR.out _ _ _ (Rd.of_own h12) (Rd.of_own hta)).mono ?_
      rintro e w_5 ⟨rfl, bl5⟩
      have g5 := bstep ga bl5
      go_wp2
      go_ret
      exact ⟨rfl, g5⟩
end Go.Proofs.Ytpjkajephloipaa
