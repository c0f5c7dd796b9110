/- The program's own nearNumbersOk (variadic, slices.ContainsFunc at ints for whatever test), differenceOf, CloserOf, ErrorParts, ContinuedOf. No condition. Made by gen_implnear.py. -/
import Derived.Test.YtjikpkigncomfaaNearSpec2
import Derived.Test.YtjikpkigncomfaaImplGear
import Derived.Test.YtjikpkigncomfaaCmp
namespace Go.Proofs.Ytjikpkigncomfaa
open Go.ChangeShapes Go.WideShapes Go.ChangeAt Go.RowKit

/-- What is asked of a test of ints. -/
def TstI (w : World) (g : FuncId) (caps : Array Value) (b : Int → Bool) : Prop :=
  ∀ (p : Int) (W : World), Below w.heap.size w W → Calls Try.prog g (#[.int .i64 p] ++ caps) W fun e W' => e = .returned (.bool (b p)) ∧ Below W.heap.size W W'

set_option maxHeartbeats 2000000 in
theorem indexi_any {w : World} {v : Value} {l : List Int} {g : FuncId} {caps : Array Value} {b : Int → Bool} (h : Rd1 w v l) (hm : l.length ≤ 1048576) (eg : ∀ args w, (callFunc g args).run Try.prog w = .ok (.enter g args) w) (hc : TstI w g caps b) :
    Calls Try.prog 48 #[v, .func (.func g) #[] caps] w fun e w' => (∃ z : Int, e = .returned (.int .i64 z) ∧ decide (0 ≤ z) = l.any b) ∧ Below w.heap.size w w' := by
  obtain ⟨a1, cap1, rfl⟩ := Rd.slice h
  have HC := Lib.hid hc; clear hc
  go_enter Try.func48, Try.ntmps48
  go_wp2_with fail
  go_loopw [8] (fun v8 wr => ∃ j : Nat, j ≤ l.length ∧ v8 = .int .i64 (j : Int) ∧ Hid (∀ (m : Nat) (x : Int), m < j → l[m]? = some x → b x = false) ∧ Below w.heap.size w wr) (fun v8 _ => l.length - (intOf v8).toNat)
  case atStart => exact ⟨0, Nat.zero_le _, rfl, Lib.hid fun m x hm => by omega, Below.refl _ _⟩
  case round =>
    obtain ⟨j, hj, rfl, HA, hbr⟩ := hrel
    by_cases hlt : j < l.length
    · obtain ⟨x, hx⟩ : ∃ x, l[j]? = some x := ⟨_, List.getElem?_eq_getElem hlt⟩
      obtain ⟨b3, o3, c4, hv3, x3⟩ := Rd1.cell (Rd.below h hbr) hx
      simp only [Value.slice.injEq, true_and] at hv3
      obtain ⟨rfl, rfl⟩ := hv3
      have HX := Lib.hid hx
      clear hx
      go_wp2_with fail
      refine (HC.out x _ hbr).mono ?_
      rintro e w2 ⟨rfl, hb2⟩
      have hb3 := bstep hbr hb2
      clear hb2 x3 hbr
      cases hb : b x with
      | true =>
        have HE := Lib.hid (show l.any b = true from List.any_eq_true.2 ⟨x, List.mem_of_getElem? HX.out, hb⟩)
        go_wp2
        go_ret
        exact ⟨⟨_, rfl, by rw [HE.out]; exact decide_eq_true (by omega)⟩, hb3⟩
      | false =>
        have HA2 : Hid (∀ (m : Nat) (x : Int), m < j + 1 → l[m]? = some x → b x = false) := Lib.hid fun m y hm' hy => by
          by_cases hmj : m < j
          · exact HA.out m y hmj hy
          · obtain rfl : m = j := by omega
            rw [HX.out] at hy
            obtain rfl := Option.some.inj hy
            exact hb
        go_wp2
        go_roundw
        case rel => exact ⟨j + 1, by omega, by go_num, HA2, hb3⟩
        case measure => simp [intOf]; omega
    · obtain rfl : j = l.length := by omega
      have HE := Lib.hid (show l.any b = false from List.any_eq_false.2 fun x hx => by
        obtain ⟨m, hm'⟩ := List.mem_iff_getElem?.1 hx
        rw [HA.out m x (List.getElem?_eq_some_iff.1 hm').1 hm']; simp)
      go_wp2
      go_ret
      exact ⟨⟨_, rfl, by rw [HE.out]; rfl⟩, hbr⟩
set_option maxHeartbeats 1000000 in
theorem containsi_any {w : World} {v : Value} {l : List Int} {g : FuncId} {caps : Array Value} {b : Int → Bool} (h : Rd1 w v l) (hm : l.length ≤ 1048576) (eg : ∀ args w, (callFunc g args).run Try.prog w = .ok (.enter g args) w) (hc : TstI w g caps b) :
    Calls Try.prog 44 #[v, .func (.func g) #[] caps] w fun e w' => e = .returned (.bool (l.any b)) ∧ Below w.heap.size w w' := by
  have HI := Lib.hid (indexi_any h hm eg hc)
  clear hc
  go_enter Try.func44, Try.ntmps44
  go_wp2_with fail
  refine HI.out.mono ?_
  rintro e w1 ⟨⟨z, rfl, hz⟩, hb⟩
  have HZ := Lib.hid hz
  clear hz HI
  by_cases h0 : 0 ≤ z
  · have hd : decide (0 ≤ z) = true := decide_eq_true h0
    have HE := Lib.hid (show l.any b = true by rw [← HZ.out, hd])
    go_wp2
    go_ret
    exact ⟨by rw [HE.out]; rfl, hb⟩
  · have hd : decide (0 ≤ z) = false := decide_eq_false h0
    have HE := Lib.hid (show l.any b = false by rw [← HZ.out, hd])
    go_wp2
    go_ret
    exact ⟨by rw [HE.out]; rfl, hb⟩


/-- A row that has just been made of its values. -/
theorem rd1_lit (w : World) (l : List Int) (e : TypeId) (hm : l.length ≤ maxLen) : Rd1 (w.alloc (.cells (l.map intV).toArray e)) (.slice (some ⟨w.heap.size, 0, none⟩) l.length l.length) l := by
  have h : (w.alloc (.cells (l.map intV).toArray e)).ownsRow w.heap.size e 1 (.slice (some ⟨w.heap.size, 0, none⟩) l.length l.length) l.length (l.map intV) :=
    ⟨by simp, .inr ⟨w.heap.size, l.length, (l.map intV).toArray, rfl, Nat.le_refl _, heap_alloc_new w _, Nat.le_refl _, hm, by simp, by rw [List.toList_toArray, List.take_of_length_le (by simp)]⟩⟩
  exact Rd.of_own h
/-- What nearNumbersOk's closure answers. -/
def bad11 (n : Int) : Bool := decide (n < 1) || decide (1000 < n)
theorem bad11_false {n : Int} : bad11 n = false ↔ ok11 n := by
  unfold bad11 ok11
  rw [Bool.or_eq_false_iff, decide_eq_false_iff_not, decide_eq_false_iff_not]
  omega
theorem bad11_any (n : Int) (W : World) :
    Calls Try.prog 45 (#[.int .i64 n] ++ #[]) W fun e w' => e = .returned (.bool (bad11 n)) ∧ Below W.heap.size W w' := by
  show Calls Try.prog 45 #[.int .i64 n] W _
  by_cases h1 : n < 1
  · have HB : Hid (bad11 n = true) := Lib.hid (by unfold bad11; rw [decide_eq_true h1]; rfl)
    have h1' : decide (n < 1) = true := decide_eq_true h1
    go_enter Try.func45, Try.ntmps45
    go_wp2
    go_ret
    exact ⟨by rw [HB.out]; rfl, Below.refl _ _⟩
  · have h1' : decide (n < 1) = false := decide_eq_false h1
    by_cases h2 : 1000 < n
    · have HB : Hid (bad11 n = true) := Lib.hid (by unfold bad11; rw [decide_eq_true h2, Bool.or_true])
      have h2' : decide (1000 < n) = true := decide_eq_true h2
      go_enter Try.func45, Try.ntmps45
      go_wp2
      go_ret
      exact ⟨by rw [HB.out]; rfl, Below.refl _ _⟩
    · have HB : Hid (bad11 n = false) := Lib.hid (by unfold bad11; rw [h1', decide_eq_false h2]; rfl)
      have h2' : decide (1000 < n) = false := decide_eq_false h2
      go_enter Try.func45, Try.ntmps45
      go_wp2
      go_ret
      exact ⟨by rw [HB.out]; rfl, Below.refl _ _⟩
theorem nearok_any {w : World} {v : Value} {l : List Int} (h : Rd1 w v l) (hm : l.length ≤ 1048576) :
    Calls Try.prog 35 #[v] w fun e w' => e = .returned (.bool (!l.any bad11)) ∧ Below w.heap.size w w' := by
  obtain ⟨a1, cap1, rfl⟩ := Rd.slice h
  have HC := Lib.hid (containsi_any (g := 45) (caps := #[]) (b := bad11) h hm (fun _ _ => rfl) (fun p W _ => bad11_any p W))
  go_enter Try.func35, Try.ntmps35
  go_wp2_with fail
  refine HC.out.mono ?_
  rintro e w1 ⟨rfl, hb⟩
  clear HC
  cases hb' : l.any bad11 <;> (have HT := Lib.hid hb'; clear hb'; go_wp2; go_ret; exact ⟨by first | (rw [HT.out]; rfl) | rfl, hb⟩)
theorem bad2_ok {t u : Int} (h : ok11 t ∧ ok11 u) : [t, u].any bad11 = false := by
  simp only [List.any_cons, List.any_nil, Bool.or_false, Bool.or_eq_false_iff]
  exact ⟨bad11_false.2 h.1, bad11_false.2 h.2⟩
theorem bad2_no {t u : Int} (h : ¬ (ok11 t ∧ ok11 u)) : [t, u].any bad11 = true := by
  cases hb : [t, u].any bad11 with
  | true => rfl
  | false =>
    simp only [List.any_cons, List.any_nil, Bool.or_false, Bool.or_eq_false_iff] at hb
    exact absurd ⟨bad11_false.1 hb.1, bad11_false.1 hb.2⟩ h
theorem bad6_ok {t u a b c d : Int} (h : ok11 t ∧ ok11 u ∧ ok11 a ∧ ok11 b ∧ ok11 c ∧ ok11 d) : [t, u, a, b, c, d].any bad11 = false := by
  simp only [List.any_cons, List.any_nil, Bool.or_false, Bool.or_eq_false_iff]
  exact ⟨bad11_false.2 h.1, bad11_false.2 h.2.1, bad11_false.2 h.2.2.1, bad11_false.2 h.2.2.2.1, bad11_false.2 h.2.2.2.2.1, bad11_false.2 h.2.2.2.2.2⟩
theorem bad6_no {t u a b c d : Int} (h : ¬ (ok11 t ∧ ok11 u ∧ ok11 a ∧ ok11 b ∧ ok11 c ∧ ok11 d)) : [t, u, a, b, c, d].any bad11 = true := by
  cases hb : [t, u, a, b, c, d].any bad11 with
  | true => rfl
  | false =>
    simp only [List.any_cons, List.any_nil, Bool.or_false, Bool.or_eq_false_iff] at hb
    exact absurd ⟨bad11_false.1 hb.1, bad11_false.1 hb.2.1, bad11_false.1 hb.2.2.1, bad11_false.1 hb.2.2.2.1, bad11_false.1 hb.2.2.2.2.1, bad11_false.1 hb.2.2.2.2.2⟩ h

theorem diff_any {w : World} (t u a b : Int) (ht : ok11 t) (hu : ok11 u) (ha : ok11 a) (hb : ok11 b) :
    Calls Try.prog 39 #[.int .i64 t, .int .i64 u, .int .i64 a, .int .i64 b] w fun e w' => e = .returned (.int .i64 (farM t u a b)) ∧ w' = w := by
  have h1 := mul11 ha hu
  have h2 := mul11 ht hb
  have HM : Hid (farM t u a b = max (a * u - t * b) (-(a * u - t * b))) := Lib.hid rfl
  obtain ⟨P, hP⟩ : ∃ P, a * u = P := ⟨_, rfl⟩
  obtain ⟨Q, hQ⟩ : ∃ Q, t * b = Q := ⟨_, rfl⟩
  rw [hP, hQ] at HM
  rw [hP] at h1
  rw [hQ] at h2
  obtain ⟨e1, e2⟩ := wrap_in hP (by omega) (by omega)
  obtain ⟨e3, e4⟩ := wrap_in hQ (by omega) (by omega)
  obtain ⟨X, hX⟩ : ∃ X, P - Q = X := ⟨_, rfl⟩
  rw [hX] at HM
  obtain ⟨e5, e6⟩ := wrap_in hX (by omega) (by omega)
  obtain ⟨e7, e8⟩ := wrap_in (x := -X) rfl (by omega) (by omega)
  clear hP hQ hX
  have emx : (if X < -X then -X else X) = max X (-X) := by split <;> omega
  go_enter Try.func39, Try.ntmps39
  go_wp2
  go_ret
  exact ⟨by rw [HM.out]; rfl, rfl⟩

set_option maxHeartbeats 2000000 in
theorem iclos_any {w : World} (t u a b c d : Int) :
    Calls Try.prog 16 #[.int .i64 t, .int .i64 u, .int .i64 a, .int .i64 b, .int .i64 c, .int .i64 d] w fun e w' => e = .returned (.int .i64 (closM6 t u a b c d)) ∧ Below w.heap.size w w' := by
  have hR := rd1_lit w [t, u, a, b, c, d] 3 (by unfold maxLen; simp)
  have hb0 : Below w.heap.size w (w.alloc (.cells ([t, u, a, b, c, d].map intV).toArray 3)) := (Below.refl _ _).alloc (Nat.le_refl _) _
  simp only [List.map_cons, List.map_nil, intV, List.length_cons, List.length_nil, Nat.reduceAdd] at hR hb0
  have HN := Lib.hid (nearok_any hR (by simp))
  by_cases hk : ok11 t ∧ ok11 u ∧ ok11 a ∧ ok11 b ∧ ok11 c ∧ ok11 d
  · have HBB := Lib.hid (bad6_ok hk)
    have HF1 := Lib.hid (fun W : World => diff_any (w := W) t u a b hk.1 hk.2.1 hk.2.2.1 hk.2.2.2.1)
    have HF2 := Lib.hid (fun W : World => diff_any (w := W) t u c d hk.1 hk.2.1 hk.2.2.2.2.1 hk.2.2.2.2.2)
    have HL := Lib.hid (fun q => clos_less hk q)
    have HG := Lib.hid (fun q => clos_more hk q)
    have HS := Lib.hid (fun q => clos_same hk q)
    have p1 := farM_nonneg t u a b
    have p2 := farM_nonneg t u c d
    have p3 := far_le hk.1 hk.2.1 hk.2.2.1 hk.2.2.2.1
    have p4 := far_le hk.1 hk.2.1 hk.2.2.2.2.1 hk.2.2.2.2.2
    have hb4 := hk.2.2.2.1
    have hd4 := hk.2.2.2.2.2
    unfold ok11 at hb4 hd4
    clear hk
    generalize farM t u a b = X at *
    generalize farM t u c d = Y at *
    have q1 : 0 ≤ X * d := Int.mul_nonneg p1 (by omega)
    have q2 : X * d ≤ 1000000 * 1000 := Int.mul_le_mul p3 hd4.2 (by omega) (by omega)
    have q3 : 0 ≤ Y * b := Int.mul_nonneg p2 (by omega)
    have q4 : Y * b ≤ 1000000 * 1000 := Int.mul_le_mul p4 hb4.2 (by omega) (by omega)
    obtain ⟨P, hP⟩ : ∃ P, X * d = P := ⟨_, rfl⟩
    obtain ⟨Q, hQ⟩ : ∃ Q, Y * b = Q := ⟨_, rfl⟩
    rw [hP, hQ] at HL HG HS
    rw [hP] at q1 q2
    rw [hQ] at q3 q4
    obtain ⟨e1, e2⟩ := wrap_in hP (by omega) (by omega)
    obtain ⟨e3, e4⟩ := wrap_in hQ (by omega) (by omega)
    clear hP hQ p1 p2 p3 p4 hb4 hd4
    have HR : Hid (closM6 t u a b c d = cmpI P Q) := Lib.hid (by
      unfold cmpI
      by_cases c1 : P < Q
      · rw [if_pos c1]; exact HL.out c1
      · by_cases c2 : Q < P
        · rw [if_neg c1, if_pos c2]; exact HG.out c2
        · rw [if_neg c1, if_neg c2]; exact HS.out (by omega))
    clear HL HG HS
    go_enter Try.func16, Try.ntmps16
    go_wp2_with fail
    refine HN.out.mono ?_
    rintro e w1 ⟨rfl, hb1⟩
    rw [HBB.out]
    have hb2 := bstep hb0 hb1
    clear HN hR hb0 hb1
    go_wp2_with fail
    refine (HF1.out _).mono ?_
    rintro e w2 ⟨rfl, rfl⟩
    go_wp2_with fail
    refine (HF2.out _).mono ?_
    rintro e w2 ⟨rfl, rfl⟩
    go_wp2_with fail
    refine (compare_any P Q _).mono ?_
    rintro e w2 ⟨rfl, rfl⟩
    go_wp2
    go_ret
    exact ⟨by rw [HR.out]; rfl, hb2⟩
  · have HBB := Lib.hid (bad6_no hk)
    have HR := Lib.hid (clos_no hk)
    clear hk
    go_enter Try.func16, Try.ntmps16
    go_wp2_with fail
    refine HN.out.mono ?_
    rintro e w1 ⟨rfl, hb1⟩
    rw [HBB.out]
    have hb2 := bstep hb0 hb1
    clear HN hR hb0 hb1
    go_wp2
    go_ret
    exact ⟨by rw [HR.out]; rfl, hb2⟩

set_option maxHeartbeats 2000000 in
theorem ierr_any {w : World} (t u : Int) (p : Int × Int) :
    Calls Try.prog 17 #[.int .i64 t, .int .i64 u, .agg #[.int .i64 p.1, .int .i64 p.2]] w fun e w' => e = .returned (.int .i64 (errM t u p)) ∧ Below w.heap.size w w' := by
  have hb0 : Below w.heap.size w (w.alloc (.cells #[.int .i64 p.1, .int .i64 p.2] 31)) := (Below.refl _ _).alloc (Nat.le_refl _) _
  have hX := box2_new w (.int .i64 p.1) (.int .i64 p.2) 31
  by_cases h3 : gearB p = true
  · have hg := gearB_true.1 h3
    have HG := Lib.hid h3
    clear h3
    by_cases h12 : ok11 t ∧ ok11 u
    · have HBB := Lib.hid (bad2_ok h12)
      have HR := Lib.hid (errM_yes ⟨h12, hg⟩)
      obtain ⟨o1, o2⟩ := ok_gear hg
      have HF := Lib.hid (fun W : World => diff_any (w := W) t u p.1 p.2 h12.1 h12.2 o1 o2)
      have n0 := farM_nonneg t u p.1 p.2
      have n1 := far_le h12.1 h12.2 o1 o2
      have m1 := mul11 h12.1 o2
      generalize farM t u p.1 p.2 = F at *
      obtain ⟨P, hP⟩ : ∃ P, F * 1000000 = P := ⟨_, rfl⟩
      obtain ⟨Q, hQ⟩ : ∃ Q, t * p.2 = Q := ⟨_, rfl⟩
      rw [hP, hQ] at HR
      rw [hQ] at m1
      obtain ⟨e1, e2⟩ := wrap_in hP (by omega) (by omega)
      obtain ⟨e3, e4⟩ := wrap_in hQ (by omega) (by omega)
      have hP0 : 0 ≤ P := by omega
      have hP1 : P ≤ 1000000000000 := by omega
      clear hP hQ n0 n1 h12 hg
      have htd : P.tdiv Q = P / Q := Int.tdiv_eq_ediv_of_nonneg hP0
      have hd0 : 0 ≤ P / Q := Int.ediv_nonneg hP0 (by omega)
      have hd1 : P / Q ≤ P := Int.ediv_le_self _ hP0
      have ewd : IntKind.i64.wrap (P / Q) = P / Q := IntWalk.i64_in _ (by omega)
      have hqz : (Q == 0) = false := by rw [beq_eq_false_iff_ne]; omega
      have hqn : ¬ Q = 0 := by omega
      obtain ⟨-, ⟨x0, x1⟩, -⟩ := id hX
      go_enter Try.func17, Try.ntmps17
      go_wp2_with fail
      generalize w.alloc (.cells #[.int .i64 p.1, .int .i64 p.2] 31) = W at *
      obtain ⟨bx, hbx⟩ : ∃ b, b = w.heap.size := ⟨_, rfl⟩
      rw [← hbx] at hX x0 x1
      simp only [← hbx]
      clear hbx
      refine (igear_any p _).mono ?_
      rintro e w1 ⟨rfl, hb1⟩
      rw [HG.out]
      have hb2 := bstep hb0 hb1
      have hX1 := hX.below hb1
      clear x0 x1 hX hb0 hb1
      have hL := rd1_lit w1 [t, u] 3 (by unfold maxLen; simp)
      have hbL : Below w1.heap.size w1 (w1.alloc (.cells ([t, u].map intV).toArray 3)) := (Below.refl _ _).alloc (Nat.le_refl _) _
      simp only [List.map_cons, List.map_nil, intV, List.length_cons, List.length_nil, Nat.reduceAdd] at hL hbL
      have HN := Lib.hid (nearok_any hL (by simp))
      have hb3 := bstep hb2 hbL
      have hX2 := hX1.below hbL
      clear hX1 hb2 hbL hL
      go_wp2_with fail
      refine HN.out.mono ?_
      rintro e w2 ⟨rfl, hb4⟩
      rw [HBB.out]
      have hb5 := bstep hb3 hb4
      obtain ⟨-, ⟨x0, x1⟩, -⟩ := hX2.below hb4
      clear HN hX2 hb3 hb4
      go_wp2_with fail
      go_quiet ((go_at_call 39; exact Calls.quiet_of_same (HF.out _)))
      go_wp2
      go_ret
      exact ⟨by rw [HR.out]; rfl, below_drewN hb5 _⟩
    · have HBB := Lib.hid (bad2_no h12)
      have HR := Lib.hid (errM_no (top := t) (bottom := u) (p := p) fun q => h12 q.1)
      clear h12 hg
      obtain ⟨-, ⟨x0, x1⟩, -⟩ := id hX
      go_enter Try.func17, Try.ntmps17
      go_wp2_with fail
      generalize w.alloc (.cells #[.int .i64 p.1, .int .i64 p.2] 31) = W at *
      refine (igear_any p _).mono ?_
      rintro e w1 ⟨rfl, hb1⟩
      rw [HG.out]
      have hb2 := bstep hb0 hb1
      clear x0 x1 hX hb0 hb1
      have hL := rd1_lit w1 [t, u] 3 (by unfold maxLen; simp)
      have hbL : Below w1.heap.size w1 (w1.alloc (.cells ([t, u].map intV).toArray 3)) := (Below.refl _ _).alloc (Nat.le_refl _) _
      simp only [List.map_cons, List.map_nil, intV, List.length_cons, List.length_nil, Nat.reduceAdd] at hL hbL
      have HN := Lib.hid (nearok_any hL (by simp))
      have hb3 := bstep hb2 hbL
      clear hb2 hbL hL
      go_wp2_with fail
      refine HN.out.mono ?_
      rintro e w2 ⟨rfl, hb4⟩
      rw [HBB.out]
      have hb5 := bstep hb3 hb4
      clear HN hb3 hb4
      go_wp2
      go_ret
      exact ⟨by rw [HR.out]; rfl, hb5⟩
  · have HG : Hid (gearB p = false) := Lib.hid (by simpa using h3)
    have HR := Lib.hid (errM_no (top := t) (bottom := u) (p := p) fun q => h3 (gearB_true.2 q.2))
    clear h3
    obtain ⟨-, ⟨x0, x1⟩, -⟩ := id hX
    go_enter Try.func17, Try.ntmps17
    go_wp2_with fail
    generalize w.alloc (.cells #[.int .i64 p.1, .int .i64 p.2] 31) = W at *
    refine (igear_any p _).mono ?_
    rintro e w1 ⟨rfl, hb1⟩
    rw [HG.out]
    have hb2 := bstep hb0 hb1
    clear x0 x1 hX hb0 hb1
    go_wp2
    go_ret
    exact ⟨by rw [HR.out]; rfl, hb2⟩

set_option maxHeartbeats 2000000 in
theorem icont_any {w : World} (top bottom : Int) :
    Calls Try.prog 11 #[.int .i64 top, .int .i64 bottom] w (NewInts w (contM top bottom)) := by
  have hown0 : w.ownsRow w.heap.size 3 1 (.slice none 0 0) 0 [] := World.ownsRow_nil _ _ _ _
  by_cases h : (0 ≤ top ∧ top ≤ 1000000) ∧ (1 ≤ bottom ∧ bottom ≤ 1000000)
  · obtain ⟨⟨t1, t2⟩, b1, b2⟩ := h
    obtain ⟨a, rfl⟩ := Int.eq_ofNat_of_zero_le t1
    obtain ⟨b, rfl⟩ := Int.eq_ofNat_of_zero_le (show 0 ≤ bottom by omega)
    have HM := Lib.hid (contM_yes (a := a) (b := b) (by omega) (by omega))
    have hab : a ≤ 1000000 ∧ b ≤ 1000000 := by omega
    have HL := Lib.hid (contL_len a b)
    have g1 : ¬ (a : Int) < 0 := by omega
    have g2 : ¬ (1000000 : Int) < (a : Int) := by omega
    have g3 : ¬ (b : Int) < 1 := by omega
    have g4 : ¬ (1000000 : Int) < (b : Int) := by omega
    go_enter Try.func11, Try.ntmps11
    go_wp2_with fail
    clear g1 g2 g3 g4 t1 t2 b1 b2
    go_loopw [0, 1, 5] (fun v0 v1 v5 wr => ∃ (x y : Nat) (out : List Int), x ≤ 1000000 ∧ y ≤ 1000000 ∧ v0 = .int .i64 (x : Int) ∧ v1 = .int .i64 (y : Int) ∧ Hid (out ++ (contL x y).map Int.ofNat = (contL a b).map Int.ofNat) ∧ wr.ownsRow w.heap.size 3 1 v5 out.length (out.map intV) ∧ Below w.heap.size w wr) (fun _ v1 _ _ => (intOf v1).toNat)
    case atStart => exact ⟨a, b, [], hab.1, hab.2, rfl, rfl, Lib.hid (by simp), hown0, Below.refl _ _⟩
    case round =>
      obtain ⟨x, y, out, hx, hy, rfl, rfl, HO, hown, hbr⟩ := hrel
      clear hown0
      by_cases h0 : y = 0
      · subst h0
        have HE : Hid (out = contM (a : Int) (b : Int)) := Lib.hid (by have := HO.out; rw [contL_zero] at this; rw [HM.out]; simpa using this)
        obtain ⟨av, cv, rfl⟩ := ownS_slice hown
        go_wp2
        go_ret
        rw [← HE.out]
        exact ⟨_, rfl, hown, hbr⟩
      · have hy1 : (0 : Int) < (y : Int) := by omega
        have hyz : ((y : Int) == 0) = false := by rw [beq_eq_false_iff_ne]; omega
        have hxy : x % y < y := Nat.mod_lt _ (by omega)
        have hxd : x / y ≤ x := Nat.div_le_self _ _
        have HN : Hid (out ++ [((x / y : Nat) : Int)] ++ (contL y (x % y)).map Int.ofNat = (contL a b).map Int.ofNat) := Lib.hid (by rw [← HO.out, contL_step h0, List.map_cons, List.append_assoc]; rfl)
        have hol : out.length ≤ 1000000 := by
          have h7 := congrArg List.length HO.out
          have h8 := HL.out
          rw [List.length_append, List.length_map, List.length_map] at h7
          omega
        have ht : (x : Int).tmod (y : Int) = (x : Int) % (y : Int) := Int.tmod_eq_emod_of_nonneg (by omega)
        have hd : (x : Int).tdiv (y : Int) = (x : Int) / (y : Int) := Int.tdiv_eq_ediv_of_nonneg (by omega)
        have HMD : Hid ((x : Int) % (y : Int) = ((x % y : Nat) : Int)) := Lib.hid (Int.natCast_emod x y).symm
        have HDV : Hid ((x : Int) / (y : Int) = ((x / y : Nat) : Int)) := Lib.hid (Int.natCast_ediv x y).symm
        have ew : IntKind.i64.wrap ((x : Int) % (y : Int)) = (x : Int) % (y : Int) := IntWalk.i64_in _ (by rw [HMD.out]; omega)
        have hz0 : (0 : Int) ≤ (x : Int) / (y : Int) := Int.ediv_nonneg (by omega) (by omega)
        have hz1 : (x : Int) / (y : Int) ≤ (x : Int) := Int.ediv_le_self _ (by omega)
        have ew2 : IntKind.i64.wrap ((x : Int) / (y : Int)) = (x : Int) / (y : Int) := IntWalk.i64_in _ (by omega)
        obtain ⟨v', w4, e4, ho4, hg4, -⟩ := app_int hown ((x : Int) / (y : Int)) (by omega) hbr.size
        have hb4 := (hbr.alloc hbr.size (.cells #[.int .i64 ((x : Int) / (y : Int))] 3)).grown hg4 (by rw [size_alloc]; have := hbr.size; omega) (fun z hz => (hown.lt z hz).1)
        have ho5 : Hid (w4.ownsRow w.heap.size 3 1 v' (out ++ [((x / y : Nat) : Int)]).length ((out ++ [((x / y : Nat) : Int)]).map intV)) := Lib.hid (by
          rw [HDV.out] at ho4; rw [List.length_append, List.map_append]; exact ho4)
        obtain ⟨av, cv, rfl⟩ := ownS_slice hown
        clear hown hbr hg4 ho4
        go_wp2_with (at_builtin; refine wpList_append_eq rfl _ _ _ rfl _ _ _ rfl rfl e4 ?_)
        go_quiet (fail)
        go_wp2
        go_roundw
        case rel => exact ⟨y, x % y, out ++ [((x / y : Nat) : Int)], hy, by omega, rfl, by first | rfl | (rw [← HMD.out]) | go_num, HN, ownS_below ho5.out (below_drewN (Below.refl _ _) _), below_drewN hb4 _⟩
        case measure => simp [intOf]; omega
  · have HM := Lib.hid (contM_no h)
    by_cases h1 : top < 0
    · go_enter Try.func11, Try.ntmps11
      go_wp2
      go_ret
      rw [HM.out]; exact ⟨_, rfl, hown0, Below.refl _ _⟩
    · by_cases h2 : 1000000 < top
      · go_enter Try.func11, Try.ntmps11
        go_wp2
        go_ret
        rw [HM.out]; exact ⟨_, rfl, hown0, Below.refl _ _⟩
      · by_cases h3 : bottom < 1
        · go_enter Try.func11, Try.ntmps11
          go_wp2
          go_ret
          rw [HM.out]; exact ⟨_, rfl, hown0, Below.refl _ _⟩
        · have h4 : 1000000 < bottom := by omega
          go_enter Try.func11, Try.ntmps11
          go_wp2
          go_ret
          rw [HM.out]; exact ⟨_, rfl, hown0, Below.refl _ _⟩
end Go.Proofs.Ytjikpkigncomfaa
