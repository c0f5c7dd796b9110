/- The walk of the law FnChanges. Made by mk_changes.py. No condition. -/
import Derived.Test.YtglehmffmailkaaChangeMath2
import Derived.Test.YtglehmffmailkaaImplTurn
import Derived.Test.YtglehmffmailkaaImplJoin
import Derived.Test.YtglehmffmailkaaImplSame
namespace Go.Proofs.Ytglehmffmailkaa
open Go.ChangeShapes Go.WideShapes Go.ChangeAt Go.RowKit

/-- An own row of m notes. -/
def OwM (B : Nat) (w : World) (v : Value) (m : Nat) (l : List (Int × Int)) : Prop := l.length = m ∧ w.ownsRow B 39 2 v m (flat2 l)
theorem OwM.below {B : Nat} {a b : World} {v : Value} {m : Nat} {l : List (Int × Int)} (h : OwM B a v m l) (hb : Below a.heap.size a b) : OwM B b v m l := ⟨h.1, ownS_below h.2 hb⟩
theorem OwM.lower {B C : Nat} {a : World} {v : Value} {m : Nat} {l : List (Int × Int)} (h : OwM B a v m l) (hb : C ≤ B) : OwM C a v m l := ⟨h.1, ownS_mono h.2 hb⟩
theorem OwM.rd {B : Nat} {w : World} {v : Value} {m : Nat} {l : List (Int × Int)} (h : OwM B w v m l) : Rd2 w v l := by
  have h2 := Rd.of_own h.2
  unfold Rd2; rw [h.1]; exact h2
theorem OwM.slice {B : Nat} {w : World} {v : Value} {m : Nat} {l : List (Int × Int)} (h : OwM B w v m l) : ∃ a cap, v = .slice a m cap := ownS_slice h.2
theorem OwM.cells {B : Nat} {w : World} {v : Value} {m : Nat} {l : List (Int × Int)} (h : OwM B w v m l) {k : Nat} {p : Int × Int} (hk : l[k]? = some p) :
    ∃ b c, v = .slice (some ⟨b, 0, none⟩) m c ∧ w.cell? ⟨b, k * 2, none⟩ = some (.int .i64 p.1) ∧ w.cell? ⟨b, k * 2 + 1, none⟩ = some (.int .i64 p.2) := by
  have hl : k < l.length := (List.getElem?_eq_some_iff.1 hk).1
  obtain ⟨g, cap, rfl, -, -, -⟩ := ownS_pos h.2 (by rw [← h.1]; omega)
  obtain ⟨b, o, c, hv, x, y⟩ := Rd2.cells h.rd hk
  simp only [Value.slice.injEq, Option.some.injEq, Addr.mk.injEq, and_true] at hv
  obtain ⟨⟨rfl, rfl⟩, -, rfl⟩ := hv
  rw [Nat.zero_add] at x y
  exact ⟨_, _, rfl, x, y⟩
def PostM (w : World) (m : Nat) (l : List (Int × Int)) (e : Ending) (w' : World) : Prop := ∃ v, e = .returned v ∧ OwM w.heap.size w' v m l ∧ Below w.heap.size w w'
def PostMB (w : World) (m : Nat) (l : List (Int × Int)) (b : Bool) (e : Ending) (w' : World) : Prop := ∃ v, e = .returned (.tuple #[v, .bool b]) ∧ OwM w.heap.size w' v m l ∧ Below w.heap.size w w'
theorem postM_of {w : World} {m : Nat} {l : List (Int × Int)} (hl : l.length = m) {e : Ending} {w' : World} (h : NewNotes w l e w') : PostM w m l e w' := by
  obtain ⟨v, he, ho, hb⟩ := h; subst hl; exact ⟨v, he, ⟨rfl, ho⟩, hb⟩
theorem postMB_of {w : World} {m : Nat} {l l' : List (Int × Int)} {b b' : Bool} (hq : (l', b') = (l, b)) (hl : l.length = m) {e : Ending} {w' : World} (h : NewNotesB w l' b' e w') : PostMB w m l b e w' := by
  obtain ⟨rfl, rfl⟩ := Prod.mk.inj hq
  obtain ⟨v, he, ho, hb⟩ := h; subst hl; exact ⟨v, he, ⟨rfl, ho⟩, hb⟩

set_option maxHeartbeats 8000000 in
set_option maxRecDepth 1000000 in
theorem changes_walk {w : World} {v : Value} {n : Nat} (hC : Code w w.heap.size v n) :
    Calls Try.prog 10 #[v] w fun e w' => e = .returned (.bool true) ∧ Below w.heap.size w w' := by
  by_cases hbig : 1048576 < n
  · go_enter Try.func10, Try.ntmps10
    go_wp2_with fail
    refine (big_yes hC hbig).mono ?_
    rintro e w1 ⟨rfl, rfl⟩
    go_wp2
    go_ret
    exact ⟨rfl, Below.refl _ _⟩
  · go_enter Try.func10, Try.ntmps10
    go_wp2_with fail
    refine (big_no hC hbig).mono ?_
    rintro e w1 ⟨rfl, rfl⟩
    go_wp2_with fail
    refine (drawtune_any hC).mono ?_
    rintro e w2 ⟨t, v2, ht, rfl, ho2, hb2⟩
    obtain ⟨m, hm⟩ : ∃ m, t.length = m := ⟨_, rfl⟩
    have ht2 : OwM w.heap.size w2 v2 m t := ⟨hm, by rw [← hm]; exact ho2⟩
    have h11 : m ≤ 11 := by rw [← hm]; exact ht.1
    have htt := ht.2.1
    obtain ⟨m1, m2, m3, m4, m5, m6⟩ := drawn_moves ht
    have lb : (backM t).length = m := by rw [back_len htt]; exact hm
    have lu : (upM t).length = m := by rw [up_len htt]; exact hm
    have lh : (shiftL 1 0 3 t).length = m := by rw [shiftL_len]; exact hm
    have ll : (shiftL 1 5 3 t).length = m := by rw [shiftL_len]; exact hm
    have ls : (shiftL 2 0 0 t).length = m := by rw [shiftL_len]; exact hm
    have j1 := join_same htt (back_tune htt) (by rw [lb, hm]; omega)
    have j2 := join_same (back_tune htt) htt (by rw [lb, hm]; omega)
    obtain ⟨mj, hmj⟩ : ∃ mj, (joinM t (backM t)).1.length = mj := ⟨_, rfl⟩
    have lj1 : m ≤ mj := by rw [← hm, ← hmj]; exact j1.2.2.1
    have lj2 : mj ≤ 2 * m := by have := j1.2.2.2; rw [hmj, lb, hm] at this; omega
    have CB1 : Hid (∀ (W : World) (V : Value), Rd2 W V t → Calls Try.prog 39 #[V] W (PostM W m (backM t))) := Lib.hid fun W V hV => (iback_any hV).mono fun _ _ => postM_of lb
    have CB2 : Hid (∀ (W : World) (V : Value), Rd2 W V (backM t) → Calls Try.prog 39 #[V] W (PostM W m t)) := Lib.hid fun W V hV => (iback_any hV).mono fun _ _ h => by rw [back_back htt] at h; exact postM_of hm h
    have CU1 : Hid (∀ (W : World) (V : Value), Rd2 W V t → Calls Try.prog 40 #[V] W (PostM W m (upM t))) := Lib.hid fun W V hV => (iup_any hV).mono fun _ _ => postM_of lu
    have CU2 : Hid (∀ (W : World) (V : Value), Rd2 W V (upM t) → Calls Try.prog 40 #[V] W (PostM W m t)) := Lib.hid fun W V hV => (iup_any hV).mono fun _ _ h => by rw [up_up htt] at h; exact postM_of hm h
    have CH1 : Hid (∀ (W : World) (V : Value), Rd2 W V t → Calls Try.prog 41 #[V, .int .i64 3] W (PostMB W m (shiftL 1 0 3 t) true)) := Lib.hid fun W V hV => (ihigher_any 3 hV (by rw [hm]; omega)).mono fun _ _ => postMB_of m1 lh
    have CH2 : Hid (∀ (W : World) (V : Value), Rd2 W V t → Calls Try.prog 41 #[V, .int .i64 61] W (PostMB W m t false)) := Lib.hid fun W V hV => (ihigher_any 61 hV (by rw [hm]; omega)).mono fun _ _ => postMB_of m6 hm
    have CL1 : Hid (∀ (W : World) (V : Value), Rd2 W V (shiftL 1 0 3 t) → Calls Try.prog 42 #[V, .int .i64 5] W (PostMB W m (shiftL 1 5 3 t) true)) := Lib.hid fun W V hV => (ilater_any 5 hV (by rw [lh]; omega)).mono fun _ _ => postMB_of m2 ll
    have CL2 : Hid (∀ (W : World) (V : Value), Rd2 W V (shiftL 1 5 3 t) → Calls Try.prog 42 #[V, .int .i64 (-5)] W (PostMB W m (shiftL 1 0 3 t) true)) := Lib.hid fun W V hV => (ilater_any (-5) hV (by rw [ll]; omega)).mono fun _ _ => postMB_of m4 lh
    have CS1 : Hid (∀ (W : World) (V : Value), Rd2 W V t → Calls Try.prog 43 #[V, .int .i64 2] W (PostMB W m (shiftL 2 0 0 t) true)) := Lib.hid fun W V hV => (islower_any 2 hV (by rw [hm]; omega)).mono fun _ _ => postMB_of m3 ls
    have CT : Hid (∀ (W : World) (U V : Value), Rd2 W U t → Rd2 W V (shiftL 1 5 3 t) → Calls Try.prog 37 #[U, V] W (fun e w' => e = .returned (.bool true) ∧ Below W.heap.size W w')) := Lib.hid fun W U V h1 h2 => by
      have := isame_any h1 h2
      rw [m5] at this
      exact this
    have CJ1 : Hid (∀ (W : World) (U V : Value), Rd2 W U t → Rd2 W V (backM t) → Calls Try.prog 44 #[U, V] W (PostMB W mj (joinM t (backM t)).1 true)) := Lib.hid fun W U V h1 h2 => (ijoin_any h1 h2).mono fun _ _ => postMB_of (by rw [j1.1]) hmj
    have CJ2 : Hid (∀ (W : World) (U V : Value), Rd2 W U (backM t) → Rd2 W V t → Calls Try.prog 44 #[U, V] W (PostMB W mj (joinM t (backM t)).1 true)) := Lib.hid fun W U V h1 h2 => (ijoin_any h1 h2).mono fun _ _ => postMB_of (by rw [j2.1, j2.2.1]) hmj
    have CA1 : Hid (∀ (W : World) (V : Value), Rd2 W V (backM t) → Calls Try.prog 45 #[V] W (fun e w' => e = .returned (.int .i64 (lastsM t)) ∧ Below W.heap.size W w')) := Lib.hid fun W V hV => by
      have := ilasts_any hV
      rw [(back_ends htt).2] at this
      exact this
    have CA2 : Hid (∀ (W : World) (V : Value), Rd2 W V t → Calls Try.prog 45 #[V] W (fun e w' => e = .returned (.int .i64 (lastsM t)) ∧ Below W.heap.size W w')) := Lib.hid fun W V hV => ilasts_any hV
    have EK : Hid (∀ k, k < m → ∃ p, t[k]? = some p) := Lib.hid fun k hk => ⟨_, List.getElem?_eq_getElem (by rw [hm]; exact hk)⟩
    have EJ : Hid (∀ k, k < mj → ∃ p, (joinM t (backM t)).1[k]? = some p) := Lib.hid fun k hk => ⟨_, List.getElem?_eq_getElem (by rw [hmj]; exact hk)⟩
    have E1 : Hid (∀ (k : Nat) (p : Int × Int), t[k]? = some p → (shiftL 1 0 3 t)[k]? = some (p.1, p.2 + 3) ∧ (shiftL 2 0 0 t)[k]? = some (2 * p.1, p.2) ∧ (0 ≤ p.1 ∧ p.1 ≤ 1000) ∧ (0 ≤ p.2 ∧ p.2 ≤ 60)) := Lib.hid fun k p hp => by
      refine ⟨?_, ?_, (tune_parts htt).2.2 p (List.mem_iff_getElem?.2 ⟨_, hp⟩)⟩
      · have := shift_at (a := 1) (b := 0) (c := 3) hp
        rw [Int.mul_one, Int.add_zero] at this; exact this
      · have := shift_at (a := 2) (b := 0) (c := 0) hp
        rw [Int.mul_comm, Int.add_zero, Int.add_zero] at this; exact this
    clear m1 m2 m3 m4 m5 m6 j1 j2 htt ht lb lu lh ll ls hm hmj ho2 hC
    generalize (joinM t (backM t)).1 = J at *
    generalize lastsM t = la at *
    generalize backM t = b at *
    generalize upM t = u at *
    generalize shiftL 1 0 3 t = h at *
    generalize shiftL 1 5 3 t = l at *
    generalize shiftL 2 0 0 t = s at *
    obtain ⟨adt, capt, rfl⟩ := ht2.slice
    go_wp2_with fail
    refine (CB1.out _ _ ht2.rd).mono ?_
    rintro e w_3 ⟨vb, rfl, hb0, bl3⟩
    obtain ⟨adb, capb, rfl⟩ := hb0.slice
    have hb1 := hb0.lower hb2.size
    have ht3 := ht2.below bl3
    have g3 := bstep hb2 bl3
    clear bl3 hb0 ht2 hb2
    go_wp2_with fail
    refine (CU1.out _ _ ht3.rd).mono ?_
    rintro e w_4 ⟨vu, rfl, hu0, bl4⟩
    obtain ⟨adu, capu, rfl⟩ := hu0.slice
    have hu1 := hu0.lower g3.size
    have ht4 := ht3.below bl4
    have hb4 := hb1.below bl4
    have g4 := bstep g3 bl4
    clear bl4 hu0 ht3 hb1 g3
    go_wp2_with fail
    refine (CH1.out _ _ ht4.rd).mono ?_
    rintro e w_5 ⟨vh, rfl, hh0, bl5⟩
    obtain ⟨adh, caph, rfl⟩ := hh0.slice
    have hh1 := hh0.lower g4.size
    have ht5 := ht4.below bl5
    have hb5 := hb4.below bl5
    have hu5 := hu1.below bl5
    have g5 := bstep g4 bl5
    clear bl5 hh0 ht4 hb4 hu1 g4
    go_wp2_with fail
    refine (CL1.out _ _ hh1.rd).mono ?_
    rintro e w_6 ⟨vl, rfl, hl0, bl6⟩
    obtain ⟨adl, capl, rfl⟩ := hl0.slice
    have hl1 := hl0.lower g5.size
    have ht6 := ht5.below bl6
    have hb6 := hb5.below bl6
    have hu6 := hu5.below bl6
    have hh6 := hh1.below bl6
    have g6 := bstep g5 bl6
    clear bl6 hl0 ht5 hb5 hu5 hh1 g5
    go_wp2_with fail
    refine (CS1.out _ _ ht6.rd).mono ?_
    rintro e w_7 ⟨vs, rfl, hs0, bl7⟩
    obtain ⟨ads, caps, rfl⟩ := hs0.slice
    have hs1 := hs0.lower g6.size
    have ht7 := ht6.below bl7
    have hb7 := hb6.below bl7
    have hu7 := hu6.below bl7
    have hh7 := hh6.below bl7
    have hl7 := hl1.below bl7
    have g7 := bstep g6 bl7
    clear bl7 hs0 ht6 hb6 hu6 hh6 hl1 g6
    go_wp2_with fail
    refine (CT.out _ _ _ ht7.rd hl7.rd).mono ?_
    rintro e w_8 ⟨rfl, bl8⟩
    have ht8 := ht7.below bl8
    have hb8 := hb7.below bl8
    have hu8 := hu7.below bl8
    have hh8 := hh7.below bl8
    have hl8 := hl7.below bl8
    have hs8 := hs1.below bl8
    have g8 := bstep g7 bl8
    clear bl8 ht7 hb7 hu7 hh7 hl7 hs1 g7
    go_wp2_with fail
    refine (CB2.out _ _ hb8.rd).mono ?_
    rintro e w_9 ⟨vc, rfl, hc0, bl9⟩
    obtain ⟨adc, capc, rfl⟩ := hc0.slice
    have hc1 := hc0.lower g8.size
    have ht9 := ht8.below bl9
    have hb9 := hb8.below bl9
    have hu9 := hu8.below bl9
    have hh9 := hh8.below bl9
    have hl9 := hl8.below bl9
    have hs9 := hs8.below bl9
    have g9 := bstep g8 bl9
    clear bl9 hc0 ht8 hb8 hu8 hh8 hl8 hs8 g8
    go_wp2_with fail
    refine (CU2.out _ _ hu9.rd).mono ?_
    rintro e w_10 ⟨vd, rfl, hd0, bl10⟩
    obtain ⟨add, capd, rfl⟩ := hd0.slice
    have hd1 := hd0.lower g9.size
    have ht10 := ht9.below bl10
    have hb10 := hb9.below bl10
    have hu10 := hu9.below bl10
    have hh10 := hh9.below bl10
    have hl10 := hl9.below bl10
    have hs10 := hs9.below bl10
    have hc10 := hc1.below bl10
    have g10 := bstep g9 bl10
    clear bl10 hd0 ht9 hb9 hu9 hh9 hl9 hs9 hc1 g9
    go_wp2_with fail
    refine (CL2.out _ _ hl10.rd).mono ?_
    rintro e w_11 ⟨vk, rfl, hk0, bl11⟩
    obtain ⟨adk, capk, rfl⟩ := hk0.slice
    have hk1 := hk0.lower g10.size
    have ht11 := ht10.below bl11
    have hb11 := hb10.below bl11
    have hu11 := hu10.below bl11
    have hh11 := hh10.below bl11
    have hl11 := hl10.below bl11
    have hs11 := hs10.below bl11
    have hc11 := hc10.below bl11
    have hd11 := hd1.below bl11
    have g11 := bstep g10 bl11
    clear bl11 hk0 ht10 hb10 hu10 hh10 hl10 hs10 hc10 hd1 g10
    clear hu11
    clear hl11
    clear CB1 CB2 CU1 CU2 CH1 CL1 CL2 CS1 CT
    go_wp2_with fail
    go_loopw [16] (fun v16 wr => ∃ k : Nat, k ≤ m ∧ v16 = .int .i64 k ∧ OwM w.heap.size wr (.slice adt m capt) m t ∧ OwM w.heap.size wr (.slice adb m capb) m b ∧ OwM w.heap.size wr (.slice adh m caph) m h ∧ OwM w.heap.size wr (.slice ads m caps) m s ∧ OwM w.heap.size wr (.slice adc m capc) m t ∧ OwM w.heap.size wr (.slice add m capd) m t ∧ OwM w.heap.size wr (.slice adk m capk) m h ∧ Below w.heap.size w wr) (fun v16 _ => m - (intOf v16).toNat)
    case atStart => exact ⟨0, Nat.zero_le _, rfl, ht11, hb11, hh11, hs11, hc11, hd11, hk1, g11⟩
    case round =>
      obtain ⟨k, hk, rfl, rt, rb, rh, rs, rc, rd, rk, hbr⟩ := hrel
      clear ht11 hb11 hh11 hs11 hc11 hd11 hk1 g11
      by_cases hlt : k < m
      · obtain ⟨p, hp⟩ := EK.out k hlt
        obtain ⟨hph, hps, pb1, pb2⟩ := E1.out k p hp
        obtain ⟨bt, ct, hvt, xt, yt⟩ := rt.cells hp
        simp only [Value.slice.injEq, true_and] at hvt
        obtain ⟨rfl, rfl⟩ := hvt
        obtain ⟨bh, ch, hvh, xh, yh⟩ := rh.cells hph
        simp only [Value.slice.injEq, true_and] at hvh
        obtain ⟨rfl, rfl⟩ := hvh
        obtain ⟨bs, cs, hvs, xs, ys⟩ := rs.cells hps
        simp only [Value.slice.injEq, true_and] at hvs
        obtain ⟨rfl, rfl⟩ := hvs
        obtain ⟨bc, cc, hvc, xc, yc⟩ := rc.cells hp
        simp only [Value.slice.injEq, true_and] at hvc
        obtain ⟨rfl, rfl⟩ := hvc
        obtain ⟨bd, cd, hvd, xd, yd⟩ := rd.cells hp
        simp only [Value.slice.injEq, true_and] at hvd
        obtain ⟨rfl, rfl⟩ := hvd
        obtain ⟨bk, ck, hvk, xk, yk⟩ := rk.cells hph
        simp only [Value.slice.injEq, true_and] at hvk
        obtain ⟨rfl, rfl⟩ := hvk
        have n1 := fun W => neq_no (rfl : p = p) W
        have n2 := fun W => neq_no (rfl : (p.1, p.2 + 3) = (p.1, p.2 + 3)) W
        have e1 : IntKind.i64.wrap (2 * p.1) = 2 * p.1 := IntWalk.i64_in _ (by omega)
        have e2 : IntKind.i64.wrap (p.2 + 3) = p.2 + 3 := IntWalk.i64_in _ (by omega)
        clear hp hph hps
        go_wp2_with fail
        go_quiet (fail)
        go_wp2
        go_roundw
        case rel => exact ⟨k + 1, by omega, by go_num, rt.below (below_drewN (Below.refl _ _) _), rb.below (below_drewN (Below.refl _ _) _), rh.below (below_drewN (Below.refl _ _) _), rs.below (below_drewN (Below.refl _ _) _), rc.below (below_drewN (Below.refl _ _) _), rd.below (below_drewN (Below.refl _ _) _), rk.below (below_drewN (Below.refl _ _) _), below_drewN hbr _⟩
        case measure => simp [intOf]; omega
      · clear rh rs rc rd rk E1 EK
        go_wp2_with fail
        refine (CJ1.out _ _ _ rt.rd rb.rd).mono ?_
        rintro e w_41 ⟨vi, rfl, hi0, bl41⟩
        obtain ⟨adi, capi, rfl⟩ := hi0.slice
        have hi1 := hi0.lower hbr.size
        have ht41 := rt.below bl41
        have hb41 := rb.below bl41
        have g41 := bstep hbr bl41
        clear bl41 hi0 rt rb hbr
        go_wp2_with fail
        refine (CJ2.out _ _ _ hb41.rd ht41.rd).mono ?_
        rintro e w_42 ⟨vj, rfl, hj0, bl42⟩
        obtain ⟨adj, capj, rfl⟩ := hj0.slice
        have hj1 := hj0.lower g41.size
        have ht42 := ht41.below bl42
        have hb42 := hb41.below bl42
        have hi42 := hi1.below bl42
        have g42 := bstep g41 bl42
        clear bl42 hj0 ht41 hb41 hi1 g41
        have f2 : ¬ (mj : Int) < (m : Int) := by omega
        have f3 : ¬ 2 * (m : Int) < (mj : Int) := by omega
        have f4 : IntKind.i64.wrap (2 * (m : Int)) = 2 * (m : Int) := IntWalk.i64_in _ (by omega)
        clear CJ1 CJ2
        go_wp2_with fail
        go_loopw [21] (fun v21 wr => ∃ k : Nat, k ≤ mj ∧ v21 = .int .i64 k ∧ OwM w.heap.size wr (.slice adt m capt) m t ∧ OwM w.heap.size wr (.slice adb m capb) m b ∧ OwM w.heap.size wr (.slice adi mj capi) mj J ∧ OwM w.heap.size wr (.slice adj mj capj) mj J ∧ Below w.heap.size w wr) (fun v21 _ => mj - (intOf v21).toNat)
        case atStart => exact ⟨0, Nat.zero_le _, rfl, ht42, hb42, hi42, hj1, g42⟩
        case round =>
          obtain ⟨i, hi, rfl, rt, rb, ri, rj, hbr⟩ := hrel
          clear ht42 hb42 hi42 hj1 g42
          by_cases hlti : i < mj
          · obtain ⟨p, hp⟩ := EJ.out i hlti
            obtain ⟨bi, ci, hvi, xi, yi⟩ := ri.cells hp
            simp only [Value.slice.injEq, true_and] at hvi
            obtain ⟨rfl, rfl⟩ := hvi
            obtain ⟨bj, cj, hvj, xj, yj⟩ := rj.cells hp
            simp only [Value.slice.injEq, true_and] at hvj
            obtain ⟨rfl, rfl⟩ := hvj
            have n1 := fun W => neq_no (rfl : p = p) W
            clear hp
            go_wp2_with fail
            go_quiet (fail)
            go_wp2
            go_roundw
            case rel => exact ⟨i + 1, by omega, by go_num, rt.below (below_drewN (Below.refl _ _) _), rb.below (below_drewN (Below.refl _ _) _), ri.below (below_drewN (Below.refl _ _) _), rj.below (below_drewN (Below.refl _ _) _), below_drewN hbr _⟩
            case measure => simp [intOf]; omega
          · clear ri rj EJ f2 f3 f4
            go_wp2_with fail
            refine (CH2.out _ _ rt.rd).mono ?_
            rintro e w_61 ⟨vm, rfl, hm0, bl61⟩
            obtain ⟨adm, capm, rfl⟩ := hm0.slice
            have hm1 := hm0.lower hbr.size
            have ht61 := rt.below bl61
            have hb61 := rb.below bl61
            have g61 := bstep hbr bl61
            clear bl61 hm0 rt rb hbr
            clear hm1
            go_wp2_with fail
            refine (CA1.out _ _ hb61.rd).mono ?_
            rintro e w_62 ⟨rfl, bl62⟩
            have ht62 := ht61.below bl62
            have hb62 := hb61.below bl62
            have g62 := bstep g61 bl62
            clear bl62 ht61 hb61 g61
            go_wp2_with fail
            refine (CA2.out _ _ ht62.rd).mono ?_
            rintro e w_63 ⟨rfl, bl63⟩
            have ht63 := ht62.below bl63
            have hb63 := hb62.below bl63
            have g63 := bstep g62 bl63
            clear bl63 ht62 hb62 g62
            go_wp2
            go_ret
            exact ⟨by first | rfl | simp, g63⟩
end Go.Proofs.Ytglehmffmailkaa
