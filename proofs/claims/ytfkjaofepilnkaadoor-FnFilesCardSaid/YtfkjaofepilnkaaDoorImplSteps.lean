/- The contracts of the program's filesTo and StepsTo: a tone that is not reached is a sentinel error, tested with errors.Is. Condition: the variable holds the sentinel (ErrAt). Made by gen_filesteps.py. -/
import Derived.Test.YtfkjaofepilnkaaDoorImplFile
import Derived.Test.YtfkjaofepilnkaaDoorErrIs
namespace Go.Proofs.YtfkjaofepilnkaaDoor
open Go.ChangeShapes Go.WideShapes Go.ChangeAt Go.RowKit

/-- The package-level variable holds the sentinel at a. -/
def ErrAt (w : World) (a : Addr) : Prop := 0 < w.heap.size ∧ w.cell? ⟨0, 0, none⟩ = some (.iface 70 (.pointer (some a)))
theorem ErrAt.below {w w' : World} {a : Addr} (h : ErrAt w a) (hb : Below w.heap.size w w') : ErrAt w' a := ⟨Nat.lt_of_lt_of_le h.1 hb.size, kept_b hb h.2⟩
/-- The answer of filesTo. -/
def FilAns (w : World) (a : Addr) (t p r n : Int) (e : Ending) (w' : World) : Prop :=
  Below w.heap.size w w' ∧ ((∃ x y, LeastP t p r n x y ∧ e = .returned (.tuple #[.int .i64 x, .int .i64 y, .nilIface])) ∨ ((∀ x y, ¬ ReachP t p r n x y) ∧ e = .returned (.tuple #[.int .i64 0, .int .i64 0, .iface 70 (.pointer (some a))])))

set_option maxHeartbeats 4000000 in
theorem filesto_any {w : World} {a : Addr} (t p r n : Int) (hp : ToothP t p r) (hE : ErrAt w a) :
    Calls Tryd.prog 19 #[.agg #[.int .i64 t, .int .i64 p, .int .i64 r], .int .i64 n] w (FilAns w a t p r n) := by
  have hb0 : Below w.heap.size w (w.alloc (.cells #[.int .i64 t, .int .i64 p, .int .i64 r] 25)) := (Below.refl _ _).alloc (Nat.le_refl _) _
  have hX := b3_new w t p r 25
  replace hE := hE.below hb0
  obtain ⟨⟨ht0, ht1⟩, ⟨hp0, hp1⟩, hr0, hr1⟩ := hp
  have ewp : IntKind.i64.wrap (p + 1) = p + 1 := IntWalk.i64_in _ (by omega)
  have ewr : IntKind.i64.wrap (r + 1) = r + 1 := IntWalk.i64_in _ (by omega)
  obtain ⟨-, ⟨x0, x1, x2⟩, -⟩ := id hX
  go_enter Tryd.func19, Tryd.ntmps19
  go_wp2_with fail
  clear x0 x1 x2
  generalize (w.alloc (.cells #[.int .i64 t, .int .i64 p, .int .i64 r] 25)) = W at *
  obtain ⟨bx, hbx⟩ : ∃ b, b = w.heap.size := ⟨_, rfl⟩
  rw [← hbx] at hX
  simp only [← hbx]
  clear hbx
  go_loopw [12] (fun v12 wr => ∃ A : Int, 0 ≤ A ∧ A ≤ p + 1 ∧ v12 = .int .i64 A ∧ Hid (∀ x y, ReachP t p r n x y → A ≤ x) ∧ Hid (ErrAt wr a) ∧ B3 wr bx t p r ∧ Below w.heap.size w wr) (fun v12 _ => (p + 1 - intOf v12).toNat)
  case atStart => exact ⟨0, by omega, by omega, rfl, Lib.hid (fun x y q => q.1.1), Lib.hid hE, hX, hb0⟩
  case round =>
    obtain ⟨A, hA0, hA1, rfl, HI, HE, hB, hbr⟩ := hrel
    clear hX hb0 hE
    obtain ⟨-, ⟨x0, x1, x2⟩, -⟩ := id hB
    by_cases hlt : A < p + 1
    · have ewA : IntKind.i64.wrap (A + 1) = A + 1 := IntWalk.i64_in _ (by omega)
      go_wp2_with fail
      clear x0 x1 x2
      go_loopw [18] (fun v18 wx => ∃ B : Int, 0 ≤ B ∧ B ≤ r + 1 ∧ v18 = .int .i64 B ∧ Hid (∀ x y, ReachP t p r n x y → A < x ∨ (x = A ∧ B ≤ y)) ∧ Hid (ErrAt wx a) ∧ B3 wx bx t p r ∧ Below w.heap.size w wx) (fun v18 _ => (r + 1 - intOf v18).toNat)
      case atStart => exact ⟨0, by omega, by omega, rfl, Lib.hid (fun x y q => by have := HI.out x y q; have := q.2.1.1; omega), HE, hB, hbr⟩
      case round =>
        clear HI HE hB hbr
        obtain ⟨B, hB0, hB1, rfl, HJ, HEx, hBx, hbx⟩ := hrel
        obtain ⟨-, ⟨x0, x1, x2⟩, -⟩ := id hBx
        by_cases hla : B < r + 1
        · have ewB : IntKind.i64.wrap (B + 1) = B + 1 := IntWalk.i64_in _ (by omega)
          have HC := Lib.hid (filT_is (t := t) (a := A) (b := B) (by omega) ⟨hA0, by omega⟩ ⟨hB0, by omega⟩)
          go_wp2_with fail
          refine (filed_any t p r A B).mono ?_
          rintro e w2 ⟨rfl, hb2⟩
          have HE2 := Lib.hid (HEx.out.below hb2)
          have hb3 := bstep hbx hb2
          have hB3 := hBx.below hb2
          clear hBx hbx hb2 HEx x0 x1 x2
          have hfd := field0
          generalize filT t A B = c at *
          generalize filN p A = y at *
          generalize filN r B = z at *
          by_cases c3 : c = n
          · have hq : (c == n) = true := by rw [beq_iff_eq]; exact c3
            have HR : Hid (LeastP t p r n A B) := Lib.hid ⟨⟨⟨hA0, by omega⟩, ⟨hB0, by omega⟩, by have := HC.out; omega⟩, fun x y q => by have := HJ.out x y q; have := q.2.2; have := HC.out; omega⟩
            clear c3 HC
            go_wp2
            go_ret3
            exact ⟨hb3, Or.inl ⟨_, _, HR.out, rfl⟩⟩
          · have hq : (c == n) = false := by rw [beq_eq_false_iff_ne]; exact c3
            have HK : Hid (∀ x y, ReachP t p r n x y → A < x ∨ (x = A ∧ B + 1 ≤ y)) := Lib.hid (fun x y q => by
              have h6 := HJ.out x y q
              have h7 := q.2.2
              have h8 := HC.out
              by_cases hx : x = A ∧ y = B
              · obtain ⟨rfl, rfl⟩ := hx; exact absurd (h8.trans h7) c3
              · omega)
            clear c3 HC
            go_wp2
            go_roundw
            case rel => exact ⟨B + 1, by omega, by omega, by go_num, HK, HE2, hB3, hb3⟩
            case measure => simp [intOf]; omega
        · have HK : Hid (∀ x y, ReachP t p r n x y → A + 1 ≤ x) := Lib.hid (fun x y q => by have := HJ.out x y q; have := q.2.1.2; omega)
          go_wp2
          go_roundw
          case rel => exact ⟨A + 1, by omega, by omega, by go_num, HK, HEx, hBx, hbx⟩
          case measure => simp [intOf]; omega
    · have HR : Hid (∀ x y, ¬ ReachP t p r n x y) := Lib.hid (fun x y q => by have := HI.out x y q; have := q.1.2; omega)
      obtain ⟨hg, he⟩ := HE.out
      go_wp2_with fail
      go_region
      go_wp2
      go_ret3
      exact ⟨below_drewN hbr 1, Or.inr ⟨HR.out, rfl⟩⟩

set_option maxHeartbeats 4000000 in
theorem stI_any {w : World} {a : Addr} (t p r n : Int) (hE : ErrAt w a) :
    Calls Tryd.prog 10 #[.agg #[.int .i64 t, .int .i64 p, .int .i64 r], .int .i64 n] w (StAns w (stM t p r n)) := by
  have hb0 : Below w.heap.size w (w.alloc (.cells #[.int .i64 t, .int .i64 p, .int .i64 r] 25)) := (Below.refl _ _).alloc (Nat.le_refl _) _
  have hX := b3_new w t p r 25
  replace hE := hE.below hb0
  by_cases hs : tooB t p r = true
  · have HG := Lib.hid hs
    have hp := tooB_true.1 hs
    clear hs
    by_cases hn : 0 ≤ n ∧ n ≤ 6000
    · have HY := Lib.hid (fun a b q => stM_is (t := t) (p := p) (r := r) (n := n) (a := a) (b := b) hp hn q)
      have HZ := Lib.hid (fun q => stM_none (t := t) (p := p) (r := r) (n := n) q)
      have HN := Lib.hid hn
      have HP := Lib.hid hp
      generalize stM t p r n = R at *
      clear hn hp
      go_enter Tryd.func10, Tryd.ntmps10
      go_wp2_with fail
      generalize (w.alloc (.cells #[.int .i64 t, .int .i64 p, .int .i64 r] 25)) = W at *
      obtain ⟨bx, hbx⟩ : ∃ b, b = w.heap.size := ⟨_, rfl⟩
      rw [← hbx] at hX
      simp only [← hbx]
      clear hbx
      refine (toothI_any t p r).mono ?_
      rintro e w1 ⟨rfl, hb1⟩
      rw [HG.out]
      replace hX := hX.below hb1
      replace hE := hE.below hb1
      replace hb0 := bstep hb0 hb1
      clear hb1
      go_wp2_with fail
      refine (tone_yes n HN.out).mono ?_
      rintro e w2 ⟨rfl, rfl⟩
      obtain ⟨-, ⟨x0, x1, x2⟩, -⟩ := id hX
      go_wp2_with fail
      refine (filesto_any t p r n HP.out hE).mono ?_
      rintro e w3 ⟨hb1, hd⟩
      replace hE := hE.below hb1
      replace hb0 := bstep hb0 hb1
      clear hX hb1 x0 x1 x2
      obtain ⟨hg, he⟩ := hE
      rcases hd with ⟨x, y, hl, rfl⟩ | ⟨hno, rfl⟩
      · have HR := Lib.hid (HY.out x y hl)
        clear hl
        go_wp2_with fail
        refine (is_nil a _).mono ?_
        rintro e w4 ⟨rfl, rfl⟩
        go_wp2
        go_ret3
        exact ⟨by rw [HR.out]; rfl, hb0⟩
      · have HR := Lib.hid (HZ.out hno)
        clear hno
        go_wp2_with fail
        refine (is_same a _).mono ?_
        rintro e w4 ⟨rfl, rfl⟩
        go_wp2
        go_ret3
        exact ⟨by rw [HR.out]; rfl, hb0⟩
    · have HR := Lib.hid (stM_no (t := t) (p := p) (r := r) (n := n) fun q => hn q.2)
      clear hp
      go_enter Tryd.func10, Tryd.ntmps10
      go_wp2_with fail
      refine (toothI_any t p r).mono ?_
      rintro e w1 ⟨rfl, hb1⟩
      rw [HG.out]
      have g1 := bstep hb0 hb1
      clear hX hb0 hb1
      go_wp2_with fail
      refine (tone_no n hn).mono ?_
      rintro e w2 ⟨rfl, rfl⟩
      go_wp2
      go_ret3
      exact ⟨by rw [HR.out]; rfl, g1⟩
  · have HG : Hid (tooB t p r = false) := Lib.hid (by simpa using hs)
    have HR := Lib.hid (stM_no (t := t) (p := p) (r := r) (n := n) fun q => tooB_false.1 HG.out q.1)
    clear hs
    go_enter Tryd.func10, Tryd.ntmps10
    go_wp2_with fail
    refine (toothI_any t p r).mono ?_
    rintro e w1 ⟨rfl, hb1⟩
    rw [HG.out]
    have g1 := bstep hb0 hb1
    clear hX hb0 hb1
    go_wp2
    go_ret3
    exact ⟨by rw [HR.out]; rfl, g1⟩
end Go.Proofs.YtfkjaofepilnkaaDoor
