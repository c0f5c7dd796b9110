/- The contracts of chapter 10's model, further: TurnsOf, TurnTrain, GearsFor. No condition. -/
import Derived.Test.YtjikpkigncomfaaGearSpec
import Derived.Test.YtjikpkigncomfaaGearApp
namespace Go.Proofs.Ytjikpkigncomfaa
open Go.ChangeShapes Go.WideShapes Go.ChangeAt Go.RowKit

theorem wrap_as {x P : Int} (h : x = P) (h0 : 0 ≤ P) (h1 : P ≤ 1000000000000000) : IntKind.i64.wrap x = P ∧ wrap64 x = P := by
  subst h
  have e : IntKind.i64.wrap x = x := IntWalk.i64_in _ (by omega)
  exact ⟨e, by unfold wrap64; omega⟩
/-- The last j gears, turned around. -/
def lastG (l : List (Int × Int)) (j : Nat) : List (Int × Int) := (l.drop (l.length - j)).reverse.map swapG
theorem lastG_len {l : List (Int × Int)} {j : Nat} (h : j ≤ l.length) : (lastG l j).length = j := by
  unfold lastG; rw [List.length_map, List.length_reverse, List.length_drop]; omega
theorem lastG_next {l : List (Int × Int)} {k : Nat} {q : Int × Int} (h : l[k]? = some q) : lastG l (l.length - k) = lastG l (l.length - (k + 1)) ++ [(q.2, q.1)] := by
  obtain ⟨hk, e⟩ := List.getElem?_eq_some_iff.1 h
  unfold lastG
  rw [show l.length - (l.length - k) = k by omega, show l.length - (l.length - (k + 1)) = k + 1 by omega, List.drop_eq_getElem_cons hk, e, List.reverse_cons, List.map_append]
  rfl
theorem lastG_all (l : List (Int × Int)) : lastG l l.length = l.reverse.map swapG := by unfold lastG; rw [Nat.sub_self]; rfl

/-! ### a boxed gear -/
def Box2 (w : World) (b : Nat) (x y : Value) : Prop := b < w.heap.size ∧ (w.cell? ⟨b, 0, none⟩ = some x ∧ w.cell? ⟨b, 1, none⟩ = some y) ∧ ∀ o, w.frozen? ⟨b, o, none⟩ = false
theorem box2_new (w : World) (x y : Value) (ty : TypeId) : Box2 (w.alloc (.cells #[x, y] ty)) w.heap.size x y :=
  ⟨by simp, ⟨by simp [go_sem], by simp [go_sem]⟩, fun o => by simp [go_sem]⟩
theorem Box2.below {w w' : World} {b : Nat} {x y : Value} (h : Box2 w b x y) (hb : Below w.heap.size w w') : Box2 w' b x y :=
  ⟨Nat.lt_of_lt_of_le h.1 hb.size, ⟨kept_b hb h.2.1.1, kept_b hb h.2.1.2⟩, fun o => (hb.frozen (p := ⟨b, o, none⟩) h.1).trans (h.2.2 o)⟩
def wr2 (w : World) (b : Nat) (x y : Value) : World := (w.setCell ⟨b, 0, none⟩ x).setCell ⟨b, 1, none⟩ y
theorem read2 {w : World} {b : Nat} {x0 y0 : Value} (h : Box2 w b x0 y0) (x y : Value) : (w.setCell ⟨b, 0, none⟩ x).cell? ⟨b, 0, none⟩ = some x ∧ ((w.setCell ⟨b, 0, none⟩ x).setCell ⟨b, 1, none⟩ y).cell? ⟨b, 1, none⟩ = some y :=
  ⟨World.cell?_setCell_same _ _ _ h.2.1.1, World.cell?_setCell_same _ _ _ (by rw [World.cell?_setCell_other (h := by simp)]; exact h.2.1.2)⟩
theorem frz_set (w : World) (p : Addr) (v : Value) (a : Addr) : (w.setCell p v).frozen? a = w.frozen? a := by simp [go_sem]
theorem wr2_same {w : World} {b : Nat} {x0 y0 : Value} (h : Box2 w b x0 y0) (x y : Value) : Box2 (wr2 w b x y) b x y := by
  obtain ⟨k0, k1⟩ := read2 h x y
  refine ⟨by unfold wr2; simp; exact h.1, ⟨?_, k1⟩, fun o => by unfold wr2; rw [frz_set, frz_set]; exact h.2.2 o⟩
  unfold wr2; rw [World.cell?_setCell_other (h := by simp)]; exact k0
theorem wr2_other {w : World} {b c : Nat} {x0 y0 : Value} (h : Box2 w c x0 y0) (hne : b ≠ c) (x y : Value) : Box2 (wr2 w b x y) c x0 y0 := by
  refine ⟨by unfold wr2; simp; exact h.1, ⟨?_, ?_⟩, fun o => by unfold wr2; rw [frz_set, frz_set]; exact h.2.2 o⟩ <;> (unfold wr2; rw [World.cell?_setCell_far _ _ _ _ hne, World.cell?_setCell_far _ _ _ _ hne])
  · exact h.2.1.1
  · exact h.2.1.2
theorem wr2_below {w0 w : World} {B b : Nat} (h : Below B w0 w) (hb : B ≤ b) (x y : Value) : Below B w0 (wr2 w b x y) := by unfold wr2; exact (h.setCell hb _).setCell hb _

theorem wr2_cell (w : World) {b c o : Nat} (x y : Value) (hne : b ≠ c) : (wr2 w b x y).cell? ⟨c, o, none⟩ = w.cell? ⟨c, o, none⟩ := by
  unfold wr2; rw [World.cell?_setCell_far _ _ _ _ hne, World.cell?_setCell_far _ _ _ _ hne]

/-- The answer of GearsFor. -/
def GearAns (w : World) (g : Int × Int) (b : Bool) (e : Ending) (w' : World) : Prop := e = .returned (.tuple #[.agg #[.int .i64 g.1, .int .i64 g.2], .bool b]) ∧ Below w.heap.size w w'

set_option maxHeartbeats 4000000 in
theorem gforG_any {w : World} (top bottom : Int) :
    Calls Try.prog 18 #[.int .i64 top, .int .i64 bottom] w (GearAns w (gearsM top bottom).1 (gearsM top bottom).2) := by
  have hb0 : Below w.heap.size w (w.alloc (.cells #[.int .i64 0, .int .i64 0] 31)) := (Below.refl _ _).alloc (Nat.le_refl _) _
  by_cases h1 : 1 ≤ top ∧ top ≤ 10000
  · by_cases h2 : 1 ≤ bottom ∧ bottom ≤ 10000
    · have HS := Lib.hid (fun a q => gearsM_some (a := a) ⟨h1, h2⟩ q)
      have HN := Lib.hid (fun q => gearsM_none (top := top) (bottom := bottom) ⟨h1, h2⟩ q)
      have h1a := h1.1
      have h1b := h1.2
      have h2a := h2.1
      have h2b := h2.2
      have HH1 := Lib.hid h1
      have HH2 := Lib.hid h2
      clear h1 h2
      have htz : (top == 0) = false := by rw [beq_eq_false_iff_ne]; omega
      have htn : ¬ top = 0 := by omega
      go_enter Try.func18, Try.ntmps18
      go_wp2_with fail
      refine (in_yes _ _ _ HH1.out _).mono ?_
      rintro e w1 ⟨rfl, rfl⟩
      go_wp2_with fail
      refine (in_yes _ _ _ HH2.out _).mono ?_
      rintro e w1 ⟨rfl, rfl⟩
      have hX := box2_new w (.int .i64 0) (.int .i64 0) 31
      go_wp2_with fail
      generalize w.alloc (.cells #[.int .i64 0, .int .i64 0] 31) = W at *
      obtain ⟨bx, hbx⟩ : ∃ b, b = w.heap.size := ⟨_, rfl⟩
      rw [← hbx] at hX
      simp only [← hbx]
      have hle : w.heap.size ≤ bx := by omega
      clear hbx
      go_loopw [6] (fun v6 wr => ∃ k : Nat, k ≤ 115 ∧ v6 = .int .i64 (6 + (k : Int)) ∧ Hid (firstA top bottom 6 115 = firstA top bottom (6 + (k : Int)) (115 - k)) ∧ Box2 wr bx (.int .i64 0) (.int .i64 0) ∧ Below w.heap.size w wr) (fun v6 _ => (121 - intOf v6).toNat)
      case atStart => exact ⟨0, by omega, rfl, Lib.hid rfl, hX, hb0⟩
      case round =>
        obtain ⟨k, hk, rfl, HF, hB, hbr⟩ := hrel
        clear hX hb0
        obtain ⟨-, ⟨x0, x1⟩, xf⟩ := id hB
        have xf0 := xf 0
        have xf1 := xf 1
        by_cases hlt : k < 115
        · obtain ⟨m, hm⟩ : ∃ m, 115 - k = m + 1 := ⟨114 - k, by omega⟩
          have hm' : 115 - (k + 1) = m := by omega
          rw [hm] at HF
          obtain ⟨A, hA⟩ : ∃ A, 6 + (k : Int) = A := ⟨_, rfl⟩
          have hA2 : 6 + ((k + 1 : Nat) : Int) = A + 1 := by omega
          have hA0 : 6 ≤ A := by omega
          have hA1 : A ≤ 120 := by omega
          rw [hA] at HF
          rw [hA]
          have hp1 : A * bottom ≤ 120 * 10000 := Int.mul_le_mul hA1 h2b (by omega) (by omega)
          have hp0 : 0 ≤ A * bottom := Int.mul_nonneg (by omega) (by omega)
          have HMS : Hid (¬ GoodA top bottom A → firstA top bottom 6 115 = firstA top bottom (A + 1) m) := Lib.hid fun q => HF.out.trans (firstA_miss q)
          have HHT : Hid (GoodA top bottom A → gearsM top bottom = ((A, A * bottom / top), true)) := Lib.hid fun q => HS.out A (HF.out.trans (firstA_hit q))
          have HGD : Hid (GoodA top bottom A ↔ A * bottom % top = 0 ∧ 6 ≤ A * bottom / top ∧ A * bottom / top ≤ 120) := Lib.hid Iff.rfl
          obtain ⟨P, hP⟩ : ∃ P, A * bottom = P := ⟨_, rfl⟩
          rw [hP] at hp0 hp1 HHT HGD
          obtain ⟨ew1, ew2⟩ := wrap_as hP (by omega) (by omega)
          clear hP
          have htm : P.tmod top = P % top := Int.tmod_eq_emod_of_nonneg hp0
          have htd : P.tdiv top = P / top := Int.tdiv_eq_ediv_of_nonneg hp0
          have hd0 : 0 ≤ P / top := Int.ediv_nonneg hp0 (by omega)
          have hd1 : P / top ≤ P := Int.ediv_le_self _ hp0
          have ewd : IntKind.i64.wrap (P / top) = P / top := IntWalk.i64_in _ (by omega)
          by_cases h0 : P % top = 0
          · have hz : (P % top == 0) = true := by rw [beq_iff_eq]; exact h0
            generalize hQ : P / top = Q at *
            by_cases hg : gearB (A, Q) = true
            · have HG := Lib.hid hg
              have HR := Lib.hid (HHT.out (HGD.out.2 ⟨h0, (gearB_true.1 hg).2⟩))
              clear hg
              have hbA : Below wr.heap.size wr (wr.alloc (.cells #[.int .i64 A, .int .i64 Q] 31)) := (Below.refl _ _).alloc (Nat.le_refl _) _
              have hY := box2_new wr (.int .i64 A) (.int .i64 Q) 31
              have hX := hB.below hbA
              have hb3 := bstep hbr hbA
              clear hB hbA hbr x0 x1 xf xf0 xf1
              go_wp2_with fail
              generalize wr.alloc (.cells #[.int .i64 A, .int .i64 Q] 31) = W2 at *
              generalize wr.heap.size = by2 at *
              refine (gearG_any (A, Q)).mono ?_
              rintro e w2 ⟨rfl, hb2⟩
              rw [HG.out]
              have hY2 := hY.below hb2
              have hX2 := hX.below hb2
              have hb4 := bstep hb3 hb2
              clear hY hX hb3 hb2
              obtain ⟨-, ⟨y0, y1⟩, -⟩ := id hY2
              obtain ⟨-, ⟨x0, x1⟩, xf⟩ := id hX2
              have xf0 := xf 0
              have xf1 := xf 1
              obtain ⟨-, ⟨z0, z1⟩, zf⟩ := wr2_same hX2 (.int .i64 A) (.int .i64 Q)
              have hb5 := wr2_below hb4 hle (.int .i64 A) (.int .i64 Q)
              obtain ⟨q0, q1⟩ := read2 hX2 (.int .i64 A) (.int .i64 Q)
              have q2 : (w2.setCell ⟨bx, 0, none⟩ (.int .i64 A)).cell? ⟨bx, 1, none⟩ = some (.int .i64 0) := by rw [World.cell?_setCell_other (h := by simp)]; exact x1
              unfold wr2 at z0 z1 hb5
              clear hY2 hX2 hb4
              go_wp2
              exact bodyPost_ret (v := .tuple #[.agg #[.int .i64 A, .int .i64 Q], .bool true]) (by simp [results, Try.results18, go_sem, z0, z1]) rfl ⟨by rw [HR.out], hb5⟩
            · have HG : Hid (gearB (A, Q) = false) := Lib.hid (by simpa using hg)
              have HN2 : Hid (firstA top bottom 6 115 = firstA top bottom (6 + ((k + 1 : Nat) : Int)) (115 - (k + 1))) := Lib.hid (by rw [hA2, hm']; exact HMS.out fun q => gearB_false.1 HG.out ⟨⟨hA0, hA1⟩, (HGD.out.1 q).2⟩)
              clear hg
              have hbA : Below wr.heap.size wr (wr.alloc (.cells #[.int .i64 A, .int .i64 Q] 31)) := (Below.refl _ _).alloc (Nat.le_refl _) _
              have hY := box2_new wr (.int .i64 A) (.int .i64 Q) 31
              have hX := hB.below hbA
              have hb3 := bstep hbr hbA
              clear hB hbA hbr x0 x1 xf xf0 xf1
              go_wp2_with fail
              generalize wr.alloc (.cells #[.int .i64 A, .int .i64 Q] 31) = W2 at *
              generalize wr.heap.size = by2 at *
              refine (gearG_any (A, Q)).mono ?_
              rintro e w2 ⟨rfl, hb2⟩
              rw [HG.out]
              have hY2 := hY.below hb2
              have hX2 := hX.below hb2
              have hb4 := bstep hb3 hb2
              clear hY hX hb3 hb2
              go_wp2
              go_roundw
              case rel => exact ⟨k + 1, by omega, by rw [hA2], HN2, hX2, hb4⟩
              case measure => simp [intOf]; omega
          · have hz : (P % top == 0) = false := by rw [beq_eq_false_iff_ne]; exact h0
            have HN2 : Hid (firstA top bottom 6 115 = firstA top bottom (6 + ((k + 1 : Nat) : Int)) (115 - (k + 1))) := Lib.hid (by rw [hA2, hm']; exact HMS.out fun q => h0 (HGD.out.1 q).1)
            go_wp2
            go_roundw
            case rel => exact ⟨k + 1, by omega, by rw [hA2], HN2, hB, hbr⟩
            case measure => simp [intOf]; omega
        · obtain rfl : k = 115 := by omega
          have HR := Lib.hid (HN.out HF.out)
          obtain ⟨-, ⟨z0, z1⟩, zf⟩ := wr2_same hB (.int .i64 0) (.int .i64 0)
          have hb5 := wr2_below hbr hle (.int .i64 0) (.int .i64 0)
          have q2 : (wr.setCell ⟨bx, 0, none⟩ (.int .i64 0)).cell? ⟨bx, 1, none⟩ = some (.int .i64 0) := by rw [World.cell?_setCell_other (h := by simp)]; exact x1
          unfold wr2 at z0 z1 hb5
          clear hB hbr
          go_wp2
          exact bodyPost_ret (v := .tuple #[.agg #[.int .i64 0, .int .i64 0], .bool false]) (by simp [results, Try.results18, go_sem, z0, z1]) rfl ⟨by rw [HR.out], hb5⟩
    · have HR := Lib.hid (gearsM_no (top := top) (bottom := bottom) fun q => h2 q.2)
      have hX := box2_new w (.int .i64 0) (.int .i64 0) 31
      go_enter Try.func18, Try.ntmps18
      go_wp2_with fail
      refine (in_yes _ _ _ h1 _).mono ?_
      rintro e w1 ⟨rfl, rfl⟩
      go_wp2_with fail
      refine (in_no _ _ _ h2 _).mono ?_
      rintro e w1 ⟨rfl, rfl⟩
      obtain ⟨-, ⟨x0, x1⟩, xf⟩ := id hX
      have xf0 := xf 0
      have xf1 := xf 1
      obtain ⟨-, ⟨z0, z1⟩, zf⟩ := wr2_same hX (.int .i64 0) (.int .i64 0)
      have hb5 := wr2_below hb0 (Nat.le_refl _) (.int .i64 0) (.int .i64 0)
      have q2 : ((w.alloc (.cells #[.int .i64 0, .int .i64 0] 31)).setCell ⟨w.heap.size, 0, none⟩ (.int .i64 0)).cell? ⟨w.heap.size, 1, none⟩ = some (.int .i64 0) := by rw [World.cell?_setCell_other (h := by simp)]; exact x1
      unfold wr2 at z0 z1 hb5
      clear hX hb0
      generalize w.alloc (.cells #[.int .i64 0, .int .i64 0] 31) = W at *
      go_wp2
      exact bodyPost_ret (v := .tuple #[.agg #[.int .i64 0, .int .i64 0], .bool false]) (by simp [results, Try.results18, go_sem, z0, z1]) rfl ⟨by rw [HR.out], hb5⟩
  · have HR := Lib.hid (gearsM_no (top := top) (bottom := bottom) fun q => h1 q.1)
    have hX := box2_new w (.int .i64 0) (.int .i64 0) 31
    go_enter Try.func18, Try.ntmps18
    go_wp2_with fail
    refine (in_no _ _ _ h1 _).mono ?_
    rintro e w1 ⟨rfl, rfl⟩
    obtain ⟨-, ⟨x0, x1⟩, xf⟩ := id hX
    have xf0 := xf 0
    have xf1 := xf 1
    obtain ⟨-, ⟨z0, z1⟩, zf⟩ := wr2_same hX (.int .i64 0) (.int .i64 0)
    have hb5 := wr2_below hb0 (Nat.le_refl _) (.int .i64 0) (.int .i64 0)
    have q2 : ((w.alloc (.cells #[.int .i64 0, .int .i64 0] 31)).setCell ⟨w.heap.size, 0, none⟩ (.int .i64 0)).cell? ⟨w.heap.size, 1, none⟩ = some (.int .i64 0) := by rw [World.cell?_setCell_other (h := by simp)]; exact x1
    unfold wr2 at z0 z1 hb5
    clear hX hb0
    generalize w.alloc (.cells #[.int .i64 0, .int .i64 0] 31) = W at *
    go_wp2
    exact bodyPost_ret (v := .tuple #[.agg #[.int .i64 0, .int .i64 0], .bool false]) (by simp [results, Try.results18, go_sem, z0, z1]) rfl ⟨by rw [HR.out], hb5⟩
end Go.Proofs.Ytjikpkigncomfaa
