/- The contracts of the draw of a train: l10Gear, l10List, DrawTrain. No condition. -/
import Derived.Test.YtgkkapedhiipdaaGearSpec2
import Derived.Test.YtgkkapedhiipdaaDrawB
namespace Go.Proofs.Ytgkkapedhiipdaa
open Go.ChangeShapes Go.WideShapes Go.ChangeAt Go.RowKit

theorem Box2.grown {w w' : World} {b c : Nat} {x y : Value} (h : Box2 w b x y) (hg : w.grownBy w' (some c)) (hne : b ≠ c) : Box2 w' b x y := by
  have e : w'.heap[b]? = w.heap[b]? := hg.block b h.1 fun q => hne (by injection q)
  have ec : ∀ o, w'.cell? ⟨b, o, none⟩ = w.cell? ⟨b, o, none⟩ := fun o => by unfold World.cell?; simp only [e]
  have ef : ∀ o, w'.frozen? ⟨b, o, none⟩ = w.frozen? ⟨b, o, none⟩ := fun o => by unfold World.frozen?; simp only [e]
  exact ⟨Nat.lt_of_lt_of_le h.1 hg.size, ⟨(ec 0).trans h.2.1.1, (ec 1).trans h.2.1.2⟩, fun o => (ef o).trans (h.2.2 o)⟩
theorem gear_drawn {x y : Int} (hx : 0 ≤ x ∧ x ≤ 19) (hy : 0 ≤ y ∧ y ≤ 19) : GearP (6 + 2 * x, 6 + 3 * y) := ⟨⟨by omega, by omega⟩, ⟨by omega, by omega⟩⟩

set_option maxHeartbeats 1000000 in
theorem l10gear_any {B c : Nat} {w : World} (hC : Cur 60 B w c) :
    Calls Try.prog 41 #[.pointer (some ⟨c, 0, none⟩)] w fun e w' => ∃ p : Int × Int, GearP p ∧ e = .returned (.agg #[.int .i64 p.1, .int .i64 p.2]) ∧ w.grownBy w' (some c) ∧ Cur 60 B w' c := by
  have hcl := hC.lt
  have hBc := hC.1
  have hX := box2_new w (.int .i64 0) (.int .i64 0) 34
  have hCa : Cur 60 B (w.alloc (.cells #[.int .i64 0, .int .i64 0] 34)) c := hC.kept (only_alloc (World.grownBy.refl _ _) _) (row := none) (by intro r hr; cases hr)
  have hga : w.grownBy (w.alloc (.cells #[.int .i64 0, .int .i64 0] 34)) (some c) := only_alloc (World.grownBy.refl _ _) _
  go_enter Try.func41, Try.ntmps41
  go_wp2_with fail
  generalize w.alloc (.cells #[.int .i64 0, .int .i64 0] 34) = W at *
  obtain ⟨b, hb⟩ : ∃ b, b = w.heap.size := ⟨_, rfl⟩
  rw [← hb] at hX
  simp only [← hb]
  have hne : b ≠ c := by omega
  have hle : w.heap.size ≤ b := by omega
  have hBb : B ≤ b := by omega
  clear hb
  refine (below_any 20 (by omega) (by omega) hCa).mono ?_
  rintro e w1 ⟨x, hx0, hx1, rfl, hg1, hC1⟩
  have hX1 := hX.grown hg1 hne
  have hgb := only_trans hga hg1
  clear hCa hga hg1 hX
  have ex1 : IntKind.i64.wrap (2 * x) = 2 * x := IntWalk.i64_in _ (by omega)
  have ex2 : IntKind.i64.wrap (6 + 2 * x) = 6 + 2 * x := IntWalk.i64_in _ (by omega)
  go_wp2_with fail
  refine (below_any 20 (by omega) (by omega) hC1).mono ?_
  rintro e w2 ⟨y, hy0, hy1, rfl, hg2, hC2⟩
  have hX2 := hX1.grown hg2 hne
  have hgc := only_trans hgb hg2
  clear hC1 hg2 hX1 hgb
  have ey1 : IntKind.i64.wrap (3 * y) = 3 * y := IntWalk.i64_in _ (by omega)
  have ey2 : IntKind.i64.wrap (6 + 3 * y) = 6 + 3 * y := IntWalk.i64_in _ (by omega)
  have HG : Hid (GearP (6 + 2 * x, 6 + 3 * y)) := Lib.hid (gear_drawn ⟨hx0, by omega⟩ ⟨hy0, by omega⟩)
  obtain ⟨-, ⟨x0, x1⟩, xf⟩ := id hX2
  have xf0 := xf 0
  have xf1 := xf 1
  obtain ⟨-, ⟨z0, z1⟩, zf⟩ := wr2_same hX2 (.int .i64 (6 + 2 * x)) (.int .i64 (6 + 3 * y))
  have q2 : (w2.setCell ⟨b, 0, none⟩ (.int .i64 (6 + 2 * x))).cell? ⟨b, 1, none⟩ = some (.int .i64 0) := by rw [World.cell?_setCell_other (h := by simp)]; exact x1
  have hgd : w.grownBy (wr2 w2 b (.int .i64 (6 + 2 * x)) (.int .i64 (6 + 3 * y))) (some c) := by
    unfold wr2; exact only_setCell (only_setCell hgc (Or.inr hle) _) (Or.inr hle) _
  have hCd : Cur 60 B (wr2 w2 b (.int .i64 (6 + 2 * x)) (.int .i64 (6 + 3 * y))) c := by
    have hk : w2.grownBy (wr2 w2 b (.int .i64 (6 + 2 * x)) (.int .i64 (6 + 3 * y))) (some b) := by
      have h1 := only_setCell (g := b) (World.grownBy.refl w2 (some b)) (p := ⟨b, 0, none⟩) (Or.inl rfl) (.int .i64 (6 + 2 * x))
      exact only_setCell h1 (p := ⟨b, 1, none⟩) (Or.inl rfl) _
    exact hC2.kept hk fun r hr => by injection hr with hr; subst hr; exact ⟨hBb, hne⟩
  unfold wr2 at z0 z1 hgd hCd
  clear hX2 hgc hC2 hC
  go_wp2
  exact bodyPost_ret (v := .agg #[.int .i64 (6 + 2 * x), .int .i64 (6 + 3 * y)]) (by simp [results, Try.results41, go_sem, z0, z1]) rfl ⟨_, HG.out, rfl, hgd, hCd⟩

theorem apart_cur {a b : World} {c e s n : Nat} {v : Value} {xs : List Value} (h : b.ownsRow a.heap.size e s v n xs) (hc : c < a.heap.size) : v.ownBlock = none ∨ v.ownBlock ≠ some c := by
  cases h1 : v.ownBlock with
  | none => exact Or.inl rfl
  | some k => exact Or.inr (fun e => by have := (h.lt k h1).1; injection e; omega)
theorem grow_row {w b b' : World} {row row' : Option Nat} (h : w.grownBy b row) (k : b.grownBy b' row') (hr : ∀ j, row' = some j → w.heap.size ≤ j) : w.grownBy b' row :=
  ⟨k.os.trans h.os, k.tape.trans h.tape, k.output.trans h.output, Nat.le_trans h.size k.size, fun i hi hne => (k.block i (Nat.lt_of_lt_of_le hi h.size) (fun e => by have := hr i e.symm; omega)).trans (h.block i hi hne)⟩

set_option maxHeartbeats 2000000 in
theorem l10list_any {B c : Nat} {w : World} (hC : Cur 60 B w c) :
    Calls Try.prog 31 #[.pointer (some ⟨c, 0, none⟩)] w fun e w' => ∃ l v, (l.length ≤ 3 ∧ ∀ p ∈ l, GearP p) ∧ e = .returned v ∧ w'.ownsRow w.heap.size 34 2 v l.length (flat2 l) ∧ w.grownBy w' (some c) := by
  obtain ⟨i0, hi, hz0, hz1, hz2⟩ := info_parts infoGear
  have hcl := hC.lt
  go_enter Try.func31, Try.ntmps31
  go_wp2_with fail
  have hCa : Cur 60 B (w.alloc (.cells #[] 34)) c := hC.kept (only_alloc (World.grownBy.refl _ _) _) (row := none) (by intro r hr; cases hr)
  have hoa : (w.alloc (.cells #[] 34)).ownsRow w.heap.size 34 2 (.slice (some ⟨w.heap.size, 0, none⟩) 0 0) 0 (flat2 []) := World.ownsRow_made w #[] 0 (Nat.le_refl _) (by simp) rfl
  have hga : w.grownBy (w.alloc (.cells #[] 34)) (some c) := only_alloc (World.grownBy.refl _ _) _
  refine (below_any 4 (by omega) (by omega) hCa).mono ?_
  rintro e w1 ⟨n, hn0, hn1, rfl, hg1, hC1⟩
  obtain ⟨m, rfl⟩ := Int.eq_ofNat_of_zero_le hn0
  have hne : w.heap.size ≠ c := by omega
  have ho1 := hoa.kept hg1 (Or.inr (by simp [Value.ownBlock]; exact hne))
  have hgt := only_trans hga hg1
  clear hCa hoa hga hg1
  go_wp2_with fail
  go_loopw [3, 5] (fun v3 v5 wr => ∃ (k : Nat) (l : List (Int × Int)), k ≤ m ∧ l.length = k ∧ Hid (∀ p ∈ l, GearP p) ∧ v5 = .int .i64 k ∧ wr.ownsRow w.heap.size 34 2 v3 k (flat2 l) ∧ Cur 60 B wr c ∧ w.grownBy wr (some c)) (fun _ v5 _ => m - (intOf v5).toNat)
  case atStart => exact ⟨0, [], Nat.zero_le _, rfl, Lib.hid (fun p hp => by cases hp), rfl, ho1, hC1, hgt⟩
  case round =>
    obtain ⟨k, l, hk, hlk, HD, rfl, hown, hCr, hgr⟩ := hrel
    have HLK := Lib.hid hlk; clear hlk ho1 hC1 hgt
    by_cases hlt : k < m
    · go_wp2_with fail
      refine (l10gear_any hCr).mono ?_
      rintro e w2 ⟨p, hp, rfl, hg2, hC2⟩
      have ho2 := hown.kept hg2 (apart_cur hown hcl)
      have hgr2 := only_trans hgr hg2
      have HP := Lib.hid hp
      clear hCr hown hgr hg2 hp
      have hls : Hid (∀ q ∈ l ++ [p], GearP q) := Lib.hid (fun q hq => by
        rcases List.mem_append.1 hq with h | h
        · exact HD.out q h
        · rw [List.mem_singleton] at h; subst h; exact HP.out)
      have ho3 := ho2.alloc (.cells #[.int .i64 p.1, .int .i64 p.2] 34)
      have hgr3 := only_alloc hgr2 (.cells #[.int .i64 p.1, .int .i64 p.2] 34)
      have hC3 : Cur 60 B (w2.alloc (.cells #[.int .i64 p.1, .int .i64 p.2] 34)) c := hC2.kept (only_alloc (World.grownBy.refl _ _) _) (row := none) (by intro r hr; cases hr)
      obtain ⟨-, ⟨x0, x1⟩, -⟩ := box2_new w2 (.int .i64 p.1) (.int .i64 p.2) 34
      clear ho2 hgr2 hC2
      have hsz : w.heap.size ≤ (w2.alloc (.cells #[.int .i64 p.1, .int .i64 p.2] 34)).heap.size := hgr3.size
      go_wp2_with (at_builtin; refine wpList_append_own _ rfl _ _ 24 rfl w.heap.size 34 i0 _ 2 16 Try.underlying24 hi hz0 hz1 hz2 rfl (by decide) _ k (flat2 l) rfl (ho3.alloc _) ⟨(w2.alloc (.cells #[.int .i64 p.1, .int .i64 p.2] 34)).heap.size, 0, none⟩ 1 1 (flat2 [p]) (by simp [go_sem]) rfl ?c2 (flat2_one _) ?c3 ?c4 ?c5 ?_)
      case c2 => exact World.news_of_block (heap_alloc_new (w2.alloc (.cells #[.int .i64 p.1, .int .i64 p.2] 34)) _)
      case c3 => unfold maxLen; omega
      case c4 => omega
      case c5 => simp only [size_alloc] at hsz ⊢; omega
      intro v' w4 hown4 hgrow _
      have hgr4 : w.grownBy w4 (some c) := grow_row (only_alloc hgr3 _) hgrow (fun j hj => (ho3.lt j hj).1)
      have hC4 : Cur 60 B w4 c := by
        have h1 : Cur 60 B ((w2.alloc (.cells #[.int .i64 p.1, .int .i64 p.2] 34)).alloc (.cells #[.int .i64 p.1, .int .i64 p.2] 34)) c := hC3.kept (only_alloc (World.grownBy.refl _ _) _) (row := none) (by intro r hr; cases hr)
        exact h1.kept hgrow (fun r hr => by
          have h2 := (ho3.lt r hr).1
          have h3 := hC3.1
          exact ⟨by omega, by omega⟩)
      have hown5 : w4.ownsRow w.heap.size 34 2 v' (k + 1) (flat2 (l ++ [p])) := by rw [flat2_append]; exact hown4
      have HL1 : Hid ((l ++ [p]).length = k + 1) := Lib.hid (by rw [List.length_append, HLK.out]; rfl)
      clear ho3 hC3 hgr3 hown4 hgrow x0 x1
      go_wp2
      go_roundw
      case rel => exact ⟨k + 1, _, by omega, HL1.out, hls, by go_num, hown5, hC4, hgr4⟩
      case measure => simp [intOf]; omega
    · have hkm : k = m := by omega
      have HL3 : Hid (l.length ≤ 3) := Lib.hid (by have := HLK.out; omega)
      have HO : Hid (wr.ownsRow w.heap.size 34 2 u3 l.length (flat2 l)) := Lib.hid (by rw [HLK.out]; exact hown)
      go_wp2
      go_ret
      exact ⟨l, _, ⟨HL3.out, HD.out⟩, rfl, HO.out, hgr⟩

theorem drawtrain_any {w : World} {v : Value} {n : Nat} (hC : Code w w.heap.size v n) :
    Calls Try.prog 11 #[v] w fun e w' => ∃ l v, (l.length ≤ 3 ∧ ∀ p ∈ l, GearP p) ∧ e = .returned v ∧ w'.ownsRow w.heap.size 34 2 v l.length (flat2 l) ∧ Below w.heap.size w w' := by
  go_enter Try.func11, Try.ntmps11
  go_wp2_with fail
  refine (new_any hC).mono ?_
  rintro e w1 ⟨c, rfl, hb1, hC1⟩
  go_wp2_with fail
  refine (l10list_any hC1).mono ?_
  rintro e w2 ⟨t, v2, ht, rfl, ho2, hg2⟩
  have hb2 := hb1.grown hg2 hb1.size (fun k hk => by injection hk with e; rw [← e]; exact hC1.1)
  have ho3 := ownS_mono ho2 hb1.size
  go_wp2
  go_ret
  exact ⟨t, v2, ht, rfl, ho3, hb2⟩
end Go.Proofs.Ytgkkapedhiipdaa
