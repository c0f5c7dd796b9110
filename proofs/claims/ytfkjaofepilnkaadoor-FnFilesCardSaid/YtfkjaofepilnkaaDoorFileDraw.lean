/- The contract of the draw of a valid tooth: l15Tooth, DrawTooth; a code's byte read in any later world. No condition. -/
import Derived.Test.YtfkjaofepilnkaaDoorFileSpec
import Derived.Test.YtfkjaofepilnkaaDoorDrawB
namespace Go.Proofs.YtfkjaofepilnkaaDoor
open Go.ChangeShapes Go.WideShapes Go.ChangeAt Go.RowKit

def DrwP (t p r : Int) : Prop := (1200 ≤ t ∧ t ≤ 1449) ∧ (0 ≤ p ∧ p ≤ 8) ∧ (0 ≤ r ∧ r ≤ 8)
theorem B3.grown {w w' : World} {b c : Nat} {t m f : Int} (h : B3 w b t m f) (hg : w.grownBy w' (some c)) (hne : b ≠ c) : B3 w' b t m f := by
  have e : w'.heap[b]? = w.heap[b]? := hg.block b h.1 fun q => hne (by injection q)
  have ec : ∀ o, w'.cell? ⟨b, o, none⟩ = w.cell? ⟨b, o, none⟩ := fun o => by unfold World.cell?; simp only [e]
  have ef : ∀ o, w'.frozen? ⟨b, o, none⟩ = w.frozen? ⟨b, o, none⟩ := fun o => by unfold World.frozen?; simp only [e]
  exact ⟨Nat.lt_of_lt_of_le h.1 hg.size, ⟨(ec 0).trans h.2.1.1, (ec 1).trans h.2.1.2.1, (ec 2).trans h.2.1.2.2⟩, fun o => (ef o).trans (h.2.2 o)⟩

set_option maxHeartbeats 1000000 in
theorem l15tooth_any {B c : Nat} {w : World} (hC : Cur 51 B w c) :
    Calls Tryd.prog 15 #[.pointer (some ⟨c, 0, none⟩)] w fun e w' => ∃ t p r : Int, DrwP t p r ∧ e = .returned (.agg #[.int .i64 t, .int .i64 p, .int .i64 r]) ∧ w.grownBy w' (some c) ∧ Cur 51 B w' c := by
  have hcl := hC.lt
  have hBc := hC.1
  have hX := b3_new w 0 0 0 25
  have hCa : Cur 51 B (w.alloc (.cells #[.int .i64 0, .int .i64 0, .int .i64 0] 25)) c := hC.kept (only_alloc (World.grownBy.refl _ _) _) (row := none) (by intro r hr; cases hr)
  have hga : w.grownBy (w.alloc (.cells #[.int .i64 0, .int .i64 0, .int .i64 0] 25)) (some c) := only_alloc (World.grownBy.refl _ _) _
  go_enter Tryd.func15, Tryd.ntmps15
  go_wp2_with fail
  generalize w.alloc (.cells #[.int .i64 0, .int .i64 0, .int .i64 0] 25) = W at *
  obtain ⟨b, hb⟩ : ∃ b, b = w.heap.size := ⟨_, rfl⟩
  rw [← hb] at hX
  simp only [← hb]
  have hne : b ≠ c := by omega
  have hle : w.heap.size ≤ b := by omega
  have hBb : B ≤ b := by omega
  clear hb
  refine (below_any 250 (by omega) (by omega) hCa).mono ?_
  rintro e w1 ⟨x, hx0, hx1, rfl, hg1, hC1⟩
  have hX1 := hX.grown hg1 hne
  have hgb := only_trans hga hg1
  clear hCa hga hg1 hX
  have ex1 : IntKind.i64.wrap (1200 + x) = 1200 + x := IntWalk.i64_in _ (by omega)
  go_wp2_with fail
  refine (below_any 9 (by omega) (by omega) hC1).mono ?_
  rintro e w2 ⟨y, hy0, hy1, rfl, hg2, hC2⟩
  have hX2 := hX1.grown hg2 hne
  have hgc := only_trans hgb hg2
  clear hC1 hg2 hX1 hgb
  go_wp2_with fail
  refine (below_any 9 (by omega) (by omega) hC2).mono ?_
  rintro e w3 ⟨z, hz0, hz1, rfl, hg3, hC3⟩
  have hX3 := hX2.grown hg3 hne
  have hgd := only_trans hgc hg3
  clear hC2 hg3 hX2 hgc
  have HG : Hid (DrwP (1200 + x) y z) := Lib.hid ⟨⟨by omega, by omega⟩, ⟨by omega, by omega⟩, by omega, by omega⟩
  obtain ⟨-, ⟨x0, x1, x2⟩, xf⟩ := id hX3
  have xf0 := xf 0
  have xf1 := xf 1
  have xf2 := xf 2
  obtain ⟨⟨-, ⟨z0, z1, z2⟩, -⟩, q1, q2⟩ := b3_all hX3 (1200 + x) y z
  have hge : w.grownBy (wrS w3 b (1200 + x) y z) (some c) := by
    unfold wrS; exact only_setCell (only_setCell (only_setCell hgd (Or.inr hle) _) (Or.inr hle) _) (Or.inr hle) _
  have hCd : Cur 51 B (wrS w3 b (1200 + x) y z) c := by
    have hk : w3.grownBy (wrS w3 b (1200 + x) y z) (some b) := by
      have h1 := only_setCell (g := b) (World.grownBy.refl w3 (some b)) (p := ⟨b, 0, none⟩) (Or.inl rfl) (.int .i64 (1200 + x))
      have h2 := only_setCell h1 (p := ⟨b, 1, none⟩) (Or.inl rfl) (.int .i64 y)
      exact only_setCell h2 (p := ⟨b, 2, none⟩) (Or.inl rfl) _
    exact hC3.kept hk fun r hr => by injection hr with hr; subst hr; exact ⟨hBb, hne⟩
  unfold wrS at z0 z1 z2 hge hCd
  clear hX3 hgd hC3 hC
  go_wp2
  exact bodyPost_ret (v := .agg #[.int .i64 (1200 + x), .int .i64 y, .int .i64 z]) (by simp [results, Tryd.results15, go_sem, z0, z1, z2]) rfl ⟨_, _, _, HG.out, rfl, hge, hCd⟩

theorem drawtooth_any {w : World} {v : Value} {n : Nat} (hC : Code w w.heap.size v n) :
    Calls Tryd.prog 6 #[v] w fun e w' => ∃ t p r : Int, DrwP t p r ∧ e = .returned (.agg #[.int .i64 t, .int .i64 p, .int .i64 r]) ∧ Below w.heap.size w w' := by
  have hX := b3_new w 0 0 0 25
  have hba : Below w.heap.size w (w.alloc (.cells #[.int .i64 0, .int .i64 0, .int .i64 0] 25)) := (Below.refl _ _).alloc (Nat.le_refl _) _
  have hC0 : Code (w.alloc (.cells #[.int .i64 0, .int .i64 0, .int .i64 0] 25)) (w.alloc (.cells #[.int .i64 0, .int .i64 0, .int .i64 0] 25)).heap.size v n := by
    rcases hC.below hba with h | ⟨b, off, cap, e, h1, h2, h3⟩
    · exact Or.inl h
    · exact Or.inr ⟨b, off, cap, e, h1, Nat.lt_of_lt_of_le h2 hba.size, h3⟩
  clear hC
  go_enter Tryd.func6, Tryd.ntmps6
  go_wp2_with fail
  generalize w.alloc (.cells #[.int .i64 0, .int .i64 0, .int .i64 0] 25) = W at *
  obtain ⟨b, hb⟩ : ∃ b, b = w.heap.size := ⟨_, rfl⟩
  rw [← hb] at hX
  simp only [← hb]
  have hle : w.heap.size ≤ b := by omega
  clear hb
  refine (new_any hC0).mono ?_
  rintro e w1 ⟨c, rfl, hb1, hC1⟩
  have hne : b ≠ c := by have := hX.1; have := hC1.1; omega
  go_wp2_with fail
  refine (l15tooth_any hC1).mono ?_
  rintro e w2 ⟨t, p, r, hs, rfl, hg2, -⟩
  have hb2 := bstep hba (hb1.grown hg2 hb1.size (fun k hk => by injection hk with e; rw [← e]; exact hC1.1))
  have hX2 := (hX.below hb1).grown hg2 hne
  obtain ⟨-, ⟨x0, x1, x2⟩, xf⟩ := id hX2
  have xf0 := xf 0
  have xf1 := xf 1
  have xf2 := xf 2
  obtain ⟨⟨-, ⟨z0, z1, z2⟩, -⟩, q1, q2⟩ := b3_all hX2 t p r
  have hb5 := wrS_below hb2 hle t p r
  unfold wrS at z0 z1 z2 hb5
  clear hX2 hX hb1 hg2 hb2 hba hC0 hC1
  go_wp2
  exact bodyPost_ret (v := .agg #[.int .i64 t, .int .i64 p, .int .i64 r]) (by simp [results, Tryd.results6, go_sem, z0, z1, z2]) rfl ⟨_, _, _, hs, rfl, hb5⟩

/-- What at() reads of a code is the same in every later world. -/
theorem at_fix {w : World} {v : Value} {n : Nat} {B : Nat} (i : Nat) (hi : i ≤ 20) (hC : Code w B v n) (hn : n ≤ 1048576) :
    ∃ x : Int, (0 ≤ x ∧ x ≤ 255) ∧ ∀ W : World, Below B w W → Calls Tryd.prog 9 #[v, .int .i64 (i : Nat)] W fun e w' => e = .returned (.int .i64 x) ∧ W = w' := by
  rcases hC with ⟨rfl, a, cap, rfl⟩ | ⟨b, off, cap, rfl, hm, hbB, hcell⟩
  · refine ⟨0, ⟨by omega, by omega⟩, fun W _ => ?_⟩
    go_enter Tryd.func9, Tryd.ntmps9
    go_wp2
    go_ret
    exact ⟨rfl, rfl⟩
  · unfold maxLen at hm
    by_cases h0 : n = 0
    · subst h0
      clear hcell
      refine ⟨0, ⟨by omega, by omega⟩, fun W _ => ?_⟩
      go_enter Tryd.func9, Tryd.ntmps9
      go_wp2
      go_ret
      exact ⟨rfl, rfl⟩
    · obtain ⟨z, hz0, hz1, hz'⟩ := hcell ((i * 5 + 1) % n) (Nat.mod_lt _ (by omega))
      clear hcell
      refine ⟨z, ⟨hz0, hz1⟩, fun W hW => ?_⟩
      have hz := (hW.cell (p := ⟨b, off + (i * 5 + 1) % n, none⟩) hbB).trans hz'
      clear hz' hW
      have h0' : ((n : Int) == 0) = false := by simpa using h0
      have hm0 : (0 : Int) ≤ ((i : Int) * 5 + 1) % (n : Int) := Int.emod_nonneg _ (by omega)
      have hm1 : ((i : Int) * 5 + 1) % (n : Int) < (n : Int) := Int.emod_lt_of_pos _ (by omega)
      have hm2 : (((i : Int) * 5 + 1) % (n : Int)).toNat = (i * 5 + 1) % n := by
        have e : ((i : Int) * 5 + 1) % (n : Int) = (((i * 5 + 1) % n : Nat) : Int) := by rw [Int.natCast_emod, Int.natCast_add, Int.natCast_mul]; rfl
        rw [e]; exact Int.toNat_natCast _
      go_enter Tryd.func9, Tryd.ntmps9
      go_wp2
      go_ret
      exact ⟨rfl, rfl⟩
end Go.Proofs.YtfkjaofepilnkaaDoor
