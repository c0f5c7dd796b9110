/- The model's drawn pair of cylinders: DrawPair. No condition. -/
import Derived.Test.YtemhmbaacpfnaaaCylDraw
namespace Go.Proofs.Ytemhmbaacpfnaaa
open Go.ChangeShapes Go.WideShapes Go.ChangeAt Go.RowKit

theorem cell_drew {w : World} {a : Addr} {v : Value} (h : w.cell? a = some v) : w.drew.cell? a = some v := h
/-- The drawn pair so far: the answers' boxes r2, r3; the cursor c; the first cylinder in a box ba; the second one in a box bo. -/
def PairInv (w : World) (B c r2 r3 Bv ba bo : Nat) (s t : Int) (la : List (Int × Int)) (va u : Value) (lb : List (Int × Int)) (wr : World) : Prop :=
  wr.ownsRow (bo + 1) 34 2 u lb.length (flat2 lb) ∧ (BoxW wr r2 (.int .i64 0) (.int .i64 0) (.slice none 0 0) ∧ BoxW wr r3 (.int .i64 0) (.int .i64 0) (.slice none 0 0)) ∧ BoxW wr bo (.int .i64 s) (.int .i64 t) u ∧ (BoxW wr ba (.int .i64 s) (.int .i64 t) va ∧ wr.ownsRow Bv 34 2 va la.length (flat2 la)) ∧ Cur 78 B wr c ∧ Below w.heap.size w wr
theorem PairInv.step {w wr w5 w6 w7 : World} {B c r2 r3 Bv ba bo : Nat} {s t : Int} {la lb M : List (Int × Int)} {va u v7 : Value} (h : PairInv w B c r2 r3 Bv ba bo s t la va u lb wr)
    (k1 : w.heap.size ≤ r2) (k2 : r2 < r3) (k3 : r3 < c) (k4 : c < Bv) (k5 : Bv ≤ ba) (k6 : ba < bo) (kB : B ≤ c) (kv : ∀ k, va.ownBlock = some k → k < ba)
    (hg5 : wr.drew.grownBy w5 (some c)) (hg6 : w5.grownBy w6 (some c)) (hC6 : Cur 78 B w6 c) (hb7 : Below w6.heap.size w6 w7) (ho7 : w7.ownsRow w6.heap.size 34 2 v7 M.length (flat2 M)) :
    PairInv w B c r2 r3 Bv ba bo s t la va v7 M (w7.setCell ⟨bo, 2, none⟩ v7) := by
  obtain ⟨_, ⟨hR2, hR3⟩, hO, ⟨hA, hva⟩, _, hbr⟩ := h
  have nr2 : some r2 ≠ some c := by intro e; injection e; omega
  have nr3 : some r3 ≠ some c := by intro e; injection e; omega
  have nba : some ba ≠ some c := by intro e; injection e; omega
  have nbo : some bo ≠ some c := by intro e; injection e; omega
  have nva : va.ownBlock ≠ some c := fun e => by have := (hva.lt c e).1; omega
  have hg := only_trans hg5 hg6
  have hR2' := ((show BoxW wr.drew r2 (.int .i64 0) (.int .i64 0) (.slice none 0 0) from hR2).grown hg nr2).below hb7
  have hR3' := ((show BoxW wr.drew r3 (.int .i64 0) (.int .i64 0) (.slice none 0 0) from hR3).grown hg nr3).below hb7
  have hO6 := ((show BoxW wr.drew bo (.int .i64 s) (.int .i64 t) u from hO).grown hg nbo)
  have hO' := hO6.below hb7
  have hA' := ((show BoxW wr.drew ba (.int .i64 s) (.int .i64 t) va from hA).grown hg nba).below hb7
  have hva' := ownS_below ((show wr.drew.ownsRow Bv 34 2 va la.length (flat2 la) from hva.drew).kept hg (Or.inr nva)) hb7
  have hC7 := cur_grown hC6 hb7
  have hvb : va.ownBlock ≠ some bo := fun e => by have := kv bo e; omega
  have hvo := ob_of_lt ho7 hO6.1
  have hB7 := ((hbr.drew).grown hg hbr.size (fun k hk => by injection hk with e; omega)).trans (hb7.mono (Nat.le_trans hbr.size hg.size))
  refine ⟨own_set' (own_low ho7 hO6.1) hvo, ⟨box_set_other hR2' (by omega) 2 _, box_set_other hR3' (by omega) 2 _⟩, box_set2 hO' _, ⟨box_set_other hA' (by omega) 2 _, own_set' hva' hvb⟩, ?_, hB7.setCell (show w.heap.size ≤ bo by omega) _⟩
  exact hC7.kept (row := some bo) (only_setCell (World.grownBy.refl _ _) (Or.inl rfl) _) (fun r hr => by injection hr with e; subst e; exact ⟨by omega, by omega⟩)

set_option maxHeartbeats 4000000 in
set_option maxRecDepth 100000 in
theorem drawpair_any {w : World} {v : Value} {n : Nat} (hC : Code w w.heap.size v n) :
    Calls Try.prog 10 #[v] w fun e w' => ∃ s t la lb va vb, CylDrawn s t la ∧ (lb.length ≤ 9 ∧ CylP s t lb) ∧ e = .returned (.tuple #[.agg #[.int .i64 s, .int .i64 t, va], .agg #[.int .i64 s, .int .i64 t, vb]]) ∧ Rd2 w' va la ∧ Rd2 w' vb lb ∧ Below w.heap.size w w' := by
  obtain ⟨W, hW⟩ : ∃ W, W = (w.alloc (.cells #[.int .i64 0, .int .i64 0, .slice none 0 0] 26)).alloc (.cells #[.int .i64 0, .int .i64 0, .slice none 0 0] 26) := ⟨_, rfl⟩
  have hbA : Below (w.alloc (.cells #[.int .i64 0, .int .i64 0, .slice none 0 0] 26)).heap.size (w.alloc (.cells #[.int .i64 0, .int .i64 0, .slice none 0 0] 26)) W := by rw [hW]; exact (Below.refl _ _).alloc (Nat.le_refl _) _
  have hR2 : BoxW W w.heap.size (.int .i64 0) (.int .i64 0) (.slice none 0 0) := (boxw_new _ _ _ _ _).below hbA
  have hR3 : BoxW W (w.heap.size + 1) (.int .i64 0) (.int .i64 0) (.slice none 0 0) := by
    have := boxw_new (w.alloc (.cells #[.int .i64 0, .int .i64 0, .slice none 0 0] 26)) (.int .i64 0) (.int .i64 0) (.slice none 0 0) 26
    rw [size_alloc, ← hW] at this; exact this
  have hB : Below w.heap.size w W := bstep ((Below.refl _ _).alloc (Nat.le_refl _) _) hbA
  have hsW : W.heap.size = w.heap.size + 1 + 1 := by rw [hW]; simp
  have HSW := Lib.hid hsW
  clear hbA hsW
  go_enter Try.func10, Try.ntmps10
  go_wp2_with fail
  rw [← hW]
  clear hW
  obtain ⟨bx, hbx⟩ : ∃ b, b = w.heap.size := ⟨_, rfl⟩
  have hle : w.heap.size ≤ bx := by omega
  rw [← hbx] at hR2 hR3 HSW
  simp only [← hbx]
  clear hbx
  have hC0 := code_mono (hC.below hB) hB.size
  refine (new_any hC0).mono ?_
  rintro e w1 ⟨c, rfl, hb1, hC1⟩
  have hR21 := hR2.below hb1
  have hR31 := hR3.below hb1
  have g1 := bstep hB hb1
  have kB : W.heap.size ≤ c := hC1.1
  have k4 : c < w1.heap.size := hC1.lt
  have k3 : bx + 1 < c := by have := HSW.out; omega
  clear hR2 hR3 hB hb1 hC0
  go_wp2_with fail
  refine (l06cyl_any hC1).mono ?_
  rintro e w2 ⟨s, t, la, va, hD, rfl, hva, hg2, hC2⟩
  have HD := Lib.hid hD
  have hs4 := hD.1
  have ht1 := hD.2.1
  have hR22 := hR21.grown hg2 (by intro e; injection e; omega)
  have hR32 := hR31.grown hg2 (by intro e; injection e; omega)
  have g2 := g1.grown hg2 g1.size (fun k hk => by injection hk with e; omega)
  have kv : ∀ k, va.ownBlock = some k → k < w2.heap.size := fun k hk => (hva.lt k hk).2
  have k5 : w1.heap.size ≤ w2.heap.size := hg2.size
  clear hR21 hR31 g1 hg2 hD hC1
  obtain ⟨aa, ca, rfl⟩ := ownS_slice hva
  go_wp2_with fail
  obtain ⟨W3, hW3⟩ : ∃ W, W = w2.alloc (.cells #[.int .i64 s, .int .i64 t, .slice aa la.length ca] 26) := ⟨_, rfl⟩
  obtain ⟨W4, hW4⟩ : ∃ W, W = W3.alloc (.cells #[.int .i64 s, .int .i64 t, .slice none 0 0] 26) := ⟨_, rfl⟩
  have hb3 : Below w2.heap.size w2 W3 := by rw [hW3]; exact (Below.refl _ _).alloc (Nat.le_refl _) _
  have hb4 : Below W3.heap.size W3 W4 := by rw [hW4]; exact (Below.refl _ _).alloc (Nat.le_refl _) _
  have hA3 : BoxW W3 w2.heap.size (.int .i64 s) (.int .i64 t) (.slice aa la.length ca) := by rw [hW3]; exact boxw_new _ _ _ _ _
  have hO4 : BoxW W4 (w2.heap.size + 1) (.int .i64 s) (.int .i64 t) (.slice none 0 0) := by
    have := boxw_new W3 (.int .i64 s) (.int .i64 t) (.slice none 0 0) 26
    rw [← hW4] at this
    rw [hW3, size_alloc] at this; exact this
  have hb5 := bstep hb3 hb4
  have hI4 : PairInv w W.heap.size c bx (bx + 1) w1.heap.size w2.heap.size (w2.heap.size + 1) s t la (.slice aa la.length ca) (.slice none 0 0) [] W4 := ⟨World.ownsRow_nil _ _ _ _, ⟨hR22.below hb5, hR32.below hb5⟩, hO4, ⟨hA3.below hb4, ownS_below hva hb5⟩, cur_grown hC2 hb5, bstep g2 hb5⟩
  rw [← hW3, ← hW4]
  clear hW3 hW4 hb3 hb4 hb5 hA3 hO4 hR22 hR32 g2 hC2 hva
  generalize w2.heap.size = ba at *
  generalize w1.heap.size = Bv at *
  generalize W.heap.size = B at *
  refine (below_any 8 (by omega) (by omega) hI4.2.2.2.2.1).mono ?_
  rintro e w6 ⟨n0, hn0, hn1, rfl, hg6, hC6⟩
  obtain ⟨m, rfl⟩ := Int.eq_ofNat_of_zero_le hn0
  have hI6 : PairInv w B c bx (bx + 1) Bv ba (ba + 1) s t la (.slice aa la.length ca) (.slice none 0 0) [] w6 := by
    obtain ⟨_, ⟨h2, h3⟩, hO, ⟨hA, hva⟩, _, hbr⟩ := hI4
    exact ⟨World.ownsRow_nil _ _ _ _, ⟨h2.grown hg6 (by intro e; injection e; omega), h3.grown hg6 (by intro e; injection e; omega)⟩, hO.grown hg6 (by intro e; injection e; omega), ⟨hA.grown hg6 (by intro e; injection e; omega), hva.kept hg6 (Or.inr fun e => by have := (hva.lt c e).1; omega)⟩, hC6, hbr.grown hg6 hbr.size (fun k hk => by injection hk with e; omega)⟩
  clear hI4 hg6 hC6
  go_wp2_with fail
  go_loopw [7] (fun v7 wr => ∃ (n : Nat) (l : List (Int × Int)) (u : Value), n ≤ 9 ∧ v7 = .int .i64 n ∧ Hid (l.length + n ≤ 9 ∧ CylP s t l) ∧ PairInv w B c bx (bx + 1) Bv ba (ba + 1) s t la (.slice aa la.length ca) u l wr) (fun v7 _ => (intOf v7).toNat)
  case atStart => exact ⟨m, [], _, by omega, rfl, Lib.hid ⟨by simp; omega, cyl_of (by omega) (by omega) (by simp) sp_nil (fun p hp => by simp at hp)⟩, hI6⟩
  case round =>
    obtain ⟨n, l, u, hn, rfl, HL, hI⟩ := hrel
    clear hI6
    by_cases hpos : 0 < n
    · have hCr := hI.2.2.2.2.1
      have hO0 : BoxW wr.drew (ba + 1) (.int .i64 s) (.int .i64 t) u := hI.2.2.1
      have hA0 : BoxW wr.drew ba (.int .i64 s) (.int .i64 t) (.slice aa la.length ca) := hI.2.2.2.1.1
      have hown0 := hI.1.drew
      have hap : u.ownBlock ≠ some c := ob_of_lt hI.1 (show c < ba + 1 + 1 by omega)
      have hno : some (ba + 1) ≠ some c := by intro e; injection e; omega
      have hna : some ba ≠ some c := by intro e; injection e; omega
      obtain ⟨e0, e1, e2⟩ := id hI.2.2.1.2.1
      have ef := hI.2.2.1.2.2 2
      obtain ⟨m0, m1, m2⟩ := id hI.2.2.2.1.1.2.1
      have hl9 : l.length ≤ 1000 := by have := HL.out.1; omega
      have hne1 : ba + 1 ≠ ba := by omega
      have C1 : Calls Try.prog 33 #[.pointer (some ⟨c, 0, none⟩), .int .i64 t] wr.drew (Drawn 78 B c wr.drew 0 (t - 1)) := below_any t (by omega) (by omega) (cur_grown hCr (Below.refl _ _).drew)
      have C2 := Lib.hid (fun (W : World) (hW : Cur 78 B W c) => below_any (w := W) s (by omega) (by omega) hW)
      obtain ⟨au, cu, rfl⟩ := ownS_slice hI.1
      have C3 := Lib.hid (fun (W : World) (x : Int × Int) (hW : W.ownsRow (ba + 1 + 1) 34 2 (.slice au l.length cu) l.length (flat2 l)) => putspec_any x (RdC.of_own hW) hl9)
      go_wp2_with fail
      refine wp_region_held_drew (S := fun w' => w'.cell? ⟨ba, 0, none⟩ = some (.int .i64 s) ∧ w'.cell? ⟨ba, 1, none⟩ = some (.int .i64 t)) (by kernel_rfl) ?_ (fun hHeld => ?_)
      · (try dsimp only); go_keep
      refine wpAnyH_take (i := 0) (oi := { dst := some 24, op := _, type := _, pos := _, after := _, guard := _ }) (v := ?v24n1) rfl (by kernel_rfl) (by kernel_rfl) (by kernel_rfl) (fun _ _ _ h => h) (Or.inl ⟨by rfl, ?hy24n1⟩) (by assumption) ?rest24n1
      case hy24n1 => ((intro w' hSw; (try dsimp only at hSw); go_simp); try (with_reducible rfl))
      try simp only [Act.put, List.setIfInBounds_toArray, List.set_cons_zero, List.set_cons_succ]
      refine wpAnyH_take (i := 2) (oi := { dst := some 26, op := _, type := _, pos := _, after := _, guard := _ }) (v := ?v26n2) rfl (by kernel_rfl) (by kernel_rfl) (by kernel_rfl) (fun _ _ _ h => h) (Or.inl ⟨by rfl, ?hy26n2⟩) (by assumption) ?rest26n2
      case hy26n2 => ((intro w' hSw; (try dsimp only at hSw); go_simp); try (with_reducible rfl))
      try simp only [Act.put, List.setIfInBounds_toArray, List.set_cons_zero, List.set_cons_succ]
      refine wpAnyH_take (i := 3) (oi := { dst := some 27, op := _, type := _, pos := _, after := _, guard := _ }) (v := ?v27n3) rfl (by kernel_rfl) (by kernel_rfl) (by kernel_rfl) (fun _ _ _ h => h) (Or.inl ⟨by rfl, ?hy27n3⟩) (by assumption) ?rest27n3
      case hy27n3 => ((intro w' hSw; (try dsimp only at hSw); go_simp); try (with_reducible rfl))
      try simp only [Act.put, List.setIfInBounds_toArray, List.set_cons_zero, List.set_cons_succ]
      refine wpAnyH_take (i := 4) (oi := { dst := some 28, op := _, type := _, pos := _, after := _, guard := _ }) (v := ?v28n4) rfl (by kernel_rfl) (by kernel_rfl) (by kernel_rfl) (fun _ _ _ h => h) (Or.inl ⟨by rfl, ?hy28n4⟩) (by assumption) ?rest28n4
      case hy28n4 => ((intro w' hSw; (try dsimp only at hSw); go_simp); try (with_reducible rfl))
      try simp only [Act.put, List.setIfInBounds_toArray, List.set_cons_zero, List.set_cons_succ]
      refine wpAnyH_take (i := 6) (oi := { dst := some 30, op := _, type := _, pos := _, after := _, guard := _ }) (v := ?v30n5) rfl (by kernel_rfl) (by kernel_rfl) (by kernel_rfl) (fun _ _ _ h => h) (Or.inl ⟨by rfl, ?hy30n5⟩) (by assumption) ?rest30n5
      case hy30n5 => ((intro w' hSw; (try dsimp only at hSw); go_simp); try (with_reducible rfl))
      try simp only [Act.put, List.setIfInBounds_toArray, List.set_cons_zero, List.set_cons_succ]
      refine wpAnyH_take (i := 7) (oi := { dst := some 31, op := _, type := _, pos := _, after := _, guard := _ }) (v := ?v31n6) rfl (by kernel_rfl) (by kernel_rfl) (by kernel_rfl) (fun _ _ _ h => h) (Or.inl ⟨by rfl, ?hy31n6⟩) (by assumption) ?rest31n6
      case hy31n6 => ((intro w' hSw; (try dsimp only at hSw); go_simp); try (with_reducible rfl))
      try simp only [Act.put, List.setIfInBounds_toArray, List.set_cons_zero, List.set_cons_succ]
      refine wpAnyH_take (i := 8) (oi := { dst := some 32, op := _, type := _, pos := _, after := _, guard := _ }) (v := ?v32n7) rfl (by kernel_rfl) (by kernel_rfl) (by kernel_rfl) (fun _ _ _ h => h) (Or.inl ⟨by rfl, ?hy32n7⟩) (by assumption) ?rest32n7
      case hy32n7 => ((intro w' hSw; (try dsimp only at hSw); go_simp); try (with_reducible rfl))
      try simp only [Act.put, List.setIfInBounds_toArray, List.set_cons_zero, List.set_cons_succ]
      refine wpAnyH_ready (rs := [1, 5]) (by kernel_rfl) (by simp) ?_
      refine AllReadyH.cons rfl (fun K hK => ?_) ?_
      · go_simp
        refine hK.out _ _ ?_ (fun hHeld => ?_)
        · (try dsimp only); go_keep
        clear hK K
        try simp only [Act.put, List.setIfInBounds_toArray, List.set_cons_zero, List.set_cons_succ]
        refine wpAnyH_ready (rs := [5]) (by kernel_rfl) (by simp) ?_
        refine AllReadyH.cons rfl (fun K hK => ?_) ?_
        · go_simp
          go_at_call 33
          (with_reducible refine C1.mono ?_)
          rintro e w5 ⟨x5, hx0, hx1, rfl, hg5, hC5⟩
          have hO5 := hO0.grown hg5 hno
          have hA5 := hA0.grown hg5 hna
          have ho5 := hown0.kept hg5 (Or.inr hap)
          obtain ⟨q0, q1, q2⟩ := id hO5.2.1
          obtain ⟨q3, q4, q5⟩ := id hA5.2.1
          refine hK.out _ _ ?_ (fun hHeld => ?_)
          · (try dsimp only); go_keep
          clear hK K
          try simp only [Act.put, List.setIfInBounds_toArray, List.set_cons_zero, List.set_cons_succ]
          refine wpAnyH_ready (rs := [9]) (by kernel_rfl) (by simp) ?_
          refine AllReadyH.cons rfl (fun K hK => ?_) ?_
          · go_simp
            go_at_call 33
            (with_reducible refine (C2.out _ hC5).mono ?_)
            rintro e w6 ⟨x6, hy0, hy1, rfl, hg6, hC6⟩
            have hO6 := hO5.grown hg6 hno
            have hA6 := hA5.grown hg6 hna
            have ho6 := ho5.kept hg6 (Or.inr hap)
            obtain ⟨r0, r1, r2⟩ := id hO6.2.1
            obtain ⟨r3, r4, r5⟩ := id hA6.2.1
            refine hK.out _ _ ?_ (fun hHeld => ?_)
            · (try dsimp only); go_keep
            clear hK K
            try simp only [Act.put, List.setIfInBounds_toArray, List.set_cons_zero, List.set_cons_succ]
            refine wpAnyH_take (i := 10) (oi := { dst := some 34, op := _, type := _, pos := _, after := _, guard := _ }) (v := ?v34n8) rfl (by kernel_rfl) (by kernel_rfl) (by kernel_rfl) (fun _ _ _ h => h) (Or.inl ⟨by rfl, ?hy34n8⟩) (by assumption) ?rest34n8
            case hy34n8 => ((intro w' hSw; (try dsimp only at hSw); go_simp); try (with_reducible rfl))
            try simp only [Act.put, List.setIfInBounds_toArray, List.set_cons_zero, List.set_cons_succ]
            refine wpAnyH_ready (rs := [11]) (by kernel_rfl) (by simp) ?_
            refine AllReadyH.cons rfl (fun K hK => ?_) ?_
            · go_simp
              go_at_call 34
              refine (C3.out w6 (x5, x6) ho6).mono ?_
              rintro e w7 ⟨v7, rfl, ho7, hb7⟩
              obtain ⟨a7, c7, rfl⟩ := ownS_slice ho7
              have hO7 := hO6.below hb7
              have hA7 := hA6.below hb7
              obtain ⟨z0, z1, z2⟩ := id hO7.2.1
              obtain ⟨z3, z4, z5⟩ := id hA7.2.1
              have zf := hO7.2.2 2
              refine hK.out _ _ ?_ (fun hHeld => ?_)
              · (try dsimp only); go_keep
              clear hK K
              try simp only [Act.put, List.setIfInBounds_toArray, List.set_cons_zero, List.set_cons_succ]
              refine wpAnyH_take (i := 12) (oi := { dst := some 23, op := _, type := _, pos := _, after := _, guard := _ }) (v := ?v23n9) rfl (by kernel_rfl) (by kernel_rfl) (by kernel_rfl) (fun _ _ _ h => h) (Or.inl ⟨by rfl, ?hy23n9⟩) (by assumption) ?rest23n9
              case hy23n9 => ((intro w' hSw; (try dsimp only at hSw); go_simp); try (with_reducible rfl))
              try simp only [Act.put, List.setIfInBounds_toArray, List.set_cons_zero, List.set_cons_succ]
              refine wpAnyH_take (i := 13) (oi := { dst := some 36, op := _, type := _, pos := _, after := _, guard := _ }) (v := ?v36n10) rfl (by kernel_rfl) (by kernel_rfl) (by kernel_rfl) (fun _ _ _ h => h) (Or.inl ⟨by rfl, ?hy36n10⟩) (by assumption) ?rest36n10
              case hy36n10 => ((intro w' hSw; (try dsimp only at hSw); go_simp); try (with_reducible rfl))
              try simp only [Act.put, List.setIfInBounds_toArray, List.set_cons_zero, List.set_cons_succ]
              refine wpAnyH_take (i := 14) (oi := { dst := some 37, op := _, type := _, pos := _, after := _, guard := _ }) (v := ?v37n11) rfl (by kernel_rfl) (by kernel_rfl) (by kernel_rfl) (fun _ _ _ h => h) (Or.inl ⟨by rfl, ?hy37n11⟩) (by assumption) ?rest37n11
              case hy37n11 => ((intro w' hSw; (try dsimp only at hSw); go_simp); try (with_reducible rfl))
              try simp only [Act.put, List.setIfInBounds_toArray, List.set_cons_zero, List.set_cons_succ]
              refine wpAnyH_ready (rs := [15]) (by kernel_rfl) (by simp) ?_
              refine AllReadyH.cons rfl (fun K hK => ?_) ?_
              · go_simp
                refine hK.out _ _ ?_ (fun hHeld => ?_)
                · (try dsimp only); go_keep
                clear hK K
                try simp only [Act.put, List.setIfInBounds_toArray, List.set_cons_zero, List.set_cons_succ]
                refine wpAnyH_ready (rs := [16]) (by kernel_rfl) (by simp) ?_
                refine AllReadyH.cons rfl (fun K hK => ?_) ?_
                · go_simp
                  refine hK.out _ _ ?_ (fun hHeld => ?_)
                  · (try dsimp only); go_keep
                  clear hK K
                  try simp only [Act.put, List.setIfInBounds_toArray, List.set_cons_zero, List.set_cons_succ]
                  refine wpAnyH_done (by kernel_rfl) ?_ _
                  have hI7 := hI.step hle (Nat.lt_succ_self _) k3 k4 k5 (Nat.lt_succ_self _) kB kv hg5 hg6 hC6 hb7 ho7
                  have hP := Lib.hid (show (putP l (x5, x6)).1.length + (n - 1) ≤ 9 ∧ CylP s t (putP l (x5, x6)).1 from ⟨by have h1 := putP_le l (x5, x6); have h2 := HL.out.1; omega, cyl_put HL.out.2 (by have := HL.out.1; omega) ⟨hx0, hx1⟩ ⟨hy0, hy1⟩⟩)
                  generalize (putP l (x5, x6)).1 = M at *
                  clear C1 C2 C3 e0 e1 e2 ef m0 m1 m2 q0 q1 q2 q3 q4 q5 r0 r1 r2 r3 r4 r5 z0 z1 z2 z3 z4 z5 zf hO0 hA0 hown0 hO5 hA5 ho5 hO6 hA6 ho6 hO7 hA7 ho7 hb7 hg5 hg6 hC5 hC6 hCr hI hap
                  generalize w7.setCell ⟨ba + 1, 2, none⟩ (.slice a7 M.length c7) = W9 at *
                  go_wp2
                  go_roundw
                  case rel => exact ⟨n - 1, M, _, by omega, by go_num, hP, hI7⟩
                  case measure => simp [intOf]; omega
                exact AllReadyH.nil
              exact AllReadyH.nil
            exact AllReadyH.nil
          exact AllReadyH.nil
        exact AllReadyH.nil
      refine AllReadyH.cons rfl (fun K hK => ?_) ?_
      · go_simp
        go_at_call 33
        (with_reducible refine C1.mono ?_)
        rintro e w5 ⟨x5, hx0, hx1, rfl, hg5, hC5⟩
        have hO5 := hO0.grown hg5 hno
        have hA5 := hA0.grown hg5 hna
        have ho5 := hown0.kept hg5 (Or.inr hap)
        obtain ⟨q0, q1, q2⟩ := id hO5.2.1
        obtain ⟨q3, q4, q5⟩ := id hA5.2.1
        refine hK.out _ _ ?_ (fun hHeld => ?_)
        · (try dsimp only); go_keep
        clear hK K
        try simp only [Act.put, List.setIfInBounds_toArray, List.set_cons_zero, List.set_cons_succ]
        refine wpAnyH_ready (rs := [1, 9]) (by kernel_rfl) (by simp) ?_
        refine AllReadyH.cons rfl (fun K hK => ?_) ?_
        · go_simp
          refine hK.out _ _ ?_ (fun hHeld => ?_)
          · (try dsimp only); go_keep
          clear hK K
          try simp only [Act.put, List.setIfInBounds_toArray, List.set_cons_zero, List.set_cons_succ]
          refine wpAnyH_ready (rs := [9]) (by kernel_rfl) (by simp) ?_
          refine AllReadyH.cons rfl (fun K hK => ?_) ?_
          · go_simp
            go_at_call 33
            (with_reducible refine (C2.out _ hC5).mono ?_)
            rintro e w6 ⟨x6, hy0, hy1, rfl, hg6, hC6⟩
            have hO6 := hO5.grown hg6 hno
            have hA6 := hA5.grown hg6 hna
            have ho6 := ho5.kept hg6 (Or.inr hap)
            obtain ⟨r0, r1, r2⟩ := id hO6.2.1
            obtain ⟨r3, r4, r5⟩ := id hA6.2.1
            refine hK.out _ _ ?_ (fun hHeld => ?_)
            · (try dsimp only); go_keep
            clear hK K
            try simp only [Act.put, List.setIfInBounds_toArray, List.set_cons_zero, List.set_cons_succ]
            refine wpAnyH_take (i := 10) (oi := { dst := some 34, op := _, type := _, pos := _, after := _, guard := _ }) (v := ?v34n12) rfl (by kernel_rfl) (by kernel_rfl) (by kernel_rfl) (fun _ _ _ h => h) (Or.inl ⟨by rfl, ?hy34n12⟩) (by assumption) ?rest34n12
            case hy34n12 => ((intro w' hSw; (try dsimp only at hSw); go_simp); try (with_reducible rfl))
            try simp only [Act.put, List.setIfInBounds_toArray, List.set_cons_zero, List.set_cons_succ]
            refine wpAnyH_ready (rs := [11]) (by kernel_rfl) (by simp) ?_
            refine AllReadyH.cons rfl (fun K hK => ?_) ?_
            · go_simp
              go_at_call 34
              refine (C3.out w6 (x5, x6) ho6).mono ?_
              rintro e w7 ⟨v7, rfl, ho7, hb7⟩
              obtain ⟨a7, c7, rfl⟩ := ownS_slice ho7
              have hO7 := hO6.below hb7
              have hA7 := hA6.below hb7
              obtain ⟨z0, z1, z2⟩ := id hO7.2.1
              obtain ⟨z3, z4, z5⟩ := id hA7.2.1
              have zf := hO7.2.2 2
              refine hK.out _ _ ?_ (fun hHeld => ?_)
              · (try dsimp only); go_keep
              clear hK K
              try simp only [Act.put, List.setIfInBounds_toArray, List.set_cons_zero, List.set_cons_succ]
              refine wpAnyH_take (i := 12) (oi := { dst := some 23, op := _, type := _, pos := _, after := _, guard := _ }) (v := ?v23n13) rfl (by kernel_rfl) (by kernel_rfl) (by kernel_rfl) (fun _ _ _ h => h) (Or.inl ⟨by rfl, ?hy23n13⟩) (by assumption) ?rest23n13
              case hy23n13 => ((intro w' hSw; (try dsimp only at hSw); go_simp); try (with_reducible rfl))
              try simp only [Act.put, List.setIfInBounds_toArray, List.set_cons_zero, List.set_cons_succ]
              refine wpAnyH_take (i := 13) (oi := { dst := some 36, op := _, type := _, pos := _, after := _, guard := _ }) (v := ?v36n14) rfl (by kernel_rfl) (by kernel_rfl) (by kernel_rfl) (fun _ _ _ h => h) (Or.inl ⟨by rfl, ?hy36n14⟩) (by assumption) ?rest36n14
              case hy36n14 => ((intro w' hSw; (try dsimp only at hSw); go_simp); try (with_reducible rfl))
              try simp only [Act.put, List.setIfInBounds_toArray, List.set_cons_zero, List.set_cons_succ]
              refine wpAnyH_take (i := 14) (oi := { dst := some 37, op := _, type := _, pos := _, after := _, guard := _ }) (v := ?v37n15) rfl (by kernel_rfl) (by kernel_rfl) (by kernel_rfl) (fun _ _ _ h => h) (Or.inl ⟨by rfl, ?hy37n15⟩) (by assumption) ?rest37n15
              case hy37n15 => ((intro w' hSw; (try dsimp only at hSw); go_simp); try (with_reducible rfl))
              try simp only [Act.put, List.setIfInBounds_toArray, List.set_cons_zero, List.set_cons_succ]
              refine wpAnyH_ready (rs := [15]) (by kernel_rfl) (by simp) ?_
              refine AllReadyH.cons rfl (fun K hK => ?_) ?_
              · go_simp
                refine hK.out _ _ ?_ (fun hHeld => ?_)
                · (try dsimp only); go_keep
                clear hK K
                try simp only [Act.put, List.setIfInBounds_toArray, List.set_cons_zero, List.set_cons_succ]
                refine wpAnyH_ready (rs := [16]) (by kernel_rfl) (by simp) ?_
                refine AllReadyH.cons rfl (fun K hK => ?_) ?_
                · go_simp
                  refine hK.out _ _ ?_ (fun hHeld => ?_)
                  · (try dsimp only); go_keep
                  clear hK K
                  try simp only [Act.put, List.setIfInBounds_toArray, List.set_cons_zero, List.set_cons_succ]
                  refine wpAnyH_done (by kernel_rfl) ?_ _
                  have hI7 := hI.step hle (Nat.lt_succ_self _) k3 k4 k5 (Nat.lt_succ_self _) kB kv hg5 hg6 hC6 hb7 ho7
                  have hP := Lib.hid (show (putP l (x5, x6)).1.length + (n - 1) ≤ 9 ∧ CylP s t (putP l (x5, x6)).1 from ⟨by have h1 := putP_le l (x5, x6); have h2 := HL.out.1; omega, cyl_put HL.out.2 (by have := HL.out.1; omega) ⟨hx0, hx1⟩ ⟨hy0, hy1⟩⟩)
                  generalize (putP l (x5, x6)).1 = M at *
                  clear C1 C2 C3 e0 e1 e2 ef m0 m1 m2 q0 q1 q2 q3 q4 q5 r0 r1 r2 r3 r4 r5 z0 z1 z2 z3 z4 z5 zf hO0 hA0 hown0 hO5 hA5 ho5 hO6 hA6 ho6 hO7 hA7 ho7 hb7 hg5 hg6 hC5 hC6 hCr hI hap
                  generalize w7.setCell ⟨ba + 1, 2, none⟩ (.slice a7 M.length c7) = W9 at *
                  go_wp2
                  go_roundw
                  case rel => exact ⟨n - 1, M, _, by omega, by go_num, hP, hI7⟩
                  case measure => simp [intOf]; omega
                exact AllReadyH.nil
              exact AllReadyH.nil
            exact AllReadyH.nil
          exact AllReadyH.nil
        refine AllReadyH.cons rfl (fun K hK => ?_) ?_
        · go_simp
          go_at_call 33
          (with_reducible refine (C2.out _ hC5).mono ?_)
          rintro e w6 ⟨x6, hy0, hy1, rfl, hg6, hC6⟩
          have hO6 := hO5.grown hg6 hno
          have hA6 := hA5.grown hg6 hna
          have ho6 := ho5.kept hg6 (Or.inr hap)
          obtain ⟨r0, r1, r2⟩ := id hO6.2.1
          obtain ⟨r3, r4, r5⟩ := id hA6.2.1
          refine hK.out _ _ ?_ (fun hHeld => ?_)
          · (try dsimp only); go_keep
          clear hK K
          try simp only [Act.put, List.setIfInBounds_toArray, List.set_cons_zero, List.set_cons_succ]
          refine wpAnyH_take (i := 10) (oi := { dst := some 34, op := _, type := _, pos := _, after := _, guard := _ }) (v := ?v34n16) rfl (by kernel_rfl) (by kernel_rfl) (by kernel_rfl) (fun _ _ _ h => h) (Or.inl ⟨by rfl, ?hy34n16⟩) (by assumption) ?rest34n16
          case hy34n16 => ((intro w' hSw; (try dsimp only at hSw); go_simp); try (with_reducible rfl))
          try simp only [Act.put, List.setIfInBounds_toArray, List.set_cons_zero, List.set_cons_succ]
          refine wpAnyH_ready (rs := [1]) (by kernel_rfl) (by simp) ?_
          refine AllReadyH.cons rfl (fun K hK => ?_) ?_
          · go_simp
            refine hK.out _ _ ?_ (fun hHeld => ?_)
            · (try dsimp only); go_keep
            clear hK K
            try simp only [Act.put, List.setIfInBounds_toArray, List.set_cons_zero, List.set_cons_succ]
            refine wpAnyH_ready (rs := [11]) (by kernel_rfl) (by simp) ?_
            refine AllReadyH.cons rfl (fun K hK => ?_) ?_
            · go_simp
              go_at_call 34
              refine (C3.out w6 (x5, x6) ho6).mono ?_
              rintro e w7 ⟨v7, rfl, ho7, hb7⟩
              obtain ⟨a7, c7, rfl⟩ := ownS_slice ho7
              have hO7 := hO6.below hb7
              have hA7 := hA6.below hb7
              obtain ⟨z0, z1, z2⟩ := id hO7.2.1
              obtain ⟨z3, z4, z5⟩ := id hA7.2.1
              have zf := hO7.2.2 2
              refine hK.out _ _ ?_ (fun hHeld => ?_)
              · (try dsimp only); go_keep
              clear hK K
              try simp only [Act.put, List.setIfInBounds_toArray, List.set_cons_zero, List.set_cons_succ]
              refine wpAnyH_take (i := 12) (oi := { dst := some 23, op := _, type := _, pos := _, after := _, guard := _ }) (v := ?v23n17) rfl (by kernel_rfl) (by kernel_rfl) (by kernel_rfl) (fun _ _ _ h => h) (Or.inl ⟨by rfl, ?hy23n17⟩) (by assumption) ?rest23n17
              case hy23n17 => ((intro w' hSw; (try dsimp only at hSw); go_simp); try (with_reducible rfl))
              try simp only [Act.put, List.setIfInBounds_toArray, List.set_cons_zero, List.set_cons_succ]
              refine wpAnyH_take (i := 13) (oi := { dst := some 36, op := _, type := _, pos := _, after := _, guard := _ }) (v := ?v36n18) rfl (by kernel_rfl) (by kernel_rfl) (by kernel_rfl) (fun _ _ _ h => h) (Or.inl ⟨by rfl, ?hy36n18⟩) (by assumption) ?rest36n18
              case hy36n18 => ((intro w' hSw; (try dsimp only at hSw); go_simp); try (with_reducible rfl))
              try simp only [Act.put, List.setIfInBounds_toArray, List.set_cons_zero, List.set_cons_succ]
              refine wpAnyH_take (i := 14) (oi := { dst := some 37, op := _, type := _, pos := _, after := _, guard := _ }) (v := ?v37n19) rfl (by kernel_rfl) (by kernel_rfl) (by kernel_rfl) (fun _ _ _ h => h) (Or.inl ⟨by rfl, ?hy37n19⟩) (by assumption) ?rest37n19
              case hy37n19 => ((intro w' hSw; (try dsimp only at hSw); go_simp); try (with_reducible rfl))
              try simp only [Act.put, List.setIfInBounds_toArray, List.set_cons_zero, List.set_cons_succ]
              refine wpAnyH_ready (rs := [15]) (by kernel_rfl) (by simp) ?_
              refine AllReadyH.cons rfl (fun K hK => ?_) ?_
              · go_simp
                refine hK.out _ _ ?_ (fun hHeld => ?_)
                · (try dsimp only); go_keep
                clear hK K
                try simp only [Act.put, List.setIfInBounds_toArray, List.set_cons_zero, List.set_cons_succ]
                refine wpAnyH_ready (rs := [16]) (by kernel_rfl) (by simp) ?_
                refine AllReadyH.cons rfl (fun K hK => ?_) ?_
                · go_simp
                  refine hK.out _ _ ?_ (fun hHeld => ?_)
                  · (try dsimp only); go_keep
                  clear hK K
                  try simp only [Act.put, List.setIfInBounds_toArray, List.set_cons_zero, List.set_cons_succ]
                  refine wpAnyH_done (by kernel_rfl) ?_ _
                  have hI7 := hI.step hle (Nat.lt_succ_self _) k3 k4 k5 (Nat.lt_succ_self _) kB kv hg5 hg6 hC6 hb7 ho7
                  have hP := Lib.hid (show (putP l (x5, x6)).1.length + (n - 1) ≤ 9 ∧ CylP s t (putP l (x5, x6)).1 from ⟨by have h1 := putP_le l (x5, x6); have h2 := HL.out.1; omega, cyl_put HL.out.2 (by have := HL.out.1; omega) ⟨hx0, hx1⟩ ⟨hy0, hy1⟩⟩)
                  generalize (putP l (x5, x6)).1 = M at *
                  clear C1 C2 C3 e0 e1 e2 ef m0 m1 m2 q0 q1 q2 q3 q4 q5 r0 r1 r2 r3 r4 r5 z0 z1 z2 z3 z4 z5 zf hO0 hA0 hown0 hO5 hA5 ho5 hO6 hA6 ho6 hO7 hA7 ho7 hb7 hg5 hg6 hC5 hC6 hCr hI hap
                  generalize w7.setCell ⟨ba + 1, 2, none⟩ (.slice a7 M.length c7) = W9 at *
                  go_wp2
                  go_roundw
                  case rel => exact ⟨n - 1, M, _, by omega, by go_num, hP, hI7⟩
                  case measure => simp [intOf]; omega
                exact AllReadyH.nil
              exact AllReadyH.nil
            exact AllReadyH.nil
          exact AllReadyH.nil
        exact AllReadyH.nil
      exact AllReadyH.nil
    · obtain rfl : n = 0 := by omega
      obtain ⟨hown, ⟨h2, h3⟩, hO, ⟨hA, hva⟩, hCr, hbr⟩ := hI
      obtain ⟨au, cu, rfl⟩ := ownS_slice hown
      have HLF := Lib.hid (show l.length ≤ 9 ∧ CylP s t l from ⟨by have := HL.out.1; omega, HL.out.2⟩)
      obtain ⟨e0, e1, e2⟩ := id hO.2.1
      obtain ⟨m0, m1, m2⟩ := id hA.2.1
      obtain ⟨d0, d1, d2⟩ := id h2.2.1
      have f0 := h2.2.2 0
      have f1 := h2.2.2 1
      have f2 := h2.2.2 2
      obtain ⟨j0, j1, j2⟩ := id h3.2.1
      have y0 := h3.2.2 0
      have y1 := h3.2.2 1
      have y2 := h3.2.2 2
      have n1 : bx ≠ ba := by omega
      have n2 : bx ≠ ba + 1 := by omega
      have n3 : bx + 1 ≠ ba := by omega
      have n4 : bx + 1 ≠ ba + 1 := by omega
      have n5 : bx ≠ bx + 1 := by omega
      have kvs : bx < Bv := by omega
      have kvt : bx + 1 < Bv := by omega
      -- the world behind the two stores
      have q2 := wr3_same h2 (.int .i64 s) (.int .i64 t) (.slice aa la.length ca)
      have q3 := wr3_other h3 n5 (.int .i64 s) (.int .i64 t) (.slice aa la.length ca)
      have p2 := wr3_other q2 (Ne.symm n5) (.int .i64 s) (.int .i64 t) (.slice au l.length cu)
      have p3 := wr3_same q3 (.int .i64 s) (.int .i64 t) (.slice au l.length cu)
      have o1 := wr3_own (wr3_own hva (ob_of_lt hva kvs) (.int .i64 s) (.int .i64 t) (.slice aa la.length ca)) (ob_of_lt hva kvt) (.int .i64 s) (.int .i64 t) (.slice au l.length cu)
      have o2 := wr3_own (wr3_own hown (ob_of_lt hown (show bx < ba + 1 + 1 by omega)) (.int .i64 s) (.int .i64 t) (.slice aa la.length ca)) (ob_of_lt hown (show bx + 1 < ba + 1 + 1 by omega)) (.int .i64 s) (.int .i64 t) (.slice au l.length cu)
      have gb := wr3_below (wr3_below hbr hle (.int .i64 s) (.int .i64 t) (.slice aa la.length ca)) (show w.heap.size ≤ bx + 1 by omega) (.int .i64 s) (.int .i64 t) (.slice au l.length cu)
      obtain ⟨W8, hW8⟩ : ∃ W8, W8 = wr3 (wr3 wr bx (.int .i64 s) (.int .i64 t) (.slice aa la.length ca)) (bx + 1) (.int .i64 s) (.int .i64 t) (.slice au l.length cu) := ⟨_, rfl⟩
      rw [← hW8] at p2 p3 o1 o2 gb
      have HW8 := Lib.hid hW8
      clear hW8
      have HF := Lib.hid (show _ ∧ _ ∧ _ ∧ _ ∧ _ from ⟨p2.2.1, p3.2.1, Rd.of_own o1, Rd.of_own o2, gb⟩)
      clear q2 q3 p2 p3 o1 o2 gb hown hva hbr hCr HL
      go_wp2_with fail
      go_region_held3 (fun w' => (w'.cell? ⟨ba, 0, none⟩ = some (.int .i64 s) ∧ w'.cell? ⟨ba, 1, none⟩ = some (.int .i64 t) ∧ w'.cell? ⟨ba, 2, none⟩ = some (.slice aa la.length ca)) ∧ w'.cell? ⟨ba + 1, 0, none⟩ = some (.int .i64 s) ∧ w'.cell? ⟨ba + 1, 1, none⟩ = some (.int .i64 t) ∧ w'.cell? ⟨ba + 1, 2, none⟩ = some (.slice au l.length cu)) (go_keep) ((first | fail))
      rename_i hHeld
      have hg : ((((((wr.setCell ⟨bx, 0, none⟩ (.int .i64 s)).setCell ⟨bx, 1, none⟩ (.int .i64 t)).setCell ⟨bx, 2, none⟩ (.slice aa la.length ca)).setCell ⟨bx + 1, 0, none⟩ (.int .i64 s)).setCell ⟨bx + 1, 1, none⟩ (.int .i64 t)).setCell ⟨bx + 1, 2, none⟩ (.slice au l.length cu)) = W8 := by rw [HW8.out]; rfl
      rw [hg]
      have k0 := cell_drew HF.out.1.1
      have k1 := cell_drew HF.out.1.2.1
      have k2 := cell_drew HF.out.1.2.2
      have k3 := cell_drew HF.out.2.1.1
      have k4 := cell_drew HF.out.2.1.2.1
      have k5 := cell_drew HF.out.2.1.2.2
      have HR := Lib.hid (show Rd2 W8.drew (.slice aa la.length ca) la ∧ Rd2 W8.drew (.slice au l.length cu) l ∧ Below w.heap.size w W8.drew from ⟨Rd.below HF.out.2.2.1 (Below.refl _ _).drew, Rd.below HF.out.2.2.2.1 (Below.refl _ _).drew, HF.out.2.2.2.2.drew⟩)
      clear hHeld hg HF HW8 e0 e1 e2 m0 m1 m2 d0 d1 d2 f0 f1 f2 j0 j1 j2 y0 y1 y2 h2 h3 hO hA
      generalize W8.drew = W9 at *
      go_wp2
      exact bodyPost_ret (v := .tuple #[.agg #[.int .i64 s, .int .i64 t, .slice aa la.length ca], .agg #[.int .i64 s, .int .i64 t, .slice au l.length cu]]) (by simp [results, Try.results10, go_sem, k0, k1, k2, k3, k4, k5]) rfl ⟨s, t, la, l, _, _, HD.out, HLF.out, rfl, HR.out.1, HR.out.2.1, HR.out.2.2⟩
end Go.Proofs.Ytemhmbaacpfnaaa
