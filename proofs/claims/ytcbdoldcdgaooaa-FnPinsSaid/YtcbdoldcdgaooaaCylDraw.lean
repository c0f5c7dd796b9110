/- The model's drawn cylinders: l06Cylinder, DrawCylinder. No condition. -/
import Derived.Test.YtcbdoldcdgaooaaDrawB
import Derived.Test.YtcbdoldcdgaooaaBoxKit
namespace Go.Proofs.Ytcbdoldcdgaooaa
open Go.ChangeShapes Go.WideShapes Go.ChangeAt Go.RowKit

def CylDrawn (s t : Int) (l : List (Int × Int)) : Prop := (4 ≤ s ∧ s ≤ 24) ∧ (1 ≤ t ∧ t ≤ 8) ∧ l.length ≤ 9 ∧ CylP s t l
theorem wr3_only {a w : World} {g b : Nat} (h : a.grownBy w (some g)) (hb : b = g ∨ a.heap.size ≤ b) (x y z : Value) : a.grownBy (wr3 w b x y z) (some g) := by
  unfold wr3
  exact only_setCell (p := ⟨b, 2, none⟩) (only_setCell (p := ⟨b, 1, none⟩) (only_setCell (p := ⟨b, 0, none⟩) h hb x) hb y) hb z
theorem cur_grown {B c : Nat} {w w' : World} (h : Cur 120 B w c) (hb : Below w.heap.size w w') : Cur 120 B w' c := h.kept (only_of_below hb none) (row := none) (by intro r hr; cases hr)

set_option maxHeartbeats 2000000 in
set_option maxRecDepth 100000 in
theorem l06cyl_any {B c : Nat} {w : World} (hC : Cur 120 B w c) :
    Calls Try.prog 57 #[.pointer (some ⟨c, 0, none⟩)] w fun e w' => ∃ s t l v, CylDrawn s t l ∧ e = .returned (.agg #[.int .i64 s, .int .i64 t, v]) ∧ w'.ownsRow w.heap.size 32 2 v l.length (flat2 l) ∧ w.grownBy w' (some c) ∧ Cur 120 B w' c := by
  have hcl := hC.lt
  go_enter Try.func57, Try.ntmps57
  go_wp2_with fail
  have hR0 : BoxW (w.alloc (.cells #[.int .i64 0, .int .i64 0, .slice none 0 0] 26)) w.heap.size (.int .i64 0) (.int .i64 0) (.slice none 0 0) := boxw_new _ _ _ _ _
  have hCa := cur_grown hC ((Below.refl w.heap.size w).alloc (Nat.le_refl _) (.cells #[.int .i64 0, .int .i64 0, .slice none 0 0] 26))
  have hga : w.grownBy (w.alloc (.cells #[.int .i64 0, .int .i64 0, .slice none 0 0] 26)) (some c) := only_alloc (World.grownBy.refl _ _) _
  refine (below_any 21 (by omega) (by omega) hCa).mono ?_
  rintro e w1 ⟨a0, ha0, ha1, rfl, hg1, hC1⟩
  have hnc : some w.heap.size ≠ some c := by intro e; injection e; omega
  have hR1 := hR0.grown hg1 hnc
  have hgt1 := only_trans hga hg1
  clear hR0 hCa hga hg1
  have ea : IntKind.i64.wrap (4 + a0) = 4 + a0 := IntWalk.i64_in _ (by omega)
  go_wp2_with fail
  refine (below_any 8 (by omega) (by omega) hC1).mono ?_
  rintro e w2 ⟨b0, hb0, hb1, rfl, hg2, hC2⟩
  have hR2 := hR1.grown hg2 hnc
  have hgt2 := only_trans hgt1 hg2
  clear hR1 hgt1 hg2 hC1
  have eb : IntKind.i64.wrap (1 + b0) = 1 + b0 := IntWalk.i64_in _ (by omega)
  go_wp2_with fail
  obtain ⟨s, hs⟩ : ∃ s, s = 4 + a0 := ⟨_, rfl⟩
  obtain ⟨t, ht⟩ : ∃ t, t = 1 + b0 := ⟨_, rfl⟩
  rw [← hs, ← ht]
  have hs4 : 4 ≤ s ∧ s ≤ 24 := by omega
  have ht1 : 1 ≤ t ∧ t ≤ 8 := by omega
  obtain ⟨W, hW⟩ : ∃ W, W = w2.alloc (.cells #[.int .i64 s, .int .i64 t, .slice none 0 0] 26) := ⟨_, rfl⟩
  have hbW : Below w2.heap.size w2 W := by rw [hW]; exact (Below.refl _ _).alloc (Nat.le_refl _) _
  have hO3 : BoxW W w2.heap.size (.int .i64 s) (.int .i64 t) (.slice none 0 0) := by rw [hW]; exact boxw_new _ _ _ _ _
  rw [← hW]
  clear hW ea eb hs ht ha0 ha1 hb0 hb1
  have hR3 := hR2.below hbW
  have hC3 := cur_grown hC2 hbW
  have hgt3 := only_trans hgt2 (only_of_below hbW (some c))
  have hbl : w.heap.size < w2.heap.size := hR2.1
  obtain ⟨bo, hbo⟩ : ∃ b, b = w2.heap.size := ⟨_, rfl⟩
  rw [← hbo] at hO3 hbl ⊢
  clear hR2 hC2 hgt2 hbW hbo
  have hno : some bo ≠ some c := by intro e; injection e; omega
  refine (below_any 10 (by omega) (by omega) hC3).mono ?_
  rintro e w4 ⟨n0, hn0, hn1, rfl, hg4, hC4⟩
  obtain ⟨m, rfl⟩ := Int.eq_ofNat_of_zero_le hn0
  have hR4 := hR3.grown hg4 hnc
  have hO4 := hO3.grown hg4 hno
  have hgt4 := only_trans hgt3 hg4
  clear hR3 hO3 hgt3 hg4 hC3
  go_wp2_with fail
  go_loopw [4] (fun v4 wr => ∃ (n : Nat) (l : List (Int × Int)) (u : Value), n ≤ 9 ∧ v4 = .int .i64 n ∧ Hid (l.length + n ≤ 9 ∧ CylP s t l) ∧ wr.ownsRow (bo + 1) 32 2 u l.length (flat2 l) ∧ BoxW wr w.heap.size (.int .i64 0) (.int .i64 0) (.slice none 0 0) ∧ BoxW wr bo (.int .i64 s) (.int .i64 t) u ∧ Cur 120 B wr c ∧ w.grownBy wr (some c)) (fun v4 _ => (intOf v4).toNat)
  case atStart => exact ⟨m, [], _, by omega, rfl, Lib.hid ⟨by simp; omega, cyl_of (by omega) (by omega) (by simp) sp_nil (fun p hp => by simp at hp)⟩, World.ownsRow_nil _ _ _ _, hR4, hO4, hC4, hgt4⟩
  case round =>
    obtain ⟨n, l, u, hn, rfl, HL, hown, hR, hO, hCr, hgr⟩ := hrel
    clear hR4 hO4 hC4 hgt4
    by_cases hpos : 0 < n
    · have hap : u.ownBlock ≠ some c := ob_of_lt hown (show c < bo + 1 by omega)
      obtain ⟨e0, e1, e2⟩ := id hO.2.1
      have ef := hO.2.2 2
      have hl9 : l.length ≤ 1000 := by have := HL.out.1; omega
      have C1 : Calls Try.prog 104 #[.pointer (some ⟨c, 0, none⟩), .int .i64 t] wr.drew (Drawn 120 B c wr.drew 0 (t - 1)) := below_any t (by omega) (by omega) (cur_grown hCr (Below.refl _ _).drew)
      have C2 := Lib.hid (fun (W : World) (hW : Cur 120 B W c) => below_any (w := W) s (by omega) (by omega) hW)
      obtain ⟨au, cu, rfl⟩ := ownS_slice hown
      have C3 := Lib.hid (fun (W : World) (x : Int × Int) (hW : W.ownsRow (bo + 1) 32 2 (.slice au l.length cu) l.length (flat2 l)) => putspec_any x (RdC.of_own hW) hl9)
      have hown0 : wr.drew.ownsRow (bo + 1) 32 2 (.slice au l.length cu) l.length (flat2 l) := hown.drew
      have hO0 : BoxW wr.drew bo (.int .i64 s) (.int .i64 t) (.slice au l.length cu) := hO
      go_wp2_with fail
      refine wp_region_held_drew (S := fun w' => w'.cell? ⟨bo, 0, none⟩ = some (.int .i64 s) ∧ w'.cell? ⟨bo, 1, none⟩ = some (.int .i64 t)) (by kernel_rfl) ?_ (fun hHeld => ?_)
      · (try dsimp only); go_keep
      refine wpAnyH_take (i := 0) (oi := { dst := some 19, op := _, type := _, pos := _, after := _, guard := _ }) (v := ?v19n1) rfl (by kernel_rfl) (by kernel_rfl) (by kernel_rfl) (fun _ _ _ h => h) (Or.inl ⟨by rfl, ?hy19n1⟩) (by assumption) ?rest19n1
      case hy19n1 => ((intro w' hSw; (try dsimp only at hSw); go_simp); try (with_reducible rfl))
      try simp only [Act.put, List.setIfInBounds_toArray, List.set_cons_zero, List.set_cons_succ]
      refine wpAnyH_take (i := 2) (oi := { dst := some 21, op := _, type := _, pos := _, after := _, guard := _ }) (v := ?v21n2) rfl (by kernel_rfl) (by kernel_rfl) (by kernel_rfl) (fun _ _ _ h => h) (Or.inl ⟨by rfl, ?hy21n2⟩) (by assumption) ?rest21n2
      case hy21n2 => ((intro w' hSw; (try dsimp only at hSw); go_simp); try (with_reducible rfl))
      try simp only [Act.put, List.setIfInBounds_toArray, List.set_cons_zero, List.set_cons_succ]
      refine wpAnyH_take (i := 3) (oi := { dst := some 22, op := _, type := _, pos := _, after := _, guard := _ }) (v := ?v22n3) rfl (by kernel_rfl) (by kernel_rfl) (by kernel_rfl) (fun _ _ _ h => h) (Or.inl ⟨by rfl, ?hy22n3⟩) (by assumption) ?rest22n3
      case hy22n3 => ((intro w' hSw; (try dsimp only at hSw); go_simp); try (with_reducible rfl))
      try simp only [Act.put, List.setIfInBounds_toArray, List.set_cons_zero, List.set_cons_succ]
      refine wpAnyH_take (i := 4) (oi := { dst := some 23, op := _, type := _, pos := _, after := _, guard := _ }) (v := ?v23n4) rfl (by kernel_rfl) (by kernel_rfl) (by kernel_rfl) (fun _ _ _ h => h) (Or.inl ⟨by rfl, ?hy23n4⟩) (by assumption) ?rest23n4
      case hy23n4 => ((intro w' hSw; (try dsimp only at hSw); go_simp); try (with_reducible rfl))
      try simp only [Act.put, List.setIfInBounds_toArray, List.set_cons_zero, List.set_cons_succ]
      refine wpAnyH_take (i := 6) (oi := { dst := some 25, op := _, type := _, pos := _, after := _, guard := _ }) (v := ?v25n5) rfl (by kernel_rfl) (by kernel_rfl) (by kernel_rfl) (fun _ _ _ h => h) (Or.inl ⟨by rfl, ?hy25n5⟩) (by assumption) ?rest25n5
      case hy25n5 => ((intro w' hSw; (try dsimp only at hSw); go_simp); try (with_reducible rfl))
      try simp only [Act.put, List.setIfInBounds_toArray, List.set_cons_zero, List.set_cons_succ]
      refine wpAnyH_take (i := 7) (oi := { dst := some 26, op := _, type := _, pos := _, after := _, guard := _ }) (v := ?v26n6) rfl (by kernel_rfl) (by kernel_rfl) (by kernel_rfl) (fun _ _ _ h => h) (Or.inl ⟨by rfl, ?hy26n6⟩) (by assumption) ?rest26n6
      case hy26n6 => ((intro w' hSw; (try dsimp only at hSw); go_simp); try (with_reducible rfl))
      try simp only [Act.put, List.setIfInBounds_toArray, List.set_cons_zero, List.set_cons_succ]
      refine wpAnyH_take (i := 8) (oi := { dst := some 27, op := _, type := _, pos := _, after := _, guard := _ }) (v := ?v27n7) rfl (by kernel_rfl) (by kernel_rfl) (by kernel_rfl) (fun _ _ _ h => h) (Or.inl ⟨by rfl, ?hy27n7⟩) (by assumption) ?rest27n7
      case hy27n7 => ((intro w' hSw; (try dsimp only at hSw); go_simp); try (with_reducible rfl))
      try simp only [Act.put, List.setIfInBounds_toArray, List.set_cons_zero, List.set_cons_succ]
      refine wpAnyH_ready (rs := [1, 5]) (by kernel_rfl) (by simp) ?_
      refine AllReadyH.cons rfl (fun K hK => ?_) ?_
      · go_simp
        refine hK.out _ _ ?_ (fun hHeld => ?_)
        · (try dsimp only); go_keep
        clear hK K
        try simp only [Act.put, List.setIfInBounds_toArray, List.set_cons_zero, List.set_cons_succ]
        refine wpAnyH_ready (rs := [5]) (by kernel_rfl) (by simp) ?_
        refine AllReadyH.cons rfl (fun K hK => ?_) ?_
        · go_simp
          go_at_call 104
          (with_reducible refine C1.mono ?_)
          rintro e w5 ⟨x5, hx0, hx1, rfl, hg5, hC5⟩
          have hO5 := hO0.grown hg5 hno
          have ho5 := hown0.kept hg5 (Or.inr hap)
          obtain ⟨q0, q1, q2⟩ := id hO5.2.1
          refine hK.out _ _ ?_ (fun hHeld => ?_)
          · (try dsimp only); go_keep
          clear hK K
          try simp only [Act.put, List.setIfInBounds_toArray, List.set_cons_zero, List.set_cons_succ]
          refine wpAnyH_ready (rs := [9]) (by kernel_rfl) (by simp) ?_
          refine AllReadyH.cons rfl (fun K hK => ?_) ?_
          · go_simp
            go_at_call 104
            (with_reducible refine (C2.out _ hC5).mono ?_)
            rintro e w6 ⟨x6, hy0, hy1, rfl, hg6, hC6⟩
            have hO6 := hO5.grown hg6 hno
            have ho6 := ho5.kept hg6 (Or.inr hap)
            obtain ⟨r0, r1, r2⟩ := id hO6.2.1
            refine hK.out _ _ ?_ (fun hHeld => ?_)
            · (try dsimp only); go_keep
            clear hK K
            try simp only [Act.put, List.setIfInBounds_toArray, List.set_cons_zero, List.set_cons_succ]
            refine wpAnyH_take (i := 10) (oi := { dst := some 29, op := _, type := _, pos := _, after := _, guard := _ }) (v := ?v29n8) rfl (by kernel_rfl) (by kernel_rfl) (by kernel_rfl) (fun _ _ _ h => h) (Or.inl ⟨by rfl, ?hy29n8⟩) (by assumption) ?rest29n8
            case hy29n8 => ((intro w' hSw; (try dsimp only at hSw); go_simp); try (with_reducible rfl))
            try simp only [Act.put, List.setIfInBounds_toArray, List.set_cons_zero, List.set_cons_succ]
            refine wpAnyH_ready (rs := [11]) (by kernel_rfl) (by simp) ?_
            refine AllReadyH.cons rfl (fun K hK => ?_) ?_
            · go_simp
              go_at_call 74
              refine (C3.out w6 (x5, x6) ho6).mono ?_
              rintro e w7 ⟨v7, rfl, ho7, hb7⟩
              obtain ⟨a7, c7, rfl⟩ := ownS_slice ho7
              have hO7 := hO6.below hb7
              obtain ⟨z0, z1, z2⟩ := id hO7.2.1
              have zf := hO7.2.2 2
              obtain ⟨y0, y1, y2⟩ := (box_set2 hO7 (.slice a7 (putP l (x5, x6)).1.length c7)).2.1
              refine hK.out _ _ ?_ (fun hHeld => ?_)
              · (try dsimp only); go_keep
              clear hK K
              try simp only [Act.put, List.setIfInBounds_toArray, List.set_cons_zero, List.set_cons_succ]
              refine wpAnyH_take (i := 12) (oi := { dst := some 18, op := _, type := _, pos := _, after := _, guard := _ }) (v := ?v18n9) rfl (by kernel_rfl) (by kernel_rfl) (by kernel_rfl) (fun _ _ _ h => h) (Or.inl ⟨by rfl, ?hy18n9⟩) (by assumption) ?rest18n9
              case hy18n9 => ((intro w' hSw; (try dsimp only at hSw); go_simp); try (with_reducible rfl))
              try simp only [Act.put, List.setIfInBounds_toArray, List.set_cons_zero, List.set_cons_succ]
              refine wpAnyH_take (i := 13) (oi := { dst := some 31, op := _, type := _, pos := _, after := _, guard := _ }) (v := ?v31n10) rfl (by kernel_rfl) (by kernel_rfl) (by kernel_rfl) (fun _ _ _ h => h) (Or.inl ⟨by rfl, ?hy31n10⟩) (by assumption) ?rest31n10
              case hy31n10 => ((intro w' hSw; (try dsimp only at hSw); go_simp); try (with_reducible rfl))
              try simp only [Act.put, List.setIfInBounds_toArray, List.set_cons_zero, List.set_cons_succ]
              refine wpAnyH_take (i := 14) (oi := { dst := some 32, op := _, type := _, pos := _, after := _, guard := _ }) (v := ?v32n11) rfl (by kernel_rfl) (by kernel_rfl) (by kernel_rfl) (fun _ _ _ h => h) (Or.inl ⟨by rfl, ?hy32n11⟩) (by assumption) ?rest32n11
              case hy32n11 => ((intro w' hSw; (try dsimp only at hSw); go_simp); try (with_reducible rfl))
              try simp only [Act.put, List.setIfInBounds_toArray, List.set_cons_zero, List.set_cons_succ]
              refine wpAnyH_ready (rs := [15]) (by kernel_rfl) (by simp) ?_
              refine AllReadyH.cons rfl (fun K hK => ?_) ?_
              · go_simp
                refine hK.out _ _ ?_ (fun hHeld => ?_)
                · (try dsimp only); go_keep
                clear hK K
                try simp only [Act.put, List.setIfInBounds_toArray, List.set_cons_zero, List.set_cons_succ]
                refine wpAnyH_ready (rs := [16]) (by kernel_rfl) (by simp) ?_
                refine AllReadyH.cons rfl (fun K hK => ?_) ?_
                · go_simp
                  refine hK.out _ _ ?_ (fun hHeld => ?_)
                  · (try dsimp only); go_keep
                  clear hK K
                  try simp only [Act.put, List.setIfInBounds_toArray, List.set_cons_zero, List.set_cons_succ]
                  refine wpAnyH_done (by kernel_rfl) ?_ _
                  have hgr5 := only_trans (only_drew hgr) hg5
                  have hgr6 := only_trans hgr5 hg6
                  have hgr7 := only_trans hgr6 (only_of_below hb7 (some c))
                  have hR5 : BoxW w5 w.heap.size (.int .i64 0) (.int .i64 0) (.slice none 0 0) := (show BoxW wr.drew w.heap.size (.int .i64 0) (.int .i64 0) (.slice none 0 0) from hR).grown hg5 hnc
                  have hR7 := (hR5.grown hg6 hnc).below hb7
                  have hC7 := cur_grown hC6 hb7
                  have hP := Lib.hid (show (putP l (x5, x6)).1.length + (n - 1) ≤ 9 ∧ CylP s t (putP l (x5, x6)).1 from ⟨by have h1 := putP_le l (x5, x6); have h2 := HL.out.1; omega, cyl_put HL.out.2 (by have := HL.out.1; omega) ⟨hx0, hx1⟩ ⟨hy0, hy1⟩⟩)
                  have hob7 := ob_of_lt ho7 hO6.1
                  have ho8 := own_low ho7 (show bo + 1 ≤ w6.heap.size from hO6.1)
                  generalize (putP l (x5, x6)).1 = M at *
                  have hbo7 : bo ≠ w.heap.size := by omega
                  have hR8 := box_set_other hR7 hbo7 2 (.slice a7 M.length c7)
                  have hO8 := box_set2 hO7 (.slice a7 M.length c7)
                  have ho9 := own_set' (p := ⟨bo, 2, none⟩) (u := .slice a7 M.length c7) ho8 hob7
                  have hgr8 : w.grownBy (w7.setCell ⟨bo, 2, none⟩ (.slice a7 M.length c7)) (some c) := only_setCell hgr7 (Or.inr (by show w.heap.size ≤ bo; omega)) _
                  have hC8 : Cur 120 B (w7.setCell ⟨bo, 2, none⟩ (.slice a7 M.length c7)) c := hC7.kept (row := some bo) (only_setCell (World.grownBy.refl _ _) (Or.inl rfl) _) (fun r hr => by injection hr with e; subst e; exact ⟨by have := hC7.1; omega, fun e => hno (by rw [e])⟩)
                  have HALL := Lib.hid (show _ ∧ _ ∧ _ ∧ _ ∧ _ from ⟨ho9, hR8, hO8, hC8, hgr8⟩)
                  clear C1 C2 C3 e0 e1 e2 ef q0 q1 q2 r0 r1 r2 z0 z1 z2 zf y0 y1 y2 hO0 hown0 hO hown hR hCr hgr hO5 ho5 hO6 ho6 hO7 ho7 hb7 hgr5 hgr6 hgr7 hR5 hR7 hC7 ho8 hR8 hO8 ho9 hgr8 hC8 hg5 hg6 hC5 hC6 hob7 hap
                  generalize w7.setCell ⟨bo, 2, none⟩ (.slice a7 M.length c7) = W9 at *
                  go_wp2
                  go_roundw
                  case rel => exact ⟨n - 1, M, _, by omega, by go_num, hP, HALL.out.1, HALL.out.2.1, HALL.out.2.2.1, HALL.out.2.2.2.1, HALL.out.2.2.2.2⟩
                  case measure => simp [intOf]; omega
                exact AllReadyH.nil
              exact AllReadyH.nil
            exact AllReadyH.nil
          exact AllReadyH.nil
        exact AllReadyH.nil
      refine AllReadyH.cons rfl (fun K hK => ?_) ?_
      · go_simp
        go_at_call 104
        (with_reducible refine C1.mono ?_)
        rintro e w5 ⟨x5, hx0, hx1, rfl, hg5, hC5⟩
        have hO5 := hO0.grown hg5 hno
        have ho5 := hown0.kept hg5 (Or.inr hap)
        obtain ⟨q0, q1, q2⟩ := id hO5.2.1
        refine hK.out _ _ ?_ (fun hHeld => ?_)
        · (try dsimp only); go_keep
        clear hK K
        try simp only [Act.put, List.setIfInBounds_toArray, List.set_cons_zero, List.set_cons_succ]
        refine wpAnyH_ready (rs := [1, 9]) (by kernel_rfl) (by simp) ?_
        refine AllReadyH.cons rfl (fun K hK => ?_) ?_
        · go_simp
          refine hK.out _ _ ?_ (fun hHeld => ?_)
          · (try dsimp only); go_keep
          clear hK K
          try simp only [Act.put, List.setIfInBounds_toArray, List.set_cons_zero, List.set_cons_succ]
          refine wpAnyH_ready (rs := [9]) (by kernel_rfl) (by simp) ?_
          refine AllReadyH.cons rfl (fun K hK => ?_) ?_
          · go_simp
            go_at_call 104
            (with_reducible refine (C2.out _ hC5).mono ?_)
            rintro e w6 ⟨x6, hy0, hy1, rfl, hg6, hC6⟩
            have hO6 := hO5.grown hg6 hno
            have ho6 := ho5.kept hg6 (Or.inr hap)
            obtain ⟨r0, r1, r2⟩ := id hO6.2.1
            refine hK.out _ _ ?_ (fun hHeld => ?_)
            · (try dsimp only); go_keep
            clear hK K
            try simp only [Act.put, List.setIfInBounds_toArray, List.set_cons_zero, List.set_cons_succ]
            refine wpAnyH_take (i := 10) (oi := { dst := some 29, op := _, type := _, pos := _, after := _, guard := _ }) (v := ?v29n12) rfl (by kernel_rfl) (by kernel_rfl) (by kernel_rfl) (fun _ _ _ h => h) (Or.inl ⟨by rfl, ?hy29n12⟩) (by assumption) ?rest29n12
            case hy29n12 => ((intro w' hSw; (try dsimp only at hSw); go_simp); try (with_reducible rfl))
            try simp only [Act.put, List.setIfInBounds_toArray, List.set_cons_zero, List.set_cons_succ]
            refine wpAnyH_ready (rs := [11]) (by kernel_rfl) (by simp) ?_
            refine AllReadyH.cons rfl (fun K hK => ?_) ?_
            · go_simp
              go_at_call 74
              refine (C3.out w6 (x5, x6) ho6).mono ?_
              rintro e w7 ⟨v7, rfl, ho7, hb7⟩
              obtain ⟨a7, c7, rfl⟩ := ownS_slice ho7
              have hO7 := hO6.below hb7
              obtain ⟨z0, z1, z2⟩ := id hO7.2.1
              have zf := hO7.2.2 2
              obtain ⟨y0, y1, y2⟩ := (box_set2 hO7 (.slice a7 (putP l (x5, x6)).1.length c7)).2.1
              refine hK.out _ _ ?_ (fun hHeld => ?_)
              · (try dsimp only); go_keep
              clear hK K
              try simp only [Act.put, List.setIfInBounds_toArray, List.set_cons_zero, List.set_cons_succ]
              refine wpAnyH_take (i := 12) (oi := { dst := some 18, op := _, type := _, pos := _, after := _, guard := _ }) (v := ?v18n13) rfl (by kernel_rfl) (by kernel_rfl) (by kernel_rfl) (fun _ _ _ h => h) (Or.inl ⟨by rfl, ?hy18n13⟩) (by assumption) ?rest18n13
              case hy18n13 => ((intro w' hSw; (try dsimp only at hSw); go_simp); try (with_reducible rfl))
              try simp only [Act.put, List.setIfInBounds_toArray, List.set_cons_zero, List.set_cons_succ]
              refine wpAnyH_take (i := 13) (oi := { dst := some 31, op := _, type := _, pos := _, after := _, guard := _ }) (v := ?v31n14) rfl (by kernel_rfl) (by kernel_rfl) (by kernel_rfl) (fun _ _ _ h => h) (Or.inl ⟨by rfl, ?hy31n14⟩) (by assumption) ?rest31n14
              case hy31n14 => ((intro w' hSw; (try dsimp only at hSw); go_simp); try (with_reducible rfl))
              try simp only [Act.put, List.setIfInBounds_toArray, List.set_cons_zero, List.set_cons_succ]
              refine wpAnyH_take (i := 14) (oi := { dst := some 32, op := _, type := _, pos := _, after := _, guard := _ }) (v := ?v32n15) rfl (by kernel_rfl) (by kernel_rfl) (by kernel_rfl) (fun _ _ _ h => h) (Or.inl ⟨by rfl, ?hy32n15⟩) (by assumption) ?rest32n15
              case hy32n15 => ((intro w' hSw; (try dsimp only at hSw); go_simp); try (with_reducible rfl))
              try simp only [Act.put, List.setIfInBounds_toArray, List.set_cons_zero, List.set_cons_succ]
              refine wpAnyH_ready (rs := [15]) (by kernel_rfl) (by simp) ?_
              refine AllReadyH.cons rfl (fun K hK => ?_) ?_
              · go_simp
                refine hK.out _ _ ?_ (fun hHeld => ?_)
                · (try dsimp only); go_keep
                clear hK K
                try simp only [Act.put, List.setIfInBounds_toArray, List.set_cons_zero, List.set_cons_succ]
                refine wpAnyH_ready (rs := [16]) (by kernel_rfl) (by simp) ?_
                refine AllReadyH.cons rfl (fun K hK => ?_) ?_
                · go_simp
                  refine hK.out _ _ ?_ (fun hHeld => ?_)
                  · (try dsimp only); go_keep
                  clear hK K
                  try simp only [Act.put, List.setIfInBounds_toArray, List.set_cons_zero, List.set_cons_succ]
                  refine wpAnyH_done (by kernel_rfl) ?_ _
                  have hgr5 := only_trans (only_drew hgr) hg5
                  have hgr6 := only_trans hgr5 hg6
                  have hgr7 := only_trans hgr6 (only_of_below hb7 (some c))
                  have hR5 : BoxW w5 w.heap.size (.int .i64 0) (.int .i64 0) (.slice none 0 0) := (show BoxW wr.drew w.heap.size (.int .i64 0) (.int .i64 0) (.slice none 0 0) from hR).grown hg5 hnc
                  have hR7 := (hR5.grown hg6 hnc).below hb7
                  have hC7 := cur_grown hC6 hb7
                  have hP := Lib.hid (show (putP l (x5, x6)).1.length + (n - 1) ≤ 9 ∧ CylP s t (putP l (x5, x6)).1 from ⟨by have h1 := putP_le l (x5, x6); have h2 := HL.out.1; omega, cyl_put HL.out.2 (by have := HL.out.1; omega) ⟨hx0, hx1⟩ ⟨hy0, hy1⟩⟩)
                  have hob7 := ob_of_lt ho7 hO6.1
                  have ho8 := own_low ho7 (show bo + 1 ≤ w6.heap.size from hO6.1)
                  generalize (putP l (x5, x6)).1 = M at *
                  have hbo7 : bo ≠ w.heap.size := by omega
                  have hR8 := box_set_other hR7 hbo7 2 (.slice a7 M.length c7)
                  have hO8 := box_set2 hO7 (.slice a7 M.length c7)
                  have ho9 := own_set' (p := ⟨bo, 2, none⟩) (u := .slice a7 M.length c7) ho8 hob7
                  have hgr8 : w.grownBy (w7.setCell ⟨bo, 2, none⟩ (.slice a7 M.length c7)) (some c) := only_setCell hgr7 (Or.inr (by show w.heap.size ≤ bo; omega)) _
                  have hC8 : Cur 120 B (w7.setCell ⟨bo, 2, none⟩ (.slice a7 M.length c7)) c := hC7.kept (row := some bo) (only_setCell (World.grownBy.refl _ _) (Or.inl rfl) _) (fun r hr => by injection hr with e; subst e; exact ⟨by have := hC7.1; omega, fun e => hno (by rw [e])⟩)
                  have HALL := Lib.hid (show _ ∧ _ ∧ _ ∧ _ ∧ _ from ⟨ho9, hR8, hO8, hC8, hgr8⟩)
                  clear C1 C2 C3 e0 e1 e2 ef q0 q1 q2 r0 r1 r2 z0 z1 z2 zf y0 y1 y2 hO0 hown0 hO hown hR hCr hgr hO5 ho5 hO6 ho6 hO7 ho7 hb7 hgr5 hgr6 hgr7 hR5 hR7 hC7 ho8 hR8 hO8 ho9 hgr8 hC8 hg5 hg6 hC5 hC6 hob7 hap
                  generalize w7.setCell ⟨bo, 2, none⟩ (.slice a7 M.length c7) = W9 at *
                  go_wp2
                  go_roundw
                  case rel => exact ⟨n - 1, M, _, by omega, by go_num, hP, HALL.out.1, HALL.out.2.1, HALL.out.2.2.1, HALL.out.2.2.2.1, HALL.out.2.2.2.2⟩
                  case measure => simp [intOf]; omega
                exact AllReadyH.nil
              exact AllReadyH.nil
            exact AllReadyH.nil
          exact AllReadyH.nil
        refine AllReadyH.cons rfl (fun K hK => ?_) ?_
        · go_simp
          go_at_call 104
          (with_reducible refine (C2.out _ hC5).mono ?_)
          rintro e w6 ⟨x6, hy0, hy1, rfl, hg6, hC6⟩
          have hO6 := hO5.grown hg6 hno
          have ho6 := ho5.kept hg6 (Or.inr hap)
          obtain ⟨r0, r1, r2⟩ := id hO6.2.1
          refine hK.out _ _ ?_ (fun hHeld => ?_)
          · (try dsimp only); go_keep
          clear hK K
          try simp only [Act.put, List.setIfInBounds_toArray, List.set_cons_zero, List.set_cons_succ]
          refine wpAnyH_take (i := 10) (oi := { dst := some 29, op := _, type := _, pos := _, after := _, guard := _ }) (v := ?v29n16) rfl (by kernel_rfl) (by kernel_rfl) (by kernel_rfl) (fun _ _ _ h => h) (Or.inl ⟨by rfl, ?hy29n16⟩) (by assumption) ?rest29n16
          case hy29n16 => ((intro w' hSw; (try dsimp only at hSw); go_simp); try (with_reducible rfl))
          try simp only [Act.put, List.setIfInBounds_toArray, List.set_cons_zero, List.set_cons_succ]
          refine wpAnyH_ready (rs := [1]) (by kernel_rfl) (by simp) ?_
          refine AllReadyH.cons rfl (fun K hK => ?_) ?_
          · go_simp
            refine hK.out _ _ ?_ (fun hHeld => ?_)
            · (try dsimp only); go_keep
            clear hK K
            try simp only [Act.put, List.setIfInBounds_toArray, List.set_cons_zero, List.set_cons_succ]
            refine wpAnyH_ready (rs := [11]) (by kernel_rfl) (by simp) ?_
            refine AllReadyH.cons rfl (fun K hK => ?_) ?_
            · go_simp
              go_at_call 74
              refine (C3.out w6 (x5, x6) ho6).mono ?_
              rintro e w7 ⟨v7, rfl, ho7, hb7⟩
              obtain ⟨a7, c7, rfl⟩ := ownS_slice ho7
              have hO7 := hO6.below hb7
              obtain ⟨z0, z1, z2⟩ := id hO7.2.1
              have zf := hO7.2.2 2
              obtain ⟨y0, y1, y2⟩ := (box_set2 hO7 (.slice a7 (putP l (x5, x6)).1.length c7)).2.1
              refine hK.out _ _ ?_ (fun hHeld => ?_)
              · (try dsimp only); go_keep
              clear hK K
              try simp only [Act.put, List.setIfInBounds_toArray, List.set_cons_zero, List.set_cons_succ]
              refine wpAnyH_take (i := 12) (oi := { dst := some 18, op := _, type := _, pos := _, after := _, guard := _ }) (v := ?v18n17) rfl (by kernel_rfl) (by kernel_rfl) (by kernel_rfl) (fun _ _ _ h => h) (Or.inl ⟨by rfl, ?hy18n17⟩) (by assumption) ?rest18n17
              case hy18n17 => ((intro w' hSw; (try dsimp only at hSw); go_simp); try (with_reducible rfl))
              try simp only [Act.put, List.setIfInBounds_toArray, List.set_cons_zero, List.set_cons_succ]
              refine wpAnyH_take (i := 13) (oi := { dst := some 31, op := _, type := _, pos := _, after := _, guard := _ }) (v := ?v31n18) rfl (by kernel_rfl) (by kernel_rfl) (by kernel_rfl) (fun _ _ _ h => h) (Or.inl ⟨by rfl, ?hy31n18⟩) (by assumption) ?rest31n18
              case hy31n18 => ((intro w' hSw; (try dsimp only at hSw); go_simp); try (with_reducible rfl))
              try simp only [Act.put, List.setIfInBounds_toArray, List.set_cons_zero, List.set_cons_succ]
              refine wpAnyH_take (i := 14) (oi := { dst := some 32, op := _, type := _, pos := _, after := _, guard := _ }) (v := ?v32n19) rfl (by kernel_rfl) (by kernel_rfl) (by kernel_rfl) (fun _ _ _ h => h) (Or.inl ⟨by rfl, ?hy32n19⟩) (by assumption) ?rest32n19
              case hy32n19 => ((intro w' hSw; (try dsimp only at hSw); go_simp); try (with_reducible rfl))
              try simp only [Act.put, List.setIfInBounds_toArray, List.set_cons_zero, List.set_cons_succ]
              refine wpAnyH_ready (rs := [15]) (by kernel_rfl) (by simp) ?_
              refine AllReadyH.cons rfl (fun K hK => ?_) ?_
              · go_simp
                refine hK.out _ _ ?_ (fun hHeld => ?_)
                · (try dsimp only); go_keep
                clear hK K
                try simp only [Act.put, List.setIfInBounds_toArray, List.set_cons_zero, List.set_cons_succ]
                refine wpAnyH_ready (rs := [16]) (by kernel_rfl) (by simp) ?_
                refine AllReadyH.cons rfl (fun K hK => ?_) ?_
                · go_simp
                  refine hK.out _ _ ?_ (fun hHeld => ?_)
                  · (try dsimp only); go_keep
                  clear hK K
                  try simp only [Act.put, List.setIfInBounds_toArray, List.set_cons_zero, List.set_cons_succ]
                  refine wpAnyH_done (by kernel_rfl) ?_ _
                  have hgr5 := only_trans (only_drew hgr) hg5
                  have hgr6 := only_trans hgr5 hg6
                  have hgr7 := only_trans hgr6 (only_of_below hb7 (some c))
                  have hR5 : BoxW w5 w.heap.size (.int .i64 0) (.int .i64 0) (.slice none 0 0) := (show BoxW wr.drew w.heap.size (.int .i64 0) (.int .i64 0) (.slice none 0 0) from hR).grown hg5 hnc
                  have hR7 := (hR5.grown hg6 hnc).below hb7
                  have hC7 := cur_grown hC6 hb7
                  have hP := Lib.hid (show (putP l (x5, x6)).1.length + (n - 1) ≤ 9 ∧ CylP s t (putP l (x5, x6)).1 from ⟨by have h1 := putP_le l (x5, x6); have h2 := HL.out.1; omega, cyl_put HL.out.2 (by have := HL.out.1; omega) ⟨hx0, hx1⟩ ⟨hy0, hy1⟩⟩)
                  have hob7 := ob_of_lt ho7 hO6.1
                  have ho8 := own_low ho7 (show bo + 1 ≤ w6.heap.size from hO6.1)
                  generalize (putP l (x5, x6)).1 = M at *
                  have hbo7 : bo ≠ w.heap.size := by omega
                  have hR8 := box_set_other hR7 hbo7 2 (.slice a7 M.length c7)
                  have hO8 := box_set2 hO7 (.slice a7 M.length c7)
                  have ho9 := own_set' (p := ⟨bo, 2, none⟩) (u := .slice a7 M.length c7) ho8 hob7
                  have hgr8 : w.grownBy (w7.setCell ⟨bo, 2, none⟩ (.slice a7 M.length c7)) (some c) := only_setCell hgr7 (Or.inr (by show w.heap.size ≤ bo; omega)) _
                  have hC8 : Cur 120 B (w7.setCell ⟨bo, 2, none⟩ (.slice a7 M.length c7)) c := hC7.kept (row := some bo) (only_setCell (World.grownBy.refl _ _) (Or.inl rfl) _) (fun r hr => by injection hr with e; subst e; exact ⟨by have := hC7.1; omega, fun e => hno (by rw [e])⟩)
                  have HALL := Lib.hid (show _ ∧ _ ∧ _ ∧ _ ∧ _ from ⟨ho9, hR8, hO8, hC8, hgr8⟩)
                  clear C1 C2 C3 e0 e1 e2 ef q0 q1 q2 r0 r1 r2 z0 z1 z2 zf y0 y1 y2 hO0 hown0 hO hown hR hCr hgr hO5 ho5 hO6 ho6 hO7 ho7 hb7 hgr5 hgr6 hgr7 hR5 hR7 hC7 ho8 hR8 hO8 ho9 hgr8 hC8 hg5 hg6 hC5 hC6 hob7 hap
                  generalize w7.setCell ⟨bo, 2, none⟩ (.slice a7 M.length c7) = W9 at *
                  go_wp2
                  go_roundw
                  case rel => exact ⟨n - 1, M, _, by omega, by go_num, hP, HALL.out.1, HALL.out.2.1, HALL.out.2.2.1, HALL.out.2.2.2.1, HALL.out.2.2.2.2⟩
                  case measure => simp [intOf]; omega
                exact AllReadyH.nil
              exact AllReadyH.nil
            exact AllReadyH.nil
          exact AllReadyH.nil
        exact AllReadyH.nil
      exact AllReadyH.nil
    · obtain rfl : n = 0 := by omega
      have HD := Lib.hid (show CylDrawn s t l from ⟨hs4, ht1, by have := HL.out.1; omega, HL.out.2⟩)
      obtain ⟨au, cu, rfl⟩ := ownS_slice hown
      obtain ⟨e0, e1, e2⟩ := id hO.2.1
      obtain ⟨d0, d1, d2⟩ := id hR.2.1
      have f0 := hR.2.2 0
      have f1 := hR.2.2 1
      have f2 := hR.2.2 2
      have hq := read3 hR (.int .i64 s) (.int .i64 t) (.slice au l.length cu)
      have ho9 := own_low (wr3_own hown (ob_of_lt hown (show w.heap.size < bo + 1 by omega)) (.int .i64 s) (.int .i64 t) (.slice au l.length cu)) (show w.heap.size ≤ bo + 1 by omega)
      have hgr9 := wr3_only (b := w.heap.size) hgr (Or.inr (Nat.le_refl _)) (.int .i64 s) (.int .i64 t) (.slice au l.length cu)
      have hC9 : Cur 120 B (wr3 wr w.heap.size (.int .i64 s) (.int .i64 t) (.slice au l.length cu)) c := hCr.kept (row := some w.heap.size) (wr3_only (World.grownBy.refl _ _) (Or.inl rfl) _ _ _) (fun r hr => by injection hr with e; subst e; exact ⟨by have := hC.1; omega, fun e => hnc (by rw [e])⟩)
      clear hown hO hR hCr hgr HL
      go_wp2
      exact bodyPost_ret (v := .agg #[.int .i64 s, .int .i64 t, .slice au l.length cu]) (by simp [results, Try.results57, go_sem, hq.1, hq.2.1, hq.2.2]) rfl ⟨s, t, l, _, HD.out, rfl, ho9, hgr9, hC9⟩

theorem code_mono {w : World} {B C : Nat} {v : Value} {n : Nat} (h : Code w B v n) (hB : B ≤ C) : Code w C v n := by
  rcases h with h | ⟨b, off, cap, h1, h2, h3, h4⟩
  · exact Or.inl h
  · exact Or.inr ⟨b, off, cap, h1, h2, Nat.lt_of_lt_of_le h3 hB, h4⟩
theorem drawcyl_any {w : World} {v : Value} {n : Nat} (hC : Code w w.heap.size v n) :
    Calls Try.prog 12 #[v] w fun e w' => ∃ s t l v, CylDrawn s t l ∧ e = .returned (.agg #[.int .i64 s, .int .i64 t, v]) ∧ w'.ownsRow w.heap.size 32 2 v l.length (flat2 l) ∧ Below w.heap.size w w' := by
  go_enter Try.func12, Try.ntmps12
  go_wp2_with fail
  have hb0 : Below w.heap.size w (w.alloc (.cells #[.int .i64 0, .int .i64 0, .slice none 0 0] 26)) := (Below.refl _ _).alloc (Nat.le_refl _) _
  have hR0 : BoxW (w.alloc (.cells #[.int .i64 0, .int .i64 0, .slice none 0 0] 26)) w.heap.size (.int .i64 0) (.int .i64 0) (.slice none 0 0) := boxw_new _ _ _ _ _
  have hC0 := code_mono (hC.below hb0) hb0.size
  refine (new_any hC0).mono ?_
  rintro e w1 ⟨c, rfl, hb1, hC1⟩
  have hR1 := hR0.below hb1
  have g1 := bstep hb0 hb1
  have hcs := hC1.1
  rw [size_alloc] at hcs
  clear hb0 hR0 hb1 hC0
  go_wp2_with fail
  refine (l06cyl_any hC1).mono ?_
  rintro e w2 ⟨s, t, l, v2, hD, rfl, ho2, hg2, hC2⟩
  have HD := Lib.hid hD
  have hR2 := hR1.grown hg2 (by intro e; injection e; omega)
  have g2 := g1.grown hg2 g1.size (fun k hk => by injection hk with e; omega)
  have hob := ob_of_lt ho2 hR1.1
  have ho3 := own_low ho2 g1.size
  clear hR1 g1 hg2 hC2 ho2 hC1 hD
  obtain ⟨a2, c2, rfl⟩ := ownS_slice ho3
  obtain ⟨d0, d1, d2⟩ := id hR2.2.1
  have f0 := hR2.2.2 0
  have f1 := hR2.2.2 1
  have f2 := hR2.2.2 2
  have hq := read3 hR2 (.int .i64 s) (.int .i64 t) (.slice a2 l.length c2)
  have ho9 := wr3_own ho3 hob (.int .i64 s) (.int .i64 t) (.slice a2 l.length c2)
  have hb9 := wr3_below g2 (Nat.le_refl _) (.int .i64 s) (.int .i64 t) (.slice a2 l.length c2)
  clear hR2 g2 ho3
  go_wp2
  exact bodyPost_ret (v := .agg #[.int .i64 s, .int .i64 t, .slice a2 l.length c2]) (by simp [results, Try.results12, go_sem, hq.1, hq.2.1, hq.2.2]) rfl ⟨s, t, l, _, HD.out, rfl, ho9, hb9⟩
end Go.Proofs.Ytcbdoldcdgaooaa
