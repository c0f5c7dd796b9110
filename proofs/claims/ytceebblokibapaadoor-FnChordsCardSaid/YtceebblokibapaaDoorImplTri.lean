/- The program's isTriad and RootOf. No condition. Made by gen_tri.py. -/
import Derived.Test.YtceebblokibapaaDoorImplRoot
import Derived.Deep.RegionHeld3
namespace Go.Proofs.YtceebblokibapaaDoor
open Go.ChangeShapes Go.WideShapes Go.ChangeAt Go.RowKit

set_option maxHeartbeats 1000000 in
theorem triI_a {w : World} (f g4 g3 : Nat → Bool) (r : Nat) (hr : r < 12) (c4 : flagsV f = flagsV g4)
    (hS4 : ∀ (V : World) (v : Value), Rd1 V v [(r : Int), (r : Int) + 4, (r : Int) + 7] → Calls Tryd.prog 40 #[v] V fun e w' => e = .returned (.agg (flagsV g4)) ∧ Below V.heap.size V w')
    (hS3 : ∀ (V : World) (v : Value), Rd1 V v [(r : Int), (r : Int) + 3, (r : Int) + 7] → Calls Tryd.prog 40 #[v] V fun e w' => e = .returned (.agg (flagsV g3)) ∧ Below V.heap.size V w') :
    Calls Tryd.prog 41 #[.agg (flagsV f), .int .i64 (r : Int)] w fun e w' => e = .returned (.bool true) ∧ Below w.heap.size w w' := by
  have HS4 := Lib.hid hS4
  have HS3 := Lib.hid hS3
  have C4 := Lib.hid c4
  skip
  clear c4 hS4 hS3
  have hA : ArrB (w.alloc (.cells (flagsV f) 60)) w.heap.size f := by
    unfold ArrB
    show (w.heap.push _)[w.heap.size]? = _
    simp
  have gW : Below w.heap.size w (w.alloc (.cells (flagsV f) 60)) := (Below.refl _ _).alloc (Nat.le_refl _) _
  have hsz := flagsV_size f
  have e4 : IntKind.i64.wrap ((r : Int) + 4) = (r : Int) + 4 := IntWalk.i64_in _ (by omega)
  have e7 : IntKind.i64.wrap ((r : Int) + 7) = (r : Int) + 7 := IntWalk.i64_in _ (by omega)
  have e3 : IntKind.i64.wrap ((r : Int) + 3) = (r : Int) + 3 := IntWalk.i64_in _ (by omega)
  go_enter Tryd.func41, Tryd.ntmps41
  go_wp2_with fail
  generalize w.alloc (.cells (flagsV f) 60) = W at *
  obtain ⟨bx, hbx⟩ : ∃ b, b = w.heap.size := ⟨_, rfl⟩
  rw [← hbx] at hA
  simp only [← hbx]
  clear hbx
  refine wp_region_held_drew (S := fun w' => ArrB w' bx f) (by kernel_rfl) ?_ (fun hHeld => ?_)
  · exact hA.below (Below.refl _ _).drew
  have gV := gW.drew
  clear hA gW
  generalize W.drew = V at *
  refine wpAnyH_take (i := 0) (oi := { dst := some 5, op := _, type := _, pos := _, after := _, guard := _ }) (v := .agg (flagsV f)) rfl (by kernel_rfl) (by kernel_rfl) (by kernel_rfl) (fun _ _ _ h => h) (Or.inl ⟨by rfl, ?hy5n1⟩) (by assumption) ?rest5n1
  case hy5n1 =>
    intro w' hSw
    have r0 := ArrB.cell hSw (i := 0) (by omega)
    have r1 := ArrB.cell hSw (i := 1) (by omega)
    have r2 := ArrB.cell hSw (i := 2) (by omega)
    have r3 := ArrB.cell hSw (i := 3) (by omega)
    have r4 := ArrB.cell hSw (i := 4) (by omega)
    have r5 := ArrB.cell hSw (i := 5) (by omega)
    have r6 := ArrB.cell hSw (i := 6) (by omega)
    have r7 := ArrB.cell hSw (i := 7) (by omega)
    have r8 := ArrB.cell hSw (i := 8) (by omega)
    have r9 := ArrB.cell hSw (i := 9) (by omega)
    have r10 := ArrB.cell hSw (i := 10) (by omega)
    have r11 := ArrB.cell hSw (i := 11) (by omega)
    clear hSw
    go_simp
    first | done | rfl
  try simp only [Act.put, List.setIfInBounds_toArray, List.set_cons_zero, List.set_cons_succ]
  refine wpAnyH_take (i := 1) (oi := { dst := some 6, op := _, type := _, pos := _, after := _, guard := _ }) (v := ?v6n2) rfl (by kernel_rfl) (by kernel_rfl) (by kernel_rfl) (fun _ _ _ h => h) (Or.inl ⟨by rfl, ?hy6n2⟩) (by assumption) ?rest6n2
  case hy6n2 => ((intro w' hSw; (try dsimp only at hSw); go_simp); try (with_reducible rfl))
  try simp only [Act.put, List.setIfInBounds_toArray, List.set_cons_zero, List.set_cons_succ]
  refine wpAnyH_take (i := 2) (oi := { dst := some 7, op := _, type := _, pos := _, after := _, guard := _ }) (v := ?v7n3) rfl (by kernel_rfl) (by kernel_rfl) (by kernel_rfl) (fun _ _ _ h => h) (Or.inl ⟨by rfl, ?hy7n3⟩) (by assumption) ?rest7n3
  case hy7n3 => ((intro w' hSw; (try dsimp only at hSw); go_simp); try (with_reducible rfl))
  try simp only [Act.put, List.setIfInBounds_toArray, List.set_cons_zero, List.set_cons_succ]
  refine wpAnyH_take (i := 3) (oi := { dst := some 8, op := _, type := _, pos := _, after := _, guard := _ }) (v := ?v8n4) rfl (by kernel_rfl) (by kernel_rfl) (by kernel_rfl) (fun _ _ _ h => h) (Or.inl ⟨by rfl, ?hy8n4⟩) (by assumption) ?rest8n4
  case hy8n4 => ((intro w' hSw; (try dsimp only at hSw); go_simp); try (with_reducible rfl))
  try simp only [Act.put, List.setIfInBounds_toArray, List.set_cons_zero, List.set_cons_succ]
  refine wpAnyH_take (i := 4) (oi := { dst := some 9, op := _, type := _, pos := _, after := _, guard := _ }) (v := ?v9n5) rfl (by kernel_rfl) (by kernel_rfl) (by kernel_rfl) (fun _ _ _ h => h) (Or.inl ⟨by rfl, ?hy9n5⟩) (by assumption) ?rest9n5
  case hy9n5 => ((intro w' hSw; (try dsimp only at hSw); go_simp); try (with_reducible rfl))
  try simp only [Act.put, List.setIfInBounds_toArray, List.set_cons_zero, List.set_cons_succ]
  refine wpAnyH_take (i := 5) (oi := { dst := some 10, op := _, type := _, pos := _, after := _, guard := _ }) (v := ?v10n6) rfl (by kernel_rfl) (by kernel_rfl) (by kernel_rfl) (fun _ _ _ h => h) (Or.inl ⟨by rfl, ?hy10n6⟩) (by assumption) ?rest10n6
  case hy10n6 => ((intro w' hSw; (try dsimp only at hSw); go_simp); try (with_reducible rfl))
  try simp only [Act.put, List.setIfInBounds_toArray, List.set_cons_zero, List.set_cons_succ]
  refine wpAnyH_ready (rs := [6]) (by kernel_rfl) (by simp) ?_
  refine AllReadyH.cons rfl (fun K hK => ?_) ?_
  · go_simp
    have hb1 := (Below.refl V.heap.size V).alloc (Nat.le_refl _) (.cells #[.int .i64 (r : Int), .int .i64 ((r : Int) + 4), .int .i64 ((r : Int) + 7)] 3)
    have hR1 := rd1_made V [(r : Int), (r : Int) + 4, (r : Int) + 7] 3 (by unfold maxLen; simp)
    simp only [List.map_cons, List.map_nil, intV, List.length_cons, List.length_nil, Nat.reduceAdd] at hR1
    have hH1 := hHeld.below hb1
    replace gV := bstep gV hb1
    clear hb1 hHeld
    generalize V.alloc (.cells #[.int .i64 (r : Int), .int .i64 ((r : Int) + 4), .int .i64 ((r : Int) + 7)] 3) = V1 at *
    generalize V.heap.size = q1 at *
    refine hK.out _ _ ?_ (fun hHeld => ?_)
    · (try dsimp only); exact hH1
    clear hK K
    try simp only [Act.put, List.setIfInBounds_toArray, List.set_cons_zero, List.set_cons_succ]
    refine wpAnyH_ready (rs := [7]) (by kernel_rfl) (by simp) ?_
    refine AllReadyH.cons rfl (fun K hK => ?_) ?_
    · go_simp
      go_at_call 40
      (with_reducible refine (HS4.out _ _ hR1).mono ?_)
      rintro e wa1 ⟨rfl, ka⟩
      have hH := hHeld.below ka
      replace gV := bstep gV ka
      clear ka hHeld hR1
      refine hK.out _ _ ?_ (fun hHeld => ?_)
      · (try dsimp only); exact hH
      clear hK K
      try simp only [Act.put, List.setIfInBounds_toArray, List.set_cons_zero, List.set_cons_succ]
      refine wpAnyH_take (i := 8) (oi := { dst := some 13, op := _, type := _, pos := _, after := _, guard := _ }) (v := .bool true) rfl (by kernel_rfl) (by kernel_rfl) (by kernel_rfl) (fun _ _ _ h => h) (Or.inl ⟨by rfl, ?hy13n7⟩) (by assumption) ?rest13n7
      case hy13n7 =>
        intro w' hSw
        clear hSw
        go_simp
        try rw [run_flags_yes w' C4.out]
        first | done | rfl
      try simp only [Act.put, List.setIfInBounds_toArray, List.set_cons_zero, List.set_cons_succ]
      refine wpAnyH_take (i := 9) (oi := { dst := some 14, op := _, type := _, pos := _, after := _, guard := _ }) (v := ?v14n8) rfl (by kernel_rfl) (by kernel_rfl) (by kernel_rfl) (fun _ _ _ h => h) (Or.inl ⟨by rfl, ?hy14n8⟩) (by assumption) ?rest14n8
      case hy14n8 => ((intro w' hSw; (try dsimp only at hSw); go_simp); try (with_reducible rfl))
      try simp only [Act.put, List.setIfInBounds_toArray, List.set_cons_zero, List.set_cons_succ]
      refine wpAnyH_take (i := 10) (oi := { dst := some 15, op := _, type := _, pos := _, after := _, guard := _ }) (v := undef) rfl (by kernel_rfl) (by kernel_rfl) (by kernel_rfl) (fun _ _ _ h => h) (Or.inr ⟨by rfl, rfl⟩) (by assumption) ?rest15n9
      try simp only [Act.put, List.setIfInBounds_toArray, List.set_cons_zero, List.set_cons_succ]
      refine wpAnyH_take (i := 11) (oi := { dst := some 16, op := _, type := _, pos := _, after := _, guard := _ }) (v := undef) rfl (by kernel_rfl) (by kernel_rfl) (by kernel_rfl) (fun _ _ _ h => h) (Or.inr ⟨by rfl, rfl⟩) (by assumption) ?rest16n10
      try simp only [Act.put, List.setIfInBounds_toArray, List.set_cons_zero, List.set_cons_succ]
      refine wpAnyH_take (i := 12) (oi := { dst := some 17, op := _, type := _, pos := _, after := _, guard := _ }) (v := undef) rfl (by kernel_rfl) (by kernel_rfl) (by kernel_rfl) (fun _ _ _ h => h) (Or.inr ⟨by rfl, rfl⟩) (by assumption) ?rest17n11
      try simp only [Act.put, List.setIfInBounds_toArray, List.set_cons_zero, List.set_cons_succ]
      refine wpAnyH_take (i := 13) (oi := { dst := some 18, op := _, type := _, pos := _, after := _, guard := _ }) (v := undef) rfl (by kernel_rfl) (by kernel_rfl) (by kernel_rfl) (fun _ _ _ h => h) (Or.inr ⟨by rfl, rfl⟩) (by assumption) ?rest18n12
      try simp only [Act.put, List.setIfInBounds_toArray, List.set_cons_zero, List.set_cons_succ]
      refine wpAnyH_take (i := 14) (oi := { dst := some 19, op := _, type := _, pos := _, after := _, guard := _ }) (v := undef) rfl (by kernel_rfl) (by kernel_rfl) (by kernel_rfl) (fun _ _ _ h => h) (Or.inr ⟨by rfl, rfl⟩) (by assumption) ?rest19n13
      try simp only [Act.put, List.setIfInBounds_toArray, List.set_cons_zero, List.set_cons_succ]
      refine wpAnyH_take (i := 15) (oi := { dst := some 20, op := _, type := _, pos := _, after := _, guard := _ }) (v := undef) rfl (by kernel_rfl) (by kernel_rfl) (by kernel_rfl) (fun _ _ _ h => h) (Or.inr ⟨by rfl, rfl⟩) (by assumption) ?rest20n14
      try simp only [Act.put, List.setIfInBounds_toArray, List.set_cons_zero, List.set_cons_succ]
      refine wpAnyH_take (i := 16) (oi := { dst := some 21, op := _, type := _, pos := _, after := _, guard := _ }) (v := undef) rfl (by kernel_rfl) (by kernel_rfl) (by kernel_rfl) (fun _ _ _ h => h) (Or.inr ⟨by rfl, rfl⟩) (by assumption) ?rest21n15
      try simp only [Act.put, List.setIfInBounds_toArray, List.set_cons_zero, List.set_cons_succ]
      refine wpAnyH_take (i := 17) (oi := { dst := some 22, op := _, type := _, pos := _, after := _, guard := _ }) (v := undef) rfl (by kernel_rfl) (by kernel_rfl) (by kernel_rfl) (fun _ _ _ h => h) (Or.inr ⟨by rfl, rfl⟩) (by assumption) ?rest22n16
      try simp only [Act.put, List.setIfInBounds_toArray, List.set_cons_zero, List.set_cons_succ]
      refine wpAnyH_take (i := 18) (oi := { dst := some 23, op := _, type := _, pos := _, after := _, guard := _ }) (v := undef) rfl (by kernel_rfl) (by kernel_rfl) (by kernel_rfl) (fun _ _ _ h => h) (Or.inr ⟨by rfl, rfl⟩) (by assumption) ?rest23n17
      try simp only [Act.put, List.setIfInBounds_toArray, List.set_cons_zero, List.set_cons_succ]
      refine wpAnyH_take (i := 19) (oi := { dst := some 24, op := _, type := _, pos := _, after := _, guard := _ }) (v := ?v24n18) rfl (by kernel_rfl) (by kernel_rfl) (by kernel_rfl) (fun _ _ _ h => h) (Or.inl ⟨by rfl, ?hy24n18⟩) (by assumption) ?rest24n18
      case hy24n18 => ((intro w' hSw; (try dsimp only at hSw); go_simp); try (with_reducible rfl))
      try simp only [Act.put, List.setIfInBounds_toArray, List.set_cons_zero, List.set_cons_succ]
      refine wpAnyH_take (i := 20) (oi := { dst := some 4, op := _, type := _, pos := _, after := _, guard := _ }) (v := ?v4n19) rfl (by kernel_rfl) (by kernel_rfl) (by kernel_rfl) (fun _ _ _ h => h) (Or.inl ⟨by rfl, ?hy4n19⟩) (by assumption) ?rest4n19
      case hy4n19 => ((intro w' hSw; (try dsimp only at hSw); go_simp); try (with_reducible rfl))
      try simp only [Act.put, List.setIfInBounds_toArray, List.set_cons_zero, List.set_cons_succ]
      refine wpAnyH_done (by kernel_rfl) ?_ _
      go_wp2
      go_ret
      exact ⟨rfl, gV⟩
    exact AllReadyH.nil
  exact AllReadyH.nil

set_option maxHeartbeats 1000000 in
theorem triI_b {w : World} (f g4 g3 : Nat → Bool) (r : Nat) (hr : r < 12) (c4 : ¬ flagsV f = flagsV g4) (c3 : flagsV f = flagsV g3)
    (hS4 : ∀ (V : World) (v : Value), Rd1 V v [(r : Int), (r : Int) + 4, (r : Int) + 7] → Calls Tryd.prog 40 #[v] V fun e w' => e = .returned (.agg (flagsV g4)) ∧ Below V.heap.size V w')
    (hS3 : ∀ (V : World) (v : Value), Rd1 V v [(r : Int), (r : Int) + 3, (r : Int) + 7] → Calls Tryd.prog 40 #[v] V fun e w' => e = .returned (.agg (flagsV g3)) ∧ Below V.heap.size V w') :
    Calls Tryd.prog 41 #[.agg (flagsV f), .int .i64 (r : Int)] w fun e w' => e = .returned (.bool true) ∧ Below w.heap.size w w' := by
  have HS4 := Lib.hid hS4
  have HS3 := Lib.hid hS3
  have C4 := Lib.hid c4
  have C3 := Lib.hid c3
  clear c4 c3 hS4 hS3
  have hA : ArrB (w.alloc (.cells (flagsV f) 60)) w.heap.size f := by
    unfold ArrB
    show (w.heap.push _)[w.heap.size]? = _
    simp
  have gW : Below w.heap.size w (w.alloc (.cells (flagsV f) 60)) := (Below.refl _ _).alloc (Nat.le_refl _) _
  have hsz := flagsV_size f
  have e4 : IntKind.i64.wrap ((r : Int) + 4) = (r : Int) + 4 := IntWalk.i64_in _ (by omega)
  have e7 : IntKind.i64.wrap ((r : Int) + 7) = (r : Int) + 7 := IntWalk.i64_in _ (by omega)
  have e3 : IntKind.i64.wrap ((r : Int) + 3) = (r : Int) + 3 := IntWalk.i64_in _ (by omega)
  go_enter Tryd.func41, Tryd.ntmps41
  go_wp2_with fail
  generalize w.alloc (.cells (flagsV f) 60) = W at *
  obtain ⟨bx, hbx⟩ : ∃ b, b = w.heap.size := ⟨_, rfl⟩
  rw [← hbx] at hA
  simp only [← hbx]
  clear hbx
  refine wp_region_held_drew (S := fun w' => ArrB w' bx f) (by kernel_rfl) ?_ (fun hHeld => ?_)
  · exact hA.below (Below.refl _ _).drew
  have gV := gW.drew
  clear hA gW
  generalize W.drew = V at *
  refine wpAnyH_take (i := 0) (oi := { dst := some 5, op := _, type := _, pos := _, after := _, guard := _ }) (v := .agg (flagsV f)) rfl (by kernel_rfl) (by kernel_rfl) (by kernel_rfl) (fun _ _ _ h => h) (Or.inl ⟨by rfl, ?hy5n1⟩) (by assumption) ?rest5n1
  case hy5n1 =>
    intro w' hSw
    have r0 := ArrB.cell hSw (i := 0) (by omega)
    have r1 := ArrB.cell hSw (i := 1) (by omega)
    have r2 := ArrB.cell hSw (i := 2) (by omega)
    have r3 := ArrB.cell hSw (i := 3) (by omega)
    have r4 := ArrB.cell hSw (i := 4) (by omega)
    have r5 := ArrB.cell hSw (i := 5) (by omega)
    have r6 := ArrB.cell hSw (i := 6) (by omega)
    have r7 := ArrB.cell hSw (i := 7) (by omega)
    have r8 := ArrB.cell hSw (i := 8) (by omega)
    have r9 := ArrB.cell hSw (i := 9) (by omega)
    have r10 := ArrB.cell hSw (i := 10) (by omega)
    have r11 := ArrB.cell hSw (i := 11) (by omega)
    clear hSw
    go_simp
    first | done | rfl
  try simp only [Act.put, List.setIfInBounds_toArray, List.set_cons_zero, List.set_cons_succ]
  refine wpAnyH_take (i := 1) (oi := { dst := some 6, op := _, type := _, pos := _, after := _, guard := _ }) (v := ?v6n2) rfl (by kernel_rfl) (by kernel_rfl) (by kernel_rfl) (fun _ _ _ h => h) (Or.inl ⟨by rfl, ?hy6n2⟩) (by assumption) ?rest6n2
  case hy6n2 => ((intro w' hSw; (try dsimp only at hSw); go_simp); try (with_reducible rfl))
  try simp only [Act.put, List.setIfInBounds_toArray, List.set_cons_zero, List.set_cons_succ]
  refine wpAnyH_take (i := 2) (oi := { dst := some 7, op := _, type := _, pos := _, after := _, guard := _ }) (v := ?v7n3) rfl (by kernel_rfl) (by kernel_rfl) (by kernel_rfl) (fun _ _ _ h => h) (Or.inl ⟨by rfl, ?hy7n3⟩) (by assumption) ?rest7n3
  case hy7n3 => ((intro w' hSw; (try dsimp only at hSw); go_simp); try (with_reducible rfl))
  try simp only [Act.put, List.setIfInBounds_toArray, List.set_cons_zero, List.set_cons_succ]
  refine wpAnyH_take (i := 3) (oi := { dst := some 8, op := _, type := _, pos := _, after := _, guard := _ }) (v := ?v8n4) rfl (by kernel_rfl) (by kernel_rfl) (by kernel_rfl) (fun _ _ _ h => h) (Or.inl ⟨by rfl, ?hy8n4⟩) (by assumption) ?rest8n4
  case hy8n4 => ((intro w' hSw; (try dsimp only at hSw); go_simp); try (with_reducible rfl))
  try simp only [Act.put, List.setIfInBounds_toArray, List.set_cons_zero, List.set_cons_succ]
  refine wpAnyH_take (i := 4) (oi := { dst := some 9, op := _, type := _, pos := _, after := _, guard := _ }) (v := ?v9n5) rfl (by kernel_rfl) (by kernel_rfl) (by kernel_rfl) (fun _ _ _ h => h) (Or.inl ⟨by rfl, ?hy9n5⟩) (by assumption) ?rest9n5
  case hy9n5 => ((intro w' hSw; (try dsimp only at hSw); go_simp); try (with_reducible rfl))
  try simp only [Act.put, List.setIfInBounds_toArray, List.set_cons_zero, List.set_cons_succ]
  refine wpAnyH_take (i := 5) (oi := { dst := some 10, op := _, type := _, pos := _, after := _, guard := _ }) (v := ?v10n6) rfl (by kernel_rfl) (by kernel_rfl) (by kernel_rfl) (fun _ _ _ h => h) (Or.inl ⟨by rfl, ?hy10n6⟩) (by assumption) ?rest10n6
  case hy10n6 => ((intro w' hSw; (try dsimp only at hSw); go_simp); try (with_reducible rfl))
  try simp only [Act.put, List.setIfInBounds_toArray, List.set_cons_zero, List.set_cons_succ]
  refine wpAnyH_ready (rs := [6]) (by kernel_rfl) (by simp) ?_
  refine AllReadyH.cons rfl (fun K hK => ?_) ?_
  · go_simp
    have hb1 := (Below.refl V.heap.size V).alloc (Nat.le_refl _) (.cells #[.int .i64 (r : Int), .int .i64 ((r : Int) + 4), .int .i64 ((r : Int) + 7)] 3)
    have hR1 := rd1_made V [(r : Int), (r : Int) + 4, (r : Int) + 7] 3 (by unfold maxLen; simp)
    simp only [List.map_cons, List.map_nil, intV, List.length_cons, List.length_nil, Nat.reduceAdd] at hR1
    have hH1 := hHeld.below hb1
    replace gV := bstep gV hb1
    clear hb1 hHeld
    generalize V.alloc (.cells #[.int .i64 (r : Int), .int .i64 ((r : Int) + 4), .int .i64 ((r : Int) + 7)] 3) = V1 at *
    generalize V.heap.size = q1 at *
    refine hK.out _ _ ?_ (fun hHeld => ?_)
    · (try dsimp only); exact hH1
    clear hK K
    try simp only [Act.put, List.setIfInBounds_toArray, List.set_cons_zero, List.set_cons_succ]
    refine wpAnyH_ready (rs := [7]) (by kernel_rfl) (by simp) ?_
    refine AllReadyH.cons rfl (fun K hK => ?_) ?_
    · go_simp
      go_at_call 40
      (with_reducible refine (HS4.out _ _ hR1).mono ?_)
      rintro e wa1 ⟨rfl, ka⟩
      have hH := hHeld.below ka
      replace gV := bstep gV ka
      clear ka hHeld hR1
      refine hK.out _ _ ?_ (fun hHeld => ?_)
      · (try dsimp only); exact hH
      clear hK K
      try simp only [Act.put, List.setIfInBounds_toArray, List.set_cons_zero, List.set_cons_succ]
      refine wpAnyH_take (i := 8) (oi := { dst := some 13, op := _, type := _, pos := _, after := _, guard := _ }) (v := .bool false) rfl (by kernel_rfl) (by kernel_rfl) (by kernel_rfl) (fun _ _ _ h => h) (Or.inl ⟨by rfl, ?hy13n10⟩) (by assumption) ?rest13n10
      case hy13n10 =>
        intro w' hSw
        clear hSw
        go_simp
        try rw [run_flags_no w' C4.out]
        first | done | rfl
      try simp only [Act.put, List.setIfInBounds_toArray, List.set_cons_zero, List.set_cons_succ]
      refine wpAnyH_take (i := 9) (oi := { dst := some 14, op := _, type := _, pos := _, after := _, guard := _ }) (v := ?v14n11) rfl (by kernel_rfl) (by kernel_rfl) (by kernel_rfl) (fun _ _ _ h => h) (Or.inl ⟨by rfl, ?hy14n11⟩) (by assumption) ?rest14n11
      case hy14n11 => ((intro w' hSw; (try dsimp only at hSw); go_simp); try (with_reducible rfl))
      try simp only [Act.put, List.setIfInBounds_toArray, List.set_cons_zero, List.set_cons_succ]
      refine wpAnyH_take (i := 10) (oi := { dst := some 15, op := _, type := _, pos := _, after := _, guard := _ }) (v := .agg (flagsV f)) rfl (by kernel_rfl) (by kernel_rfl) (by kernel_rfl) (fun _ _ _ h => h) (Or.inl ⟨by rfl, ?hy15n12⟩) (by assumption) ?rest15n12
      case hy15n12 =>
        intro w' hSw
        have r0 := ArrB.cell hSw (i := 0) (by omega)
        have r1 := ArrB.cell hSw (i := 1) (by omega)
        have r2 := ArrB.cell hSw (i := 2) (by omega)
        have r3 := ArrB.cell hSw (i := 3) (by omega)
        have r4 := ArrB.cell hSw (i := 4) (by omega)
        have r5 := ArrB.cell hSw (i := 5) (by omega)
        have r6 := ArrB.cell hSw (i := 6) (by omega)
        have r7 := ArrB.cell hSw (i := 7) (by omega)
        have r8 := ArrB.cell hSw (i := 8) (by omega)
        have r9 := ArrB.cell hSw (i := 9) (by omega)
        have r10 := ArrB.cell hSw (i := 10) (by omega)
        have r11 := ArrB.cell hSw (i := 11) (by omega)
        clear hSw
        go_simp
        first | done | rfl
      try simp only [Act.put, List.setIfInBounds_toArray, List.set_cons_zero, List.set_cons_succ]
      refine wpAnyH_take (i := 11) (oi := { dst := some 16, op := _, type := _, pos := _, after := _, guard := _ }) (v := ?v16n13) rfl (by kernel_rfl) (by kernel_rfl) (by kernel_rfl) (fun _ _ _ h => h) (Or.inl ⟨by rfl, ?hy16n13⟩) (by assumption) ?rest16n13
      case hy16n13 => ((intro w' hSw; (try dsimp only at hSw); go_simp); try (with_reducible rfl))
      try simp only [Act.put, List.setIfInBounds_toArray, List.set_cons_zero, List.set_cons_succ]
      refine wpAnyH_take (i := 12) (oi := { dst := some 17, op := _, type := _, pos := _, after := _, guard := _ }) (v := ?v17n14) rfl (by kernel_rfl) (by kernel_rfl) (by kernel_rfl) (fun _ _ _ h => h) (Or.inl ⟨by rfl, ?hy17n14⟩) (by assumption) ?rest17n14
      case hy17n14 => ((intro w' hSw; (try dsimp only at hSw); go_simp); try (with_reducible rfl))
      try simp only [Act.put, List.setIfInBounds_toArray, List.set_cons_zero, List.set_cons_succ]
      refine wpAnyH_take (i := 13) (oi := { dst := some 18, op := _, type := _, pos := _, after := _, guard := _ }) (v := ?v18n15) rfl (by kernel_rfl) (by kernel_rfl) (by kernel_rfl) (fun _ _ _ h => h) (Or.inl ⟨by rfl, ?hy18n15⟩) (by assumption) ?rest18n15
      case hy18n15 => ((intro w' hSw; (try dsimp only at hSw); go_simp); try (with_reducible rfl))
      try simp only [Act.put, List.setIfInBounds_toArray, List.set_cons_zero, List.set_cons_succ]
      refine wpAnyH_take (i := 14) (oi := { dst := some 19, op := _, type := _, pos := _, after := _, guard := _ }) (v := ?v19n16) rfl (by kernel_rfl) (by kernel_rfl) (by kernel_rfl) (fun _ _ _ h => h) (Or.inl ⟨by rfl, ?hy19n16⟩) (by assumption) ?rest19n16
      case hy19n16 => ((intro w' hSw; (try dsimp only at hSw); go_simp); try (with_reducible rfl))
      try simp only [Act.put, List.setIfInBounds_toArray, List.set_cons_zero, List.set_cons_succ]
      refine wpAnyH_take (i := 15) (oi := { dst := some 20, op := _, type := _, pos := _, after := _, guard := _ }) (v := ?v20n17) rfl (by kernel_rfl) (by kernel_rfl) (by kernel_rfl) (fun _ _ _ h => h) (Or.inl ⟨by rfl, ?hy20n17⟩) (by assumption) ?rest20n17
      case hy20n17 => ((intro w' hSw; (try dsimp only at hSw); go_simp); try (with_reducible rfl))
      try simp only [Act.put, List.setIfInBounds_toArray, List.set_cons_zero, List.set_cons_succ]
      refine wpAnyH_ready (rs := [16]) (by kernel_rfl) (by simp) ?_
      refine AllReadyH.cons rfl (fun K hK => ?_) ?_
      · go_simp
        have hb2 := (Below.refl wa1.heap.size wa1).alloc (Nat.le_refl _) (.cells #[.int .i64 (r : Int), .int .i64 ((r : Int) + 3), .int .i64 ((r : Int) + 7)] 3)
        have hR2 := rd1_made wa1 [(r : Int), (r : Int) + 3, (r : Int) + 7] 3 (by unfold maxLen; simp)
        simp only [List.map_cons, List.map_nil, intV, List.length_cons, List.length_nil, Nat.reduceAdd] at hR2
        have hH2 := hHeld.below hb2
        replace gV := bstep gV hb2
        clear hb2 hHeld
        generalize wa1.alloc (.cells #[.int .i64 (r : Int), .int .i64 ((r : Int) + 3), .int .i64 ((r : Int) + 7)] 3) = V2 at *
        generalize wa1.heap.size = q2 at *
        refine hK.out _ _ ?_ (fun hHeld => ?_)
        · (try dsimp only); exact hH2
        clear hK K
        try simp only [Act.put, List.setIfInBounds_toArray, List.set_cons_zero, List.set_cons_succ]
        refine wpAnyH_ready (rs := [17]) (by kernel_rfl) (by simp) ?_
        refine AllReadyH.cons rfl (fun K hK => ?_) ?_
        · go_simp
          go_at_call 40
          (with_reducible refine (HS3.out _ _ hR2).mono ?_)
          rintro e wa2 ⟨rfl, ka⟩
          have hH := hHeld.below ka
          replace gV := bstep gV ka
          clear ka hHeld hR2
          refine hK.out _ _ ?_ (fun hHeld => ?_)
          · (try dsimp only); exact hH
          clear hK K
          try simp only [Act.put, List.setIfInBounds_toArray, List.set_cons_zero, List.set_cons_succ]
          refine wpAnyH_take (i := 18) (oi := { dst := some 23, op := _, type := _, pos := _, after := _, guard := _ }) (v := .bool true) rfl (by kernel_rfl) (by kernel_rfl) (by kernel_rfl) (fun _ _ _ h => h) (Or.inl ⟨by rfl, ?hy23n7⟩) (by assumption) ?rest23n7
          case hy23n7 =>
            intro w' hSw
            clear hSw
            go_simp
            try rw [run_flags_yes w' C3.out]
            first | done | rfl
          try simp only [Act.put, List.setIfInBounds_toArray, List.set_cons_zero, List.set_cons_succ]
          refine wpAnyH_take (i := 19) (oi := { dst := some 24, op := _, type := _, pos := _, after := _, guard := _ }) (v := ?v24n8) rfl (by kernel_rfl) (by kernel_rfl) (by kernel_rfl) (fun _ _ _ h => h) (Or.inl ⟨by rfl, ?hy24n8⟩) (by assumption) ?rest24n8
          case hy24n8 => ((intro w' hSw; (try dsimp only at hSw); go_simp); try (with_reducible rfl))
          try simp only [Act.put, List.setIfInBounds_toArray, List.set_cons_zero, List.set_cons_succ]
          refine wpAnyH_take (i := 20) (oi := { dst := some 4, op := _, type := _, pos := _, after := _, guard := _ }) (v := ?v4n9) rfl (by kernel_rfl) (by kernel_rfl) (by kernel_rfl) (fun _ _ _ h => h) (Or.inl ⟨by rfl, ?hy4n9⟩) (by assumption) ?rest4n9
          case hy4n9 => ((intro w' hSw; (try dsimp only at hSw); go_simp); try (with_reducible rfl))
          try simp only [Act.put, List.setIfInBounds_toArray, List.set_cons_zero, List.set_cons_succ]
          refine wpAnyH_done (by kernel_rfl) ?_ _
          go_wp2
          go_ret
          exact ⟨rfl, gV⟩
        exact AllReadyH.nil
      exact AllReadyH.nil
    exact AllReadyH.nil
  exact AllReadyH.nil

set_option maxHeartbeats 1000000 in
theorem triI_c {w : World} (f g4 g3 : Nat → Bool) (r : Nat) (hr : r < 12) (c4 : ¬ flagsV f = flagsV g4) (c3 : ¬ flagsV f = flagsV g3)
    (hS4 : ∀ (V : World) (v : Value), Rd1 V v [(r : Int), (r : Int) + 4, (r : Int) + 7] → Calls Tryd.prog 40 #[v] V fun e w' => e = .returned (.agg (flagsV g4)) ∧ Below V.heap.size V w')
    (hS3 : ∀ (V : World) (v : Value), Rd1 V v [(r : Int), (r : Int) + 3, (r : Int) + 7] → Calls Tryd.prog 40 #[v] V fun e w' => e = .returned (.agg (flagsV g3)) ∧ Below V.heap.size V w') :
    Calls Tryd.prog 41 #[.agg (flagsV f), .int .i64 (r : Int)] w fun e w' => e = .returned (.bool false) ∧ Below w.heap.size w w' := by
  have HS4 := Lib.hid hS4
  have HS3 := Lib.hid hS3
  have C4 := Lib.hid c4
  have C3 := Lib.hid c3
  clear c4 c3 hS4 hS3
  have hA : ArrB (w.alloc (.cells (flagsV f) 60)) w.heap.size f := by
    unfold ArrB
    show (w.heap.push _)[w.heap.size]? = _
    simp
  have gW : Below w.heap.size w (w.alloc (.cells (flagsV f) 60)) := (Below.refl _ _).alloc (Nat.le_refl _) _
  have hsz := flagsV_size f
  have e4 : IntKind.i64.wrap ((r : Int) + 4) = (r : Int) + 4 := IntWalk.i64_in _ (by omega)
  have e7 : IntKind.i64.wrap ((r : Int) + 7) = (r : Int) + 7 := IntWalk.i64_in _ (by omega)
  have e3 : IntKind.i64.wrap ((r : Int) + 3) = (r : Int) + 3 := IntWalk.i64_in _ (by omega)
  go_enter Tryd.func41, Tryd.ntmps41
  go_wp2_with fail
  generalize w.alloc (.cells (flagsV f) 60) = W at *
  obtain ⟨bx, hbx⟩ : ∃ b, b = w.heap.size := ⟨_, rfl⟩
  rw [← hbx] at hA
  simp only [← hbx]
  clear hbx
  refine wp_region_held_drew (S := fun w' => ArrB w' bx f) (by kernel_rfl) ?_ (fun hHeld => ?_)
  · exact hA.below (Below.refl _ _).drew
  have gV := gW.drew
  clear hA gW
  generalize W.drew = V at *
  refine wpAnyH_take (i := 0) (oi := { dst := some 5, op := _, type := _, pos := _, after := _, guard := _ }) (v := .agg (flagsV f)) rfl (by kernel_rfl) (by kernel_rfl) (by kernel_rfl) (fun _ _ _ h => h) (Or.inl ⟨by rfl, ?hy5n1⟩) (by assumption) ?rest5n1
  case hy5n1 =>
    intro w' hSw
    have r0 := ArrB.cell hSw (i := 0) (by omega)
    have r1 := ArrB.cell hSw (i := 1) (by omega)
    have r2 := ArrB.cell hSw (i := 2) (by omega)
    have r3 := ArrB.cell hSw (i := 3) (by omega)
    have r4 := ArrB.cell hSw (i := 4) (by omega)
    have r5 := ArrB.cell hSw (i := 5) (by omega)
    have r6 := ArrB.cell hSw (i := 6) (by omega)
    have r7 := ArrB.cell hSw (i := 7) (by omega)
    have r8 := ArrB.cell hSw (i := 8) (by omega)
    have r9 := ArrB.cell hSw (i := 9) (by omega)
    have r10 := ArrB.cell hSw (i := 10) (by omega)
    have r11 := ArrB.cell hSw (i := 11) (by omega)
    clear hSw
    go_simp
    first | done | rfl
  try simp only [Act.put, List.setIfInBounds_toArray, List.set_cons_zero, List.set_cons_succ]
  refine wpAnyH_take (i := 1) (oi := { dst := some 6, op := _, type := _, pos := _, after := _, guard := _ }) (v := ?v6n2) rfl (by kernel_rfl) (by kernel_rfl) (by kernel_rfl) (fun _ _ _ h => h) (Or.inl ⟨by rfl, ?hy6n2⟩) (by assumption) ?rest6n2
  case hy6n2 => ((intro w' hSw; (try dsimp only at hSw); go_simp); try (with_reducible rfl))
  try simp only [Act.put, List.setIfInBounds_toArray, List.set_cons_zero, List.set_cons_succ]
  refine wpAnyH_take (i := 2) (oi := { dst := some 7, op := _, type := _, pos := _, after := _, guard := _ }) (v := ?v7n3) rfl (by kernel_rfl) (by kernel_rfl) (by kernel_rfl) (fun _ _ _ h => h) (Or.inl ⟨by rfl, ?hy7n3⟩) (by assumption) ?rest7n3
  case hy7n3 => ((intro w' hSw; (try dsimp only at hSw); go_simp); try (with_reducible rfl))
  try simp only [Act.put, List.setIfInBounds_toArray, List.set_cons_zero, List.set_cons_succ]
  refine wpAnyH_take (i := 3) (oi := { dst := some 8, op := _, type := _, pos := _, after := _, guard := _ }) (v := ?v8n4) rfl (by kernel_rfl) (by kernel_rfl) (by kernel_rfl) (fun _ _ _ h => h) (Or.inl ⟨by rfl, ?hy8n4⟩) (by assumption) ?rest8n4
  case hy8n4 => ((intro w' hSw; (try dsimp only at hSw); go_simp); try (with_reducible rfl))
  try simp only [Act.put, List.setIfInBounds_toArray, List.set_cons_zero, List.set_cons_succ]
  refine wpAnyH_take (i := 4) (oi := { dst := some 9, op := _, type := _, pos := _, after := _, guard := _ }) (v := ?v9n5) rfl (by kernel_rfl) (by kernel_rfl) (by kernel_rfl) (fun _ _ _ h => h) (Or.inl ⟨by rfl, ?hy9n5⟩) (by assumption) ?rest9n5
  case hy9n5 => ((intro w' hSw; (try dsimp only at hSw); go_simp); try (with_reducible rfl))
  try simp only [Act.put, List.setIfInBounds_toArray, List.set_cons_zero, List.set_cons_succ]
  refine wpAnyH_take (i := 5) (oi := { dst := some 10, op := _, type := _, pos := _, after := _, guard := _ }) (v := ?v10n6) rfl (by kernel_rfl) (by kernel_rfl) (by kernel_rfl) (fun _ _ _ h => h) (Or.inl ⟨by rfl, ?hy10n6⟩) (by assumption) ?rest10n6
  case hy10n6 => ((intro w' hSw; (try dsimp only at hSw); go_simp); try (with_reducible rfl))
  try simp only [Act.put, List.setIfInBounds_toArray, List.set_cons_zero, List.set_cons_succ]
  refine wpAnyH_ready (rs := [6]) (by kernel_rfl) (by simp) ?_
  refine AllReadyH.cons rfl (fun K hK => ?_) ?_
  · go_simp
    have hb1 := (Below.refl V.heap.size V).alloc (Nat.le_refl _) (.cells #[.int .i64 (r : Int), .int .i64 ((r : Int) + 4), .int .i64 ((r : Int) + 7)] 3)
    have hR1 := rd1_made V [(r : Int), (r : Int) + 4, (r : Int) + 7] 3 (by unfold maxLen; simp)
    simp only [List.map_cons, List.map_nil, intV, List.length_cons, List.length_nil, Nat.reduceAdd] at hR1
    have hH1 := hHeld.below hb1
    replace gV := bstep gV hb1
    clear hb1 hHeld
    generalize V.alloc (.cells #[.int .i64 (r : Int), .int .i64 ((r : Int) + 4), .int .i64 ((r : Int) + 7)] 3) = V1 at *
    generalize V.heap.size = q1 at *
    refine hK.out _ _ ?_ (fun hHeld => ?_)
    · (try dsimp only); exact hH1
    clear hK K
    try simp only [Act.put, List.setIfInBounds_toArray, List.set_cons_zero, List.set_cons_succ]
    refine wpAnyH_ready (rs := [7]) (by kernel_rfl) (by simp) ?_
    refine AllReadyH.cons rfl (fun K hK => ?_) ?_
    · go_simp
      go_at_call 40
      (with_reducible refine (HS4.out _ _ hR1).mono ?_)
      rintro e wa1 ⟨rfl, ka⟩
      have hH := hHeld.below ka
      replace gV := bstep gV ka
      clear ka hHeld hR1
      refine hK.out _ _ ?_ (fun hHeld => ?_)
      · (try dsimp only); exact hH
      clear hK K
      try simp only [Act.put, List.setIfInBounds_toArray, List.set_cons_zero, List.set_cons_succ]
      refine wpAnyH_take (i := 8) (oi := { dst := some 13, op := _, type := _, pos := _, after := _, guard := _ }) (v := .bool false) rfl (by kernel_rfl) (by kernel_rfl) (by kernel_rfl) (fun _ _ _ h => h) (Or.inl ⟨by rfl, ?hy13n10⟩) (by assumption) ?rest13n10
      case hy13n10 =>
        intro w' hSw
        clear hSw
        go_simp
        try rw [run_flags_no w' C4.out]
        first | done | rfl
      try simp only [Act.put, List.setIfInBounds_toArray, List.set_cons_zero, List.set_cons_succ]
      refine wpAnyH_take (i := 9) (oi := { dst := some 14, op := _, type := _, pos := _, after := _, guard := _ }) (v := ?v14n11) rfl (by kernel_rfl) (by kernel_rfl) (by kernel_rfl) (fun _ _ _ h => h) (Or.inl ⟨by rfl, ?hy14n11⟩) (by assumption) ?rest14n11
      case hy14n11 => ((intro w' hSw; (try dsimp only at hSw); go_simp); try (with_reducible rfl))
      try simp only [Act.put, List.setIfInBounds_toArray, List.set_cons_zero, List.set_cons_succ]
      refine wpAnyH_take (i := 10) (oi := { dst := some 15, op := _, type := _, pos := _, after := _, guard := _ }) (v := .agg (flagsV f)) rfl (by kernel_rfl) (by kernel_rfl) (by kernel_rfl) (fun _ _ _ h => h) (Or.inl ⟨by rfl, ?hy15n12⟩) (by assumption) ?rest15n12
      case hy15n12 =>
        intro w' hSw
        have r0 := ArrB.cell hSw (i := 0) (by omega)
        have r1 := ArrB.cell hSw (i := 1) (by omega)
        have r2 := ArrB.cell hSw (i := 2) (by omega)
        have r3 := ArrB.cell hSw (i := 3) (by omega)
        have r4 := ArrB.cell hSw (i := 4) (by omega)
        have r5 := ArrB.cell hSw (i := 5) (by omega)
        have r6 := ArrB.cell hSw (i := 6) (by omega)
        have r7 := ArrB.cell hSw (i := 7) (by omega)
        have r8 := ArrB.cell hSw (i := 8) (by omega)
        have r9 := ArrB.cell hSw (i := 9) (by omega)
        have r10 := ArrB.cell hSw (i := 10) (by omega)
        have r11 := ArrB.cell hSw (i := 11) (by omega)
        clear hSw
        go_simp
        first | done | rfl
      try simp only [Act.put, List.setIfInBounds_toArray, List.set_cons_zero, List.set_cons_succ]
      refine wpAnyH_take (i := 11) (oi := { dst := some 16, op := _, type := _, pos := _, after := _, guard := _ }) (v := ?v16n13) rfl (by kernel_rfl) (by kernel_rfl) (by kernel_rfl) (fun _ _ _ h => h) (Or.inl ⟨by rfl, ?hy16n13⟩) (by assumption) ?rest16n13
      case hy16n13 => ((intro w' hSw; (try dsimp only at hSw); go_simp); try (with_reducible rfl))
      try simp only [Act.put, List.setIfInBounds_toArray, List.set_cons_zero, List.set_cons_succ]
      refine wpAnyH_take (i := 12) (oi := { dst := some 17, op := _, type := _, pos := _, after := _, guard := _ }) (v := ?v17n14) rfl (by kernel_rfl) (by kernel_rfl) (by kernel_rfl) (fun _ _ _ h => h) (Or.inl ⟨by rfl, ?hy17n14⟩) (by assumption) ?rest17n14
      case hy17n14 => ((intro w' hSw; (try dsimp only at hSw); go_simp); try (with_reducible rfl))
      try simp only [Act.put, List.setIfInBounds_toArray, List.set_cons_zero, List.set_cons_succ]
      refine wpAnyH_take (i := 13) (oi := { dst := some 18, op := _, type := _, pos := _, after := _, guard := _ }) (v := ?v18n15) rfl (by kernel_rfl) (by kernel_rfl) (by kernel_rfl) (fun _ _ _ h => h) (Or.inl ⟨by rfl, ?hy18n15⟩) (by assumption) ?rest18n15
      case hy18n15 => ((intro w' hSw; (try dsimp only at hSw); go_simp); try (with_reducible rfl))
      try simp only [Act.put, List.setIfInBounds_toArray, List.set_cons_zero, List.set_cons_succ]
      refine wpAnyH_take (i := 14) (oi := { dst := some 19, op := _, type := _, pos := _, after := _, guard := _ }) (v := ?v19n16) rfl (by kernel_rfl) (by kernel_rfl) (by kernel_rfl) (fun _ _ _ h => h) (Or.inl ⟨by rfl, ?hy19n16⟩) (by assumption) ?rest19n16
      case hy19n16 => ((intro w' hSw; (try dsimp only at hSw); go_simp); try (with_reducible rfl))
      try simp only [Act.put, List.setIfInBounds_toArray, List.set_cons_zero, List.set_cons_succ]
      refine wpAnyH_take (i := 15) (oi := { dst := some 20, op := _, type := _, pos := _, after := _, guard := _ }) (v := ?v20n17) rfl (by kernel_rfl) (by kernel_rfl) (by kernel_rfl) (fun _ _ _ h => h) (Or.inl ⟨by rfl, ?hy20n17⟩) (by assumption) ?rest20n17
      case hy20n17 => ((intro w' hSw; (try dsimp only at hSw); go_simp); try (with_reducible rfl))
      try simp only [Act.put, List.setIfInBounds_toArray, List.set_cons_zero, List.set_cons_succ]
      refine wpAnyH_ready (rs := [16]) (by kernel_rfl) (by simp) ?_
      refine AllReadyH.cons rfl (fun K hK => ?_) ?_
      · go_simp
        have hb2 := (Below.refl wa1.heap.size wa1).alloc (Nat.le_refl _) (.cells #[.int .i64 (r : Int), .int .i64 ((r : Int) + 3), .int .i64 ((r : Int) + 7)] 3)
        have hR2 := rd1_made wa1 [(r : Int), (r : Int) + 3, (r : Int) + 7] 3 (by unfold maxLen; simp)
        simp only [List.map_cons, List.map_nil, intV, List.length_cons, List.length_nil, Nat.reduceAdd] at hR2
        have hH2 := hHeld.below hb2
        replace gV := bstep gV hb2
        clear hb2 hHeld
        generalize wa1.alloc (.cells #[.int .i64 (r : Int), .int .i64 ((r : Int) + 3), .int .i64 ((r : Int) + 7)] 3) = V2 at *
        generalize wa1.heap.size = q2 at *
        refine hK.out _ _ ?_ (fun hHeld => ?_)
        · (try dsimp only); exact hH2
        clear hK K
        try simp only [Act.put, List.setIfInBounds_toArray, List.set_cons_zero, List.set_cons_succ]
        refine wpAnyH_ready (rs := [17]) (by kernel_rfl) (by simp) ?_
        refine AllReadyH.cons rfl (fun K hK => ?_) ?_
        · go_simp
          go_at_call 40
          (with_reducible refine (HS3.out _ _ hR2).mono ?_)
          rintro e wa2 ⟨rfl, ka⟩
          have hH := hHeld.below ka
          replace gV := bstep gV ka
          clear ka hHeld hR2
          refine hK.out _ _ ?_ (fun hHeld => ?_)
          · (try dsimp only); exact hH
          clear hK K
          try simp only [Act.put, List.setIfInBounds_toArray, List.set_cons_zero, List.set_cons_succ]
          refine wpAnyH_take (i := 18) (oi := { dst := some 23, op := _, type := _, pos := _, after := _, guard := _ }) (v := .bool false) rfl (by kernel_rfl) (by kernel_rfl) (by kernel_rfl) (fun _ _ _ h => h) (Or.inl ⟨by rfl, ?hy23n7⟩) (by assumption) ?rest23n7
          case hy23n7 =>
            intro w' hSw
            clear hSw
            go_simp
            try rw [run_flags_no w' C3.out]
            first | done | rfl
          try simp only [Act.put, List.setIfInBounds_toArray, List.set_cons_zero, List.set_cons_succ]
          refine wpAnyH_take (i := 19) (oi := { dst := some 24, op := _, type := _, pos := _, after := _, guard := _ }) (v := ?v24n8) rfl (by kernel_rfl) (by kernel_rfl) (by kernel_rfl) (fun _ _ _ h => h) (Or.inl ⟨by rfl, ?hy24n8⟩) (by assumption) ?rest24n8
          case hy24n8 => ((intro w' hSw; (try dsimp only at hSw); go_simp); try (with_reducible rfl))
          try simp only [Act.put, List.setIfInBounds_toArray, List.set_cons_zero, List.set_cons_succ]
          refine wpAnyH_take (i := 20) (oi := { dst := some 4, op := _, type := _, pos := _, after := _, guard := _ }) (v := ?v4n9) rfl (by kernel_rfl) (by kernel_rfl) (by kernel_rfl) (fun _ _ _ h => h) (Or.inl ⟨by rfl, ?hy4n9⟩) (by assumption) ?rest4n9
          case hy4n9 => ((intro w' hSw; (try dsimp only at hSw); go_simp); try (with_reducible rfl))
          try simp only [Act.put, List.setIfInBounds_toArray, List.set_cons_zero, List.set_cons_succ]
          refine wpAnyH_done (by kernel_rfl) ?_ _
          go_wp2
          go_ret
          exact ⟨rfl, gV⟩
        exact AllReadyH.nil
      exact AllReadyH.nil
    exact AllReadyH.nil
  exact AllReadyH.nil

theorem tri_flags {l : List Int} {r th : Nat} : triB l r th = true ↔ flagsV (inSt l) = flagsV (inSt [(r : Int), (r : Int) + (th : Int), (r : Int) + 7]) := by
  rw [triB_true]
  have e : ∀ s < 12, inSt [(r : Int), (r : Int) + (th : Int), (r : Int) + 7] s = (s == r % 12 || s == (r + th) % 12 || s == (r + 7) % 12) := fun s hs => by
    unfold inSt
    simp only [List.any_cons, List.any_nil, Bool.or_false]
    rw [Bool.eq_iff_iff]
    simp only [Bool.or_eq_true, beq_iff_eq]
    omega
  constructor
  · intro h; exact flagsV_ext fun i hi => by rw [h i hi, e i hi]
  · intro h s hs; rw [flagsV_inj h s hs, e s hs]
theorem nn3 {r th : Nat} : ∀ (k : Nat) (a : Int), [(r : Int), (r : Int) + (th : Int), (r : Int) + 7][k]? = some a → 0 ≤ a := fun k a h => by
  have := List.mem_of_getElem? h
  simp only [List.mem_cons, List.not_mem_nil, or_false] at this
  omega
theorem triI_any {w : World} {l : List Int} {r : Nat} {c : Bool} (hr : r < 12) (hc : (triB l r 4 || triB l r 3) = c) :
    Calls Tryd.prog 41 #[.agg (flagsV (inSt l)), .int .i64 (r : Int)] w fun e w' => e = .returned (.bool c) ∧ Below w.heap.size w w' := by
  have h4 := tri_flags (l := l) (r := r) (th := 4)
  have h3 := tri_flags (l := l) (r := r) (th := 3)
  have s4 := fun (V : World) (v : Value) (h : Rd1 V v [(r : Int), (r : Int) + 4, (r : Int) + 7]) => stepsIn_any h (nn3 (th := 4))
  have s3 := fun (V : World) (v : Value) (h : Rd1 V v [(r : Int), (r : Int) + 3, (r : Int) + 7]) => stepsIn_any h (nn3 (th := 3))
  cases c4 : triB l r 4 with
  | true =>
    rw [c4] at hc
    obtain rfl : true = c := hc
    exact triI_a _ _ _ r hr (h4.1 c4) s4 s3
  | false =>
    have n4 : ¬ flagsV (inSt l) = flagsV (inSt [(r : Int), (r : Int) + 4, (r : Int) + 7]) := fun k => by rw [h4.2 k] at c4; cases c4
    rw [c4, Bool.false_or] at hc
    cases c3 : triB l r 3 with
    | true =>
      rw [c3] at hc
      subst hc
      exact triI_b _ _ _ r hr n4 (h3.1 c3) s4 s3
    | false =>
      rw [c3] at hc
      subst hc
      exact triI_c _ _ _ r hr n4 (fun k => by rw [h3.2 k] at c3; cases c3) s4 s3

set_option maxHeartbeats 1000000 in
theorem rootI_any {w : World} {v : Value} {l : List Int} (h : Rd1 w v l) :
    Calls Tryd.prog 19 #[v] w fun e w' => e = .returned (.int .i64 (rootI l)) ∧ Below w.heap.size w w' := by
  obtain ⟨a1, cap1, rfl⟩ := Rd.slice h
  by_cases ht : togB l = true
  · have HT := Lib.hid ht
    have HRT := Lib.hid (rootI_yes (togB_true.1 ht))
    have HNN : Hid (∀ (k : Nat) (a : Int), l[k]? = some a → 0 ≤ a) := Lib.hid (fun k a hk => ((togB_true.1 HT.out).2 k a hk).1)
    clear ht
    go_enter Tryd.func19, Tryd.ntmps19
    go_wp2_with fail
    refine (togI_any h).mono ?_
    rintro e w1 ⟨rfl, rfl⟩
    rw [HT.out]
    go_wp2_with fail
    refine (stepsIn_any h HNN.out).mono ?_
    rintro e w1 ⟨rfl, hb1⟩
    have hA0 := arrB_new w1
    have hA := hA0.row (inSt l)
    have hst := hA0.store (inSt l)
    have hsz := flagsV_size (inSt l)
    have hb2 : Below w.heap.size w ((w1.alloc (.cells #[.bool false, .bool false, .bool false, .bool false, .bool false, .bool false, .bool false, .bool false, .bool false, .bool false, .bool false, .bool false] 60)).setRow w1.heap.size (flagsV (inSt l))) := below_setRow (hb1.alloc hb1.size _) hb1.size _
    clear hA0 hb1
    go_wp2_with fail
    generalize (w1.alloc (.cells #[.bool false, .bool false, .bool false, .bool false, .bool false, .bool false, .bool false, .bool false, .bool false, .bool false, .bool false, .bool false] 60)).setRow w1.heap.size (flagsV (inSt l)) = W at *
    clear hst
    generalize w1.heap.size = bq at *
    go_loopw [10] (fun v10 wr => ∃ r : Nat, r ≤ 12 ∧ v10 = .int .i64 r ∧ ArrB wr bq (inSt l) ∧ Below w.heap.size w wr ∧ Hid (rootI l = rootFrom l (12 - r) r)) (fun v10 _ => 12 - (intOf v10).toNat)
    case atStart => exact ⟨0, by omega, rfl, hA, hb2, HRT⟩
    case round =>
      obtain ⟨r, hr, rfl, hA, hbr, HR⟩ := hrel
      clear hb2
      by_cases hlr : r < 12
      · have e12 : 12 - r = (12 - (r + 1)) + 1 := by omega
        have hg : wr.heap[bq]? = some (.cells (flagsV (inSt l)) 60 (0, 0)) := hA
        cases hc : (triB l r 4 || triB l r 3) with
        | true =>
          have HZ := Lib.hid (HR.out.trans ((congrArg (fun n => rootFrom l n r) e12).trans (rootFrom_yes hc)))
          have HC := Lib.hid hc
          clear hc e12
          go_wp2_with (refine wpList_load_row rfl 60 (.tmp 3) rfl bq rfl _ _ _ _ hg Tryd.underlying60 rfl arr_info ?_)
          refine (triI_any hlr HC.out).mono ?_
          rintro e w2 ⟨rfl, hb3⟩
          have g3 := bstep hbr hb3
          clear hbr hb3
          go_wp2
          go_ret
          exact ⟨by rw [HZ.out]; rfl, g3⟩
        | false =>
          have HZ := Lib.hid (HR.out.trans ((congrArg (fun n => rootFrom l n r) e12).trans (rootFrom_no hc)))
          have HC := Lib.hid hc
          clear hc e12
          go_wp2_with (refine wpList_load_row rfl 60 (.tmp 3) rfl bq rfl _ _ _ _ hg Tryd.underlying60 rfl arr_info ?_)
          refine (triI_any hlr HC.out).mono ?_
          rintro e w2 ⟨rfl, hb3⟩
          have g3 := bstep hbr hb3
          have hA3 := hA.below hb3
          clear hbr hb3 hA hg
          go_wp2
          go_roundw
          case rel => exact ⟨r + 1, by omega, by go_num, hA3, g3, HZ⟩
          case measure => simp [intOf]; omega
      · obtain rfl : r = 12 := by omega
        have HZ : Hid (rootI l = -1) := HR
        go_wp2
        go_ret
        exact ⟨by rw [HZ.out]; rfl, hbr⟩
  · have HT : Hid (togB l = false) := Lib.hid (by simpa using ht)
    have HR := Lib.hid (rootI_no (togB_false.1 HT.out))
    clear ht
    go_enter Tryd.func19, Tryd.ntmps19
    go_wp2_with fail
    refine (togI_any h).mono ?_
    rintro e w1 ⟨rfl, rfl⟩
    rw [HT.out]
    go_wp2
    go_ret
    exact ⟨by rw [HR.out]; rfl, Below.refl _ _⟩
end Go.Proofs.YtceebblokibapaaDoor
