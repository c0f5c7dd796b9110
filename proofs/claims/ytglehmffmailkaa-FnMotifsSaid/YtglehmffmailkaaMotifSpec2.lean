/- The contracts of chapter 18's model: CountMotifs. No condition. Made by gen_motif.py. -/
import Derived.Test.YtglehmffmailkaaMotifSpec
namespace Go.Proofs.Ytglehmffmailkaa
open Go.ChangeShapes Go.WideShapes Go.ChangeAt Go.RowKit

def FrT (l : List (Int × Int)) (n k i : Nat) (c : Bool) : Prop := c = true ↔ ∀ i', i' < i → samT l i' k n = false

set_option maxHeartbeats 4000000 in
set_option maxRecDepth 100000 in
theorem cntG_any {w : World} {v : Value} {l : List (Int × Int)} (n : Int) (hc : Rc2 w v l) :
    Calls Try.prog 33 #[v, .int .i64 n] w fun e w' => e = .returned (.int .i64 (countI l n)) ∧ Below w.heap.size w w' := by
  have h := hc.1
  obtain ⟨a1, cap1, rfl⟩ := Rd.slice h
  have hcap := hc.2.le
  have hm := h.2.1
  unfold maxLen at hm
  clear hc
  by_cases ht : tuneB l = true
  · have HT := Lib.hid ht
    have h40 := (tuneB_true.1 ht).1
    by_cases h2 : 1 ≤ n ∧ n ≤ 40
    · obtain ⟨n, rfl⟩ := Int.eq_ofNat_of_zero_le (show 0 ≤ n by omega)
      have hn1 : 1 ≤ n := by omega
      have hn40 : n ≤ 40 := by omega
      have HR := Lib.hid (countI_yes ht ⟨hn1, hn40⟩)
      have HA1 : Hid (0 < l.length → ∃ b o, a1 = some ⟨b, o, none⟩) := Lib.hid (fun hp => by
        obtain ⟨b, o, c, hv, _⟩ := Rd.pos h hp
        simp only [Value.slice.injEq] at hv
        exact ⟨b, o, hv.1⟩)
      have h2' := Lib.hid h2
      clear ht h2
      go_enter Try.func33, Try.ntmps33
      go_wp2_with fail
      refine (tuneok_yes h HT.out).mono ?_
      rintro e w1 ⟨rfl, hb1⟩
      go_wp2_with fail
      refine (in_yes _ _ _ h2'.out _).mono ?_
      rintro e w2 ⟨rfl, rfl⟩
      go_wp2_with fail
      go_loopw [5, 6] (fun v5 v6 wr => ∃ k : Nat, k ≤ l.length + 1 ∧ v6 = .int .i64 (k : Int) ∧ v5 = .int .i64 ((cntN l n k : Nat) : Int) ∧ Hid (k ≤ l.length + 1 - n) ∧ Below w.heap.size w wr) (fun _ v6 _ => l.length + 1 - (intOf v6).toNat)
      case atStart => exact ⟨0, Nat.zero_le _, rfl, rfl, Lib.hid (Nat.zero_le _), hb1⟩
      case round =>
        obtain ⟨k, hk, rfl, rfl, HK, hbr⟩ := hrel
        have hcl := cntN_le l n k
        have wkn : IntKind.i64.wrap ((k : Int) + (n : Int)) = (k : Int) + (n : Int) := IntWalk.i64_in _ (by omega)
        by_cases hlt : k + n ≤ l.length
        · obtain ⟨b1, o1, rfl⟩ := HA1.out (by omega)
          have hlz : (k : Int) + (n : Int) ≤ (l.length : Int) := by omega
          have HY := Lib.hid (cntN_yes (t := l) (n := n) (c := k))
          have HN := Lib.hid (cntN_no (t := l) (n := n) (c := k))
          generalize cntN l n k = y at *
          go_wp2_with fail
          go_loopw [7, 8] (fun v7 v8 wx => ∃ (i : Nat) (c : Bool), i ≤ k ∧ v8 = .int .i64 (i : Int) ∧ v7 = .bool c ∧ Hid (FrT l n k i c) ∧ Below w.heap.size w wx) (fun _ v8 _ => k - (intOf v8).toNat)
          case atStart => exact ⟨0, true, Nat.zero_le _, rfl, rfl, Lib.hid ⟨fun _ i' hi => by omega, fun _ => rfl⟩, hbr⟩
          case round =>
            obtain ⟨i, c, hi, rfl, rfl, HC, hbx⟩ := hrel
            clear hbr
            by_cases hik : i < k
            · cases c with
              | true =>
                have t1 : ((i : Int) + (n : Int)).toNat = i + n := by omega
                have t2 : ((k : Int) + (n : Int)).toNat = k + n := by omega
                have wi : IntKind.i64.wrap ((i : Int) + (n : Int)) = (i : Int) + (n : Int) := IntWalk.i64_in _ (by omega)
                have hfi : (0 : Int) ≤ (i : Int) + (n : Int) ∧ (i : Int) + (n : Int) ≤ (cap1 : Int) := by omega
                have hfk : (0 : Int) ≤ (k : Int) + (n : Int) ∧ (k : Int) + (n : Int) ≤ (cap1 : Int) := by omega
                have d1 : i + n - i = n := by omega
                have d2 : k + n - k = n := by omega
                have hci : ¬ cap1 = i := by omega
                have hck : ¬ cap1 = k := by omega
                have hin : i + n ≤ l.length := by omega
                have HSM := Lib.hid (fun (W : World) (hW : Below w.heap.size w W) => samG_any (c1 := cap1 - i) (c2 := cap1 - k) (Rd.below h hW) hin hlt)
                generalize hsn : samT l i k n = s at *
                replace hsn := Lib.hid hsn
                cases s with
                | true =>
                  have HCN : Hid (FrT l n k (i + 1) false) := Lib.hid ⟨fun q => (by cases q), fun q => (by have := q i (by omega); rw [hsn.out] at this; cases this)⟩
                  go_wp2_with fail
                  refine wp_region_held_drew (S := fun _ => True) (by kernel_rfl) ?_ (fun hHeld => ?_)
                  · trivial
                  have gV := hbx.drew
                  generalize wr.drew = V at *
                  refine wpAnyH_take (i := 0) (oi := { dst := some 30, op := _, type := _, pos := _, after := _, guard := _ }) (v := ?v30n68) rfl (by kernel_rfl) (by kernel_rfl) (by kernel_rfl) (fun _ _ _ h => h) (Or.inl ⟨by rfl, ?hy30n68⟩) (by assumption) ?rest30n68
                  case hy30n68 => ((intro w' hSw; (try dsimp only at hSw); go_simp); try (with_reducible rfl))
                  try simp only [Act.put, List.setIfInBounds_toArray, List.set_cons_zero, List.set_cons_succ]
                  refine wpAnyH_take (i := 1) (oi := { dst := some 31, op := _, type := _, pos := _, after := _, guard := _ }) (v := ?v31n69) rfl (by kernel_rfl) (by kernel_rfl) (by kernel_rfl) (fun _ _ _ h => h) (Or.inl ⟨by rfl, ?hy31n69⟩) (by assumption) ?rest31n69
                  case hy31n69 => ((intro w' hSw; (try dsimp only at hSw); go_simp); try (with_reducible rfl))
                  try simp only [Act.put, List.setIfInBounds_toArray, List.set_cons_zero, List.set_cons_succ]
                  refine wpAnyH_take (i := 2) (oi := { dst := some 32, op := _, type := _, pos := _, after := _, guard := _ }) (v := ?v32n70) rfl (by kernel_rfl) (by kernel_rfl) (by kernel_rfl) (fun _ _ _ h => h) (Or.inl ⟨by rfl, ?hy32n70⟩) (by assumption) ?rest32n70
                  case hy32n70 => ((intro w' hSw; (try dsimp only at hSw); go_simp); try (with_reducible rfl))
                  try simp only [Act.put, List.setIfInBounds_toArray, List.set_cons_zero, List.set_cons_succ]
                  refine wpAnyH_take (i := 3) (oi := { dst := some 33, op := _, type := _, pos := _, after := _, guard := _ }) (v := ?v33n71) rfl (by kernel_rfl) (by kernel_rfl) (by kernel_rfl) (fun _ _ _ h => h) (Or.inl ⟨by rfl, ?hy33n71⟩) (by assumption) ?rest33n71
                  case hy33n71 => ((intro w' hSw; (try dsimp only at hSw); go_simp); try (with_reducible rfl))
                  try simp only [Act.put, List.setIfInBounds_toArray, List.set_cons_zero, List.set_cons_succ]
                  refine wpAnyH_take (i := 4) (oi := { dst := some 34, op := _, type := _, pos := _, after := _, guard := _ }) (v := ?v34n72) rfl (by kernel_rfl) (by kernel_rfl) (by kernel_rfl) (fun _ _ _ h => h) (Or.inl ⟨by rfl, ?hy34n72⟩) (by assumption) ?rest34n72
                  case hy34n72 => ((intro w' hSw; (try dsimp only at hSw); go_simp); try (with_reducible rfl))
                  try simp only [Act.put, List.setIfInBounds_toArray, List.set_cons_zero, List.set_cons_succ]
                  refine wpAnyH_take (i := 5) (oi := { dst := some 35, op := _, type := _, pos := _, after := _, guard := _ }) (v := ?v35n73) rfl (by kernel_rfl) (by kernel_rfl) (by kernel_rfl) (fun _ _ _ h => h) (Or.inl ⟨by rfl, ?hy35n73⟩) (by assumption) ?rest35n73
                  case hy35n73 => ((intro w' hSw; (try dsimp only at hSw); go_simp); try (with_reducible rfl))
                  try simp only [Act.put, List.setIfInBounds_toArray, List.set_cons_zero, List.set_cons_succ]
                  refine wpAnyH_take (i := 6) (oi := { dst := some 36, op := _, type := _, pos := _, after := _, guard := _ }) (v := ?v36n74) rfl (by kernel_rfl) (by kernel_rfl) (by kernel_rfl) (fun _ _ _ h => h) (Or.inl ⟨by rfl, ?hy36n74⟩) (by assumption) ?rest36n74
                  case hy36n74 => ((intro w' hSw; (try dsimp only at hSw); go_simp); try (with_reducible rfl))
                  try simp only [Act.put, List.setIfInBounds_toArray, List.set_cons_zero, List.set_cons_succ]
                  refine wpAnyH_take (i := 7) (oi := { dst := some 37, op := _, type := _, pos := _, after := _, guard := _ }) (v := .slice (some ⟨b1, o1 + i * 2, none⟩) n (cap1 - i)) rfl (by kernel_rfl) (by kernel_rfl) (by kernel_rfl) (fun _ _ _ h => h) (Or.inl ⟨by rfl, ?hy37n75⟩) (by assumption) ?rest37n75
                  case hy37n75 =>
                    intro w' hSw
                    clear hSw
                    go_simp
                    first | done | rfl | (intro hx; exfalso; omega)
                  try simp only [Act.put, List.setIfInBounds_toArray, List.set_cons_zero, List.set_cons_succ]
                  refine wpAnyH_take (i := 8) (oi := { dst := some 38, op := _, type := _, pos := _, after := _, guard := _ }) (v := ?v38n76) rfl (by kernel_rfl) (by kernel_rfl) (by kernel_rfl) (fun _ _ _ h => h) (Or.inl ⟨by rfl, ?hy38n76⟩) (by assumption) ?rest38n76
                  case hy38n76 => ((intro w' hSw; (try dsimp only at hSw); go_simp); try (with_reducible rfl))
                  try simp only [Act.put, List.setIfInBounds_toArray, List.set_cons_zero, List.set_cons_succ]
                  refine wpAnyH_take (i := 9) (oi := { dst := some 39, op := _, type := _, pos := _, after := _, guard := _ }) (v := ?v39n77) rfl (by kernel_rfl) (by kernel_rfl) (by kernel_rfl) (fun _ _ _ h => h) (Or.inl ⟨by rfl, ?hy39n77⟩) (by assumption) ?rest39n77
                  case hy39n77 => ((intro w' hSw; (try dsimp only at hSw); go_simp); try (with_reducible rfl))
                  try simp only [Act.put, List.setIfInBounds_toArray, List.set_cons_zero, List.set_cons_succ]
                  refine wpAnyH_take (i := 10) (oi := { dst := some 40, op := _, type := _, pos := _, after := _, guard := _ }) (v := ?v40n78) rfl (by kernel_rfl) (by kernel_rfl) (by kernel_rfl) (fun _ _ _ h => h) (Or.inl ⟨by rfl, ?hy40n78⟩) (by assumption) ?rest40n78
                  case hy40n78 => ((intro w' hSw; (try dsimp only at hSw); go_simp); try (with_reducible rfl))
                  try simp only [Act.put, List.setIfInBounds_toArray, List.set_cons_zero, List.set_cons_succ]
                  refine wpAnyH_take (i := 11) (oi := { dst := some 41, op := _, type := _, pos := _, after := _, guard := _ }) (v := ?v41n79) rfl (by kernel_rfl) (by kernel_rfl) (by kernel_rfl) (fun _ _ _ h => h) (Or.inl ⟨by rfl, ?hy41n79⟩) (by assumption) ?rest41n79
                  case hy41n79 => ((intro w' hSw; (try dsimp only at hSw); go_simp); try (with_reducible rfl))
                  try simp only [Act.put, List.setIfInBounds_toArray, List.set_cons_zero, List.set_cons_succ]
                  refine wpAnyH_take (i := 12) (oi := { dst := some 42, op := _, type := _, pos := _, after := _, guard := _ }) (v := ?v42n80) rfl (by kernel_rfl) (by kernel_rfl) (by kernel_rfl) (fun _ _ _ h => h) (Or.inl ⟨by rfl, ?hy42n80⟩) (by assumption) ?rest42n80
                  case hy42n80 => ((intro w' hSw; (try dsimp only at hSw); go_simp); try (with_reducible rfl))
                  try simp only [Act.put, List.setIfInBounds_toArray, List.set_cons_zero, List.set_cons_succ]
                  refine wpAnyH_take (i := 13) (oi := { dst := some 43, op := _, type := _, pos := _, after := _, guard := _ }) (v := .slice (some ⟨b1, o1 + k * 2, none⟩) n (cap1 - k)) rfl (by kernel_rfl) (by kernel_rfl) (by kernel_rfl) (fun _ _ _ h => h) (Or.inl ⟨by rfl, ?hy43n81⟩) (by assumption) ?rest43n81
                  case hy43n81 =>
                    intro w' hSw
                    clear hSw
                    go_simp
                    first | done | rfl | (intro hx; exfalso; omega)
                  try simp only [Act.put, List.setIfInBounds_toArray, List.set_cons_zero, List.set_cons_succ]
                  refine wpAnyH_ready (rs := [14]) (by kernel_rfl) (by simp) ?_
                  refine AllReadyH.cons rfl (fun K hK => ?_) ?_
                  · go_simp
                    go_at_call 36
                    (with_reducible refine (HSM.out _ gV).mono ?_)
                    rintro e wa ⟨rfl, hba⟩
                    have g2 := bstep gV hba
                    clear hba
                    refine hK.out _ _ ?_ (fun hHeld => ?_)
                    · (try dsimp only); (try trivial)
                    clear hK K
                    try simp only [Act.put, List.setIfInBounds_toArray, List.set_cons_zero, List.set_cons_succ]
                    refine wpAnyH_take (i := 15) (oi := { dst := some 45, op := _, type := _, pos := _, after := _, guard := _ }) (v := ?v45n82) rfl (by kernel_rfl) (by kernel_rfl) (by kernel_rfl) (fun _ _ _ h => h) (Or.inl ⟨by rfl, ?hy45n82⟩) (by assumption) ?rest45n82
                    case hy45n82 => ((intro w' hSw; (try dsimp only at hSw); go_simp); try (with_reducible rfl))
                    try simp only [Act.put, List.setIfInBounds_toArray, List.set_cons_zero, List.set_cons_succ]
                    refine wpAnyH_take (i := 16) (oi := { dst := some 46, op := _, type := _, pos := _, after := _, guard := _ }) (v := ?v46n83) rfl (by kernel_rfl) (by kernel_rfl) (by kernel_rfl) (fun _ _ _ h => h) (Or.inl ⟨by rfl, ?hy46n83⟩) (by assumption) ?rest46n83
                    case hy46n83 => ((intro w' hSw; (try dsimp only at hSw); go_simp); try (with_reducible rfl))
                    try simp only [Act.put, List.setIfInBounds_toArray, List.set_cons_zero, List.set_cons_succ]
                    refine wpAnyH_take (i := 17) (oi := { dst := some 7, op := _, type := _, pos := _, after := _, guard := _ }) (v := ?v7n84) rfl (by kernel_rfl) (by kernel_rfl) (by kernel_rfl) (fun _ _ _ h => h) (Or.inl ⟨by rfl, ?hy7n84⟩) (by assumption) ?rest7n84
                    case hy7n84 => ((intro w' hSw; (try dsimp only at hSw); go_simp); try (with_reducible rfl))
                    try simp only [Act.put, List.setIfInBounds_toArray, List.set_cons_zero, List.set_cons_succ]
                    refine wpAnyH_done (by kernel_rfl) ?_ _
                    go_wp2
                    go_roundw
                    case rel => exact ⟨i + 1, false, by omega, by go_num, rfl, HCN, g2⟩
                    case measure => simp [intOf]; omega
                  exact AllReadyH.nil
                | false =>
                  have HCN : Hid (FrT l n k (i + 1) true) := Lib.hid ⟨fun _ i' hi' => by
                    by_cases hii : i' < i
                    · exact HC.out.1 rfl i' hii
                    · obtain rfl : i' = i := by omega
                      exact hsn.out, fun _ => rfl⟩
                  go_wp2_with fail
                  refine wp_region_held_drew (S := fun _ => True) (by kernel_rfl) ?_ (fun hHeld => ?_)
                  · trivial
                  have gV := hbx.drew
                  generalize wr.drew = V at *
                  refine wpAnyH_take (i := 0) (oi := { dst := some 30, op := _, type := _, pos := _, after := _, guard := _ }) (v := ?v30n85) rfl (by kernel_rfl) (by kernel_rfl) (by kernel_rfl) (fun _ _ _ h => h) (Or.inl ⟨by rfl, ?hy30n85⟩) (by assumption) ?rest30n85
                  case hy30n85 => ((intro w' hSw; (try dsimp only at hSw); go_simp); try (with_reducible rfl))
                  try simp only [Act.put, List.setIfInBounds_toArray, List.set_cons_zero, List.set_cons_succ]
                  refine wpAnyH_take (i := 1) (oi := { dst := some 31, op := _, type := _, pos := _, after := _, guard := _ }) (v := ?v31n86) rfl (by kernel_rfl) (by kernel_rfl) (by kernel_rfl) (fun _ _ _ h => h) (Or.inl ⟨by rfl, ?hy31n86⟩) (by assumption) ?rest31n86
                  case hy31n86 => ((intro w' hSw; (try dsimp only at hSw); go_simp); try (with_reducible rfl))
                  try simp only [Act.put, List.setIfInBounds_toArray, List.set_cons_zero, List.set_cons_succ]
                  refine wpAnyH_take (i := 2) (oi := { dst := some 32, op := _, type := _, pos := _, after := _, guard := _ }) (v := ?v32n87) rfl (by kernel_rfl) (by kernel_rfl) (by kernel_rfl) (fun _ _ _ h => h) (Or.inl ⟨by rfl, ?hy32n87⟩) (by assumption) ?rest32n87
                  case hy32n87 => ((intro w' hSw; (try dsimp only at hSw); go_simp); try (with_reducible rfl))
                  try simp only [Act.put, List.setIfInBounds_toArray, List.set_cons_zero, List.set_cons_succ]
                  refine wpAnyH_take (i := 3) (oi := { dst := some 33, op := _, type := _, pos := _, after := _, guard := _ }) (v := ?v33n88) rfl (by kernel_rfl) (by kernel_rfl) (by kernel_rfl) (fun _ _ _ h => h) (Or.inl ⟨by rfl, ?hy33n88⟩) (by assumption) ?rest33n88
                  case hy33n88 => ((intro w' hSw; (try dsimp only at hSw); go_simp); try (with_reducible rfl))
                  try simp only [Act.put, List.setIfInBounds_toArray, List.set_cons_zero, List.set_cons_succ]
                  refine wpAnyH_take (i := 4) (oi := { dst := some 34, op := _, type := _, pos := _, after := _, guard := _ }) (v := ?v34n89) rfl (by kernel_rfl) (by kernel_rfl) (by kernel_rfl) (fun _ _ _ h => h) (Or.inl ⟨by rfl, ?hy34n89⟩) (by assumption) ?rest34n89
                  case hy34n89 => ((intro w' hSw; (try dsimp only at hSw); go_simp); try (with_reducible rfl))
                  try simp only [Act.put, List.setIfInBounds_toArray, List.set_cons_zero, List.set_cons_succ]
                  refine wpAnyH_take (i := 5) (oi := { dst := some 35, op := _, type := _, pos := _, after := _, guard := _ }) (v := ?v35n90) rfl (by kernel_rfl) (by kernel_rfl) (by kernel_rfl) (fun _ _ _ h => h) (Or.inl ⟨by rfl, ?hy35n90⟩) (by assumption) ?rest35n90
                  case hy35n90 => ((intro w' hSw; (try dsimp only at hSw); go_simp); try (with_reducible rfl))
                  try simp only [Act.put, List.setIfInBounds_toArray, List.set_cons_zero, List.set_cons_succ]
                  refine wpAnyH_take (i := 6) (oi := { dst := some 36, op := _, type := _, pos := _, after := _, guard := _ }) (v := ?v36n91) rfl (by kernel_rfl) (by kernel_rfl) (by kernel_rfl) (fun _ _ _ h => h) (Or.inl ⟨by rfl, ?hy36n91⟩) (by assumption) ?rest36n91
                  case hy36n91 => ((intro w' hSw; (try dsimp only at hSw); go_simp); try (with_reducible rfl))
                  try simp only [Act.put, List.setIfInBounds_toArray, List.set_cons_zero, List.set_cons_succ]
                  refine wpAnyH_take (i := 7) (oi := { dst := some 37, op := _, type := _, pos := _, after := _, guard := _ }) (v := .slice (some ⟨b1, o1 + i * 2, none⟩) n (cap1 - i)) rfl (by kernel_rfl) (by kernel_rfl) (by kernel_rfl) (fun _ _ _ h => h) (Or.inl ⟨by rfl, ?hy37n92⟩) (by assumption) ?rest37n92
                  case hy37n92 =>
                    intro w' hSw
                    clear hSw
                    go_simp
                    first | done | rfl | (intro hx; exfalso; omega)
                  try simp only [Act.put, List.setIfInBounds_toArray, List.set_cons_zero, List.set_cons_succ]
                  refine wpAnyH_take (i := 8) (oi := { dst := some 38, op := _, type := _, pos := _, after := _, guard := _ }) (v := ?v38n93) rfl (by kernel_rfl) (by kernel_rfl) (by kernel_rfl) (fun _ _ _ h => h) (Or.inl ⟨by rfl, ?hy38n93⟩) (by assumption) ?rest38n93
                  case hy38n93 => ((intro w' hSw; (try dsimp only at hSw); go_simp); try (with_reducible rfl))
                  try simp only [Act.put, List.setIfInBounds_toArray, List.set_cons_zero, List.set_cons_succ]
                  refine wpAnyH_take (i := 9) (oi := { dst := some 39, op := _, type := _, pos := _, after := _, guard := _ }) (v := ?v39n94) rfl (by kernel_rfl) (by kernel_rfl) (by kernel_rfl) (fun _ _ _ h => h) (Or.inl ⟨by rfl, ?hy39n94⟩) (by assumption) ?rest39n94
                  case hy39n94 => ((intro w' hSw; (try dsimp only at hSw); go_simp); try (with_reducible rfl))
                  try simp only [Act.put, List.setIfInBounds_toArray, List.set_cons_zero, List.set_cons_succ]
                  refine wpAnyH_take (i := 10) (oi := { dst := some 40, op := _, type := _, pos := _, after := _, guard := _ }) (v := ?v40n95) rfl (by kernel_rfl) (by kernel_rfl) (by kernel_rfl) (fun _ _ _ h => h) (Or.inl ⟨by rfl, ?hy40n95⟩) (by assumption) ?rest40n95
                  case hy40n95 => ((intro w' hSw; (try dsimp only at hSw); go_simp); try (with_reducible rfl))
                  try simp only [Act.put, List.setIfInBounds_toArray, List.set_cons_zero, List.set_cons_succ]
                  refine wpAnyH_take (i := 11) (oi := { dst := some 41, op := _, type := _, pos := _, after := _, guard := _ }) (v := ?v41n96) rfl (by kernel_rfl) (by kernel_rfl) (by kernel_rfl) (fun _ _ _ h => h) (Or.inl ⟨by rfl, ?hy41n96⟩) (by assumption) ?rest41n96
                  case hy41n96 => ((intro w' hSw; (try dsimp only at hSw); go_simp); try (with_reducible rfl))
                  try simp only [Act.put, List.setIfInBounds_toArray, List.set_cons_zero, List.set_cons_succ]
                  refine wpAnyH_take (i := 12) (oi := { dst := some 42, op := _, type := _, pos := _, after := _, guard := _ }) (v := ?v42n97) rfl (by kernel_rfl) (by kernel_rfl) (by kernel_rfl) (fun _ _ _ h => h) (Or.inl ⟨by rfl, ?hy42n97⟩) (by assumption) ?rest42n97
                  case hy42n97 => ((intro w' hSw; (try dsimp only at hSw); go_simp); try (with_reducible rfl))
                  try simp only [Act.put, List.setIfInBounds_toArray, List.set_cons_zero, List.set_cons_succ]
                  refine wpAnyH_take (i := 13) (oi := { dst := some 43, op := _, type := _, pos := _, after := _, guard := _ }) (v := .slice (some ⟨b1, o1 + k * 2, none⟩) n (cap1 - k)) rfl (by kernel_rfl) (by kernel_rfl) (by kernel_rfl) (fun _ _ _ h => h) (Or.inl ⟨by rfl, ?hy43n98⟩) (by assumption) ?rest43n98
                  case hy43n98 =>
                    intro w' hSw
                    clear hSw
                    go_simp
                    first | done | rfl | (intro hx; exfalso; omega)
                  try simp only [Act.put, List.setIfInBounds_toArray, List.set_cons_zero, List.set_cons_succ]
                  refine wpAnyH_ready (rs := [14]) (by kernel_rfl) (by simp) ?_
                  refine AllReadyH.cons rfl (fun K hK => ?_) ?_
                  · go_simp
                    go_at_call 36
                    (with_reducible refine (HSM.out _ gV).mono ?_)
                    rintro e wa ⟨rfl, hba⟩
                    have g2 := bstep gV hba
                    clear hba
                    refine hK.out _ _ ?_ (fun hHeld => ?_)
                    · (try dsimp only); (try trivial)
                    clear hK K
                    try simp only [Act.put, List.setIfInBounds_toArray, List.set_cons_zero, List.set_cons_succ]
                    refine wpAnyH_take (i := 15) (oi := { dst := some 45, op := _, type := _, pos := _, after := _, guard := _ }) (v := ?v45n99) rfl (by kernel_rfl) (by kernel_rfl) (by kernel_rfl) (fun _ _ _ h => h) (Or.inl ⟨by rfl, ?hy45n99⟩) (by assumption) ?rest45n99
                    case hy45n99 => ((intro w' hSw; (try dsimp only at hSw); go_simp); try (with_reducible rfl))
                    try simp only [Act.put, List.setIfInBounds_toArray, List.set_cons_zero, List.set_cons_succ]
                    refine wpAnyH_take (i := 16) (oi := { dst := some 46, op := _, type := _, pos := _, after := _, guard := _ }) (v := ?v46n100) rfl (by kernel_rfl) (by kernel_rfl) (by kernel_rfl) (fun _ _ _ h => h) (Or.inl ⟨by rfl, ?hy46n100⟩) (by assumption) ?rest46n100
                    case hy46n100 => ((intro w' hSw; (try dsimp only at hSw); go_simp); try (with_reducible rfl))
                    try simp only [Act.put, List.setIfInBounds_toArray, List.set_cons_zero, List.set_cons_succ]
                    refine wpAnyH_take (i := 17) (oi := { dst := some 7, op := _, type := _, pos := _, after := _, guard := _ }) (v := ?v7n101) rfl (by kernel_rfl) (by kernel_rfl) (by kernel_rfl) (fun _ _ _ h => h) (Or.inl ⟨by rfl, ?hy7n101⟩) (by assumption) ?rest7n101
                    case hy7n101 => ((intro w' hSw; (try dsimp only at hSw); go_simp); try (with_reducible rfl))
                    try simp only [Act.put, List.setIfInBounds_toArray, List.set_cons_zero, List.set_cons_succ]
                    refine wpAnyH_done (by kernel_rfl) ?_ _
                    go_wp2
                    go_roundw
                    case rel => exact ⟨i + 1, true, by omega, by go_num, rfl, HCN, g2⟩
                    case measure => simp [intOf]; omega
                  exact AllReadyH.nil
              | false =>
                have HCN : Hid (FrT l n k (i + 1) false) := Lib.hid ⟨fun q => (by cases q), fun q => (HC.out.2 fun i' hi' => q i' (by omega))⟩
                go_wp2_with fail
                refine wp_region_held_drew (S := fun _ => True) (by kernel_rfl) ?_ (fun hHeld => ?_)
                · trivial
                have gV := hbx.drew
                generalize wr.drew = V at *
                refine wpAnyH_take (i := 0) (oi := { dst := some 30, op := _, type := _, pos := _, after := _, guard := _ }) (v := ?v30n102) rfl (by kernel_rfl) (by kernel_rfl) (by kernel_rfl) (fun _ _ _ h => h) (Or.inl ⟨by rfl, ?hy30n102⟩) (by assumption) ?rest30n102
                case hy30n102 => ((intro w' hSw; (try dsimp only at hSw); go_simp); try (with_reducible rfl))
                try simp only [Act.put, List.setIfInBounds_toArray, List.set_cons_zero, List.set_cons_succ]
                refine wpAnyH_take (i := 1) (oi := { dst := some 31, op := _, type := _, pos := _, after := _, guard := _ }) (v := ?v31n103) rfl (by kernel_rfl) (by kernel_rfl) (by kernel_rfl) (fun _ _ _ h => h) (Or.inl ⟨by rfl, ?hy31n103⟩) (by assumption) ?rest31n103
                case hy31n103 => ((intro w' hSw; (try dsimp only at hSw); go_simp); try (with_reducible rfl))
                try simp only [Act.put, List.setIfInBounds_toArray, List.set_cons_zero, List.set_cons_succ]
                refine wpAnyH_take (i := 2) (oi := { dst := some 32, op := _, type := _, pos := _, after := _, guard := _ }) (v := undef) rfl (by kernel_rfl) (by kernel_rfl) (by kernel_rfl) (fun _ _ _ h => h) (Or.inr ⟨by rfl, rfl⟩) (by assumption) ?rest32n104
                try simp only [Act.put, List.setIfInBounds_toArray, List.set_cons_zero, List.set_cons_succ]
                refine wpAnyH_take (i := 3) (oi := { dst := some 33, op := _, type := _, pos := _, after := _, guard := _ }) (v := undef) rfl (by kernel_rfl) (by kernel_rfl) (by kernel_rfl) (fun _ _ _ h => h) (Or.inr ⟨by rfl, rfl⟩) (by assumption) ?rest33n105
                try simp only [Act.put, List.setIfInBounds_toArray, List.set_cons_zero, List.set_cons_succ]
                refine wpAnyH_take (i := 4) (oi := { dst := some 34, op := _, type := _, pos := _, after := _, guard := _ }) (v := undef) rfl (by kernel_rfl) (by kernel_rfl) (by kernel_rfl) (fun _ _ _ h => h) (Or.inr ⟨by rfl, rfl⟩) (by assumption) ?rest34n106
                try simp only [Act.put, List.setIfInBounds_toArray, List.set_cons_zero, List.set_cons_succ]
                refine wpAnyH_take (i := 5) (oi := { dst := some 35, op := _, type := _, pos := _, after := _, guard := _ }) (v := undef) rfl (by kernel_rfl) (by kernel_rfl) (by kernel_rfl) (fun _ _ _ h => h) (Or.inr ⟨by rfl, rfl⟩) (by assumption) ?rest35n107
                try simp only [Act.put, List.setIfInBounds_toArray, List.set_cons_zero, List.set_cons_succ]
                refine wpAnyH_take (i := 6) (oi := { dst := some 36, op := _, type := _, pos := _, after := _, guard := _ }) (v := undef) rfl (by kernel_rfl) (by kernel_rfl) (by kernel_rfl) (fun _ _ _ h => h) (Or.inr ⟨by rfl, rfl⟩) (by assumption) ?rest36n108
                try simp only [Act.put, List.setIfInBounds_toArray, List.set_cons_zero, List.set_cons_succ]
                refine wpAnyH_take (i := 7) (oi := { dst := some 37, op := _, type := _, pos := _, after := _, guard := _ }) (v := undef) rfl (by kernel_rfl) (by kernel_rfl) (by kernel_rfl) (fun _ _ _ h => h) (Or.inr ⟨by rfl, rfl⟩) (by assumption) ?rest37n109
                try simp only [Act.put, List.setIfInBounds_toArray, List.set_cons_zero, List.set_cons_succ]
                refine wpAnyH_take (i := 8) (oi := { dst := some 38, op := _, type := _, pos := _, after := _, guard := _ }) (v := undef) rfl (by kernel_rfl) (by kernel_rfl) (by kernel_rfl) (fun _ _ _ h => h) (Or.inr ⟨by rfl, rfl⟩) (by assumption) ?rest38n110
                try simp only [Act.put, List.setIfInBounds_toArray, List.set_cons_zero, List.set_cons_succ]
                refine wpAnyH_take (i := 9) (oi := { dst := some 39, op := _, type := _, pos := _, after := _, guard := _ }) (v := undef) rfl (by kernel_rfl) (by kernel_rfl) (by kernel_rfl) (fun _ _ _ h => h) (Or.inr ⟨by rfl, rfl⟩) (by assumption) ?rest39n111
                try simp only [Act.put, List.setIfInBounds_toArray, List.set_cons_zero, List.set_cons_succ]
                refine wpAnyH_take (i := 10) (oi := { dst := some 40, op := _, type := _, pos := _, after := _, guard := _ }) (v := undef) rfl (by kernel_rfl) (by kernel_rfl) (by kernel_rfl) (fun _ _ _ h => h) (Or.inr ⟨by rfl, rfl⟩) (by assumption) ?rest40n112
                try simp only [Act.put, List.setIfInBounds_toArray, List.set_cons_zero, List.set_cons_succ]
                refine wpAnyH_take (i := 11) (oi := { dst := some 41, op := _, type := _, pos := _, after := _, guard := _ }) (v := undef) rfl (by kernel_rfl) (by kernel_rfl) (by kernel_rfl) (fun _ _ _ h => h) (Or.inr ⟨by rfl, rfl⟩) (by assumption) ?rest41n113
                try simp only [Act.put, List.setIfInBounds_toArray, List.set_cons_zero, List.set_cons_succ]
                refine wpAnyH_take (i := 12) (oi := { dst := some 42, op := _, type := _, pos := _, after := _, guard := _ }) (v := undef) rfl (by kernel_rfl) (by kernel_rfl) (by kernel_rfl) (fun _ _ _ h => h) (Or.inr ⟨by rfl, rfl⟩) (by assumption) ?rest42n114
                try simp only [Act.put, List.setIfInBounds_toArray, List.set_cons_zero, List.set_cons_succ]
                refine wpAnyH_take (i := 13) (oi := { dst := some 43, op := _, type := _, pos := _, after := _, guard := _ }) (v := undef) rfl (by kernel_rfl) (by kernel_rfl) (by kernel_rfl) (fun _ _ _ h => h) (Or.inr ⟨by rfl, rfl⟩) (by assumption) ?rest43n115
                try simp only [Act.put, List.setIfInBounds_toArray, List.set_cons_zero, List.set_cons_succ]
                refine wpAnyH_take (i := 14) (oi := { dst := some 44, op := _, type := _, pos := _, after := _, guard := _ }) (v := undef) rfl (by kernel_rfl) (by kernel_rfl) (by kernel_rfl) (fun _ _ _ h => h) (Or.inr ⟨by rfl, rfl⟩) (by assumption) ?rest44n116
                try simp only [Act.put, List.setIfInBounds_toArray, List.set_cons_zero, List.set_cons_succ]
                refine wpAnyH_take (i := 15) (oi := { dst := some 45, op := _, type := _, pos := _, after := _, guard := _ }) (v := undef) rfl (by kernel_rfl) (by kernel_rfl) (by kernel_rfl) (fun _ _ _ h => h) (Or.inr ⟨by rfl, rfl⟩) (by assumption) ?rest45n117
                try simp only [Act.put, List.setIfInBounds_toArray, List.set_cons_zero, List.set_cons_succ]
                refine wpAnyH_take (i := 16) (oi := { dst := some 46, op := _, type := _, pos := _, after := _, guard := _ }) (v := ?v46n118) rfl (by kernel_rfl) (by kernel_rfl) (by kernel_rfl) (fun _ _ _ h => h) (Or.inl ⟨by rfl, ?hy46n118⟩) (by assumption) ?rest46n118
                case hy46n118 => ((intro w' hSw; (try dsimp only at hSw); go_simp); try (with_reducible rfl))
                try simp only [Act.put, List.setIfInBounds_toArray, List.set_cons_zero, List.set_cons_succ]
                refine wpAnyH_take (i := 17) (oi := { dst := some 7, op := _, type := _, pos := _, after := _, guard := _ }) (v := ?v7n119) rfl (by kernel_rfl) (by kernel_rfl) (by kernel_rfl) (fun _ _ _ h => h) (Or.inl ⟨by rfl, ?hy7n119⟩) (by assumption) ?rest7n119
                case hy7n119 => ((intro w' hSw; (try dsimp only at hSw); go_simp); try (with_reducible rfl))
                try simp only [Act.put, List.setIfInBounds_toArray, List.set_cons_zero, List.set_cons_succ]
                refine wpAnyH_done (by kernel_rfl) ?_ _
                have g2 := gV
                go_wp2
                go_roundw
                case rel => exact ⟨i + 1, false, by omega, by go_num, rfl, HCN, g2⟩
                case measure => simp [intOf]; omega
            · obtain rfl : i = k := by omega
              cases c with
              | true =>
                have HF := Lib.hid (HY.out (fresh_true.2 (HC.out.1 rfl)))
                go_wp2
                go_roundw
                case rel => exact ⟨i + 1, by omega, by go_num, by rw [HF.out]; go_num, Lib.hid (by omega), hbx⟩
                case measure => simp [intOf]; omega
              | false =>
                have hf0 : freshB l n i = false := by
                  cases hfb : freshB l n i with
                  | false => rfl
                  | true => exact absurd (HC.out.2 (fresh_true.1 hfb)) (by simp)
                have HF := Lib.hid (HN.out hf0)
                clear hf0
                go_wp2
                go_roundw
                case rel => exact ⟨i + 1, by omega, by go_num, by rw [HF.out], Lib.hid (by omega), hbx⟩
                case measure => simp [intOf]; omega
        · have hlz : ¬ (k : Int) + (n : Int) ≤ (l.length : Int) := by omega
          have hKe : k = l.length + 1 - n := by have := HK.out; omega
          have HE := Lib.hid (HR.out.trans (by rw [← hKe]))
          clear hKe
          go_wp2
          go_ret
          exact ⟨by rw [HE.out]; (try rfl), hbr⟩
    · have HR := Lib.hid (countI_no (t := l) (n := n) fun k => h2 k.2)
      have h2' := Lib.hid h2
      clear ht h2
      go_enter Try.func33, Try.ntmps33
      go_wp2_with fail
      refine (tuneok_yes h HT.out).mono ?_
      rintro e w1 ⟨rfl, hb1⟩
      go_wp2_with fail
      refine (in_no _ _ _ h2'.out _).mono ?_
      rintro e w2 ⟨rfl, rfl⟩
      go_wp2
      go_ret
      exact ⟨by rw [HR.out]; (try rfl), hb1⟩
  · have HT : Hid (tuneB l = false) := Lib.hid (by simpa using ht)
    have HR := Lib.hid (countI_no (t := l) (n := n) fun k => ht k.1)
    clear ht
    go_enter Try.func33, Try.ntmps33
    go_wp2_with fail
    refine (tuneok_no h HT.out).mono ?_
    rintro e w1 ⟨rfl, hb1⟩
    go_wp2
    go_ret
    exact ⟨by rw [HR.out]; (try rfl), hb1⟩
end Go.Proofs.Ytglehmffmailkaa
