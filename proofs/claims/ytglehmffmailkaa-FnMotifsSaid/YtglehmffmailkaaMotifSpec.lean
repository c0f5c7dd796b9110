/- The contracts of chapter 18's model: LongestRepeat, CountMotifs. No condition. Made by gen_motif.py. -/
import Derived.Test.YtglehmffmailkaaMotifSub
import Derived.Deep.RegionHeld3
namespace Go.Proofs.Ytglehmffmailkaa
open Go.ChangeShapes Go.WideShapes Go.ChangeAt Go.RowKit

theorem samG_any {W : World} {b off cap c1 c2 : Nat} {l : List (Int × Int)} (h : Rd2 W (.slice (some ⟨b, off, none⟩) l.length cap) l) {i k n : Nat} (hi : i + n ≤ l.length) (hk : k + n ≤ l.length) :
    Calls Try.prog 36 #[.slice (some ⟨b, off + i * 2, none⟩) n c1, .slice (some ⟨b, off + k * 2, none⟩) n c2] W fun e w' => e = .returned (.bool (samT l i k n)) ∧ Below W.heap.size W w' := by
  have h1 := rd2_sub (c2 := c1) h hi
  have h2 := rd2_sub (c2 := c2) h hk
  exact same_any h1 h2

theorem long_step {l : List (Int × Int)} {best i k n : Nat} (hA : best = 0 ∨ RepP l best) (hik : i + 1 ≤ k) (hn : k + n ≤ l.length) (hs : samT l i k n = true) : max best n = 0 ∨ RepP l (max best n) := by
  by_cases h : best ≤ n
  · rw [Nat.max_eq_right h]; exact Or.inr ⟨i, k, hik, hn, hs⟩
  · rw [Nat.max_eq_left (by omega)]; exact hA
theorem long_keep {l : List (Int × Int)} {best i k n : Nat} (hB : (∀ i' k' n, i' < i → i' < k' → k' + n ≤ l.length → samT l i' k' n = true → n ≤ best) ∧ ∀ k' n, i < k' → k' < k → k' + n ≤ l.length → samT l i k' n = true → n ≤ best)
    (hX : ∀ n', k + n' ≤ l.length → samT l i k n' = true → n' ≤ n) :
    (∀ i' k' m, i' < i → i' < k' → k' + m ≤ l.length → samT l i' k' m = true → m ≤ max best n) ∧ ∀ k' m, i < k' → k' < k + 1 → k' + m ≤ l.length → samT l i k' m = true → m ≤ max best n := by
  refine ⟨fun i' k' m h1 h2 h3 h4 => Nat.le_trans (hB.1 i' k' m h1 h2 h3 h4) (Nat.le_max_left _ _), fun k' m h1 h2 h3 h4 => ?_⟩
  by_cases hk : k' < k
  · exact Nat.le_trans (hB.2 k' m h1 hk h3 h4) (Nat.le_max_left _ _)
  · obtain rfl : k' = k := by omega
    exact Nat.le_trans (hX m h3 h4) (Nat.le_max_right _ _)

set_option maxHeartbeats 4000000 in
set_option maxRecDepth 100000 in
theorem longG_any {w : World} {v : Value} {l : List (Int × Int)} (hc : Rc2 w v l) :
    Calls Try.prog 32 #[v] w fun e w' => e = .returned (.int .i64 (longI l)) ∧ Below w.heap.size w w' := by
  have h := hc.1
  obtain ⟨a1, cap1, rfl⟩ := Rd.slice h
  have hcap := hc.2.le
  have hm := h.2.1
  unfold maxLen at hm
  clear hc
  by_cases ht : tuneB l = true
  · have HT := Lib.hid ht
    have h40 := (tuneB_true.1 ht).1
    have HR := Lib.hid (longI_yes ht)
    have HA1 : Hid (0 < l.length → ∃ b o, a1 = some ⟨b, o, none⟩) := Lib.hid (fun hp => by
      obtain ⟨b, o, c, hv, _⟩ := Rd.pos h hp
      simp only [Value.slice.injEq] at hv
      exact ⟨b, o, hv.1⟩)
    clear ht
    go_enter Try.func32, Try.ntmps32
    go_wp2_with fail
    refine (tuneok_yes h HT.out).mono ?_
    rintro e w1 ⟨rfl, hb1⟩
    go_wp2_with fail
    go_loopw [3, 4] (fun v3 v4 wr => ∃ i best : Nat, i ≤ l.length ∧ best ≤ l.length ∧ v4 = .int .i64 (i : Int) ∧ v3 = .int .i64 (best : Int) ∧ Hid (best = 0 ∨ RepP l best) ∧ Hid (∀ i' k' n, i' < i → i' < k' → k' + n ≤ l.length → samT l i' k' n = true → n ≤ best) ∧ Below w.heap.size w wr) (fun _ v4 _ => l.length - (intOf v4).toNat)
    case atStart => exact ⟨0, 0, Nat.zero_le _, Nat.zero_le _, rfl, rfl, Lib.hid (Or.inl rfl), Lib.hid (fun i' k' n hi => by omega), hb1⟩
    case round =>
      obtain ⟨i, best, hi, hbl, rfl, rfl, HA, HB, hbr⟩ := hrel
      by_cases hlt : i < l.length
      · obtain ⟨b1, o1, rfl⟩ := HA1.out (by omega)
        go_wp2_with fail
        go_loopw [3, 5] (fun v3 v5 wx => ∃ k best : Nat, i + 1 ≤ k ∧ k ≤ l.length ∧ best ≤ l.length ∧ v5 = .int .i64 (k : Int) ∧ v3 = .int .i64 (best : Int) ∧ Hid (best = 0 ∨ RepP l best) ∧ Hid ((∀ i' k' n, i' < i → i' < k' → k' + n ≤ l.length → samT l i' k' n = true → n ≤ best) ∧ ∀ k' n, i < k' → k' < k → k' + n ≤ l.length → samT l i k' n = true → n ≤ best) ∧ Below w.heap.size w wx) (fun _ v5 _ => l.length - (intOf v5).toNat)
        case atStart => exact ⟨i + 1, best, Nat.le_refl _, hlt, hbl, by go_num, rfl, HA, Lib.hid ⟨HB.out, fun k' n h1 h2 => by omega⟩, hbr⟩
        case round =>
          obtain ⟨k, best, hk1, hk, hbl, rfl, rfl, HA, HB, hbx⟩ := hrel
          clear hbr
          by_cases hlk : k < l.length
          · go_wp2_with fail
            go_loopw [6] (fun v6 wy => ∃ n : Nat, 1 ≤ n ∧ k + n ≤ l.length ∧ v6 = .int .i64 (n : Int) ∧ Hid (samT l i k n = true) ∧ Below w.heap.size w wy) (fun v6 _ => l.length - (intOf v6).toNat)
            case atStart => exact ⟨1, Nat.le_refl _, hlk, rfl, Lib.hid (samT_one HT.out hlt hlk), hbx⟩
            case round =>
              obtain ⟨n, hn1, hn, rfl, HS, hby⟩ := hrel
              clear hbx
              by_cases hlast : k + n < l.length
              · have t1 : ((i : Int) + (n : Int) + 1).toNat = i + n + 1 := by omega
                have t2 : ((k : Int) + (n : Int) + 1).toNat = k + n + 1 := by omega
                have wi : IntKind.i64.wrap ((i : Int) + (n : Int)) = (i : Int) + (n : Int) := IntWalk.i64_in _ (by omega)
                have wk : IntKind.i64.wrap ((k : Int) + (n : Int)) = (k : Int) + (n : Int) := IntWalk.i64_in _ (by omega)
                have wi1 : IntKind.i64.wrap ((i : Int) + (n : Int) + 1) = (i : Int) + (n : Int) + 1 := IntWalk.i64_in _ (by omega)
                have wk1 : IntKind.i64.wrap ((k : Int) + (n : Int) + 1) = (k : Int) + (n : Int) + 1 := IntWalk.i64_in _ (by omega)
                have hfi : (0 : Int) ≤ (i : Int) + (n : Int) + 1 ∧ (i : Int) + (n : Int) + 1 ≤ (cap1 : Int) := by omega
                have hfk : (0 : Int) ≤ (k : Int) + (n : Int) + 1 ∧ (k : Int) + (n : Int) + 1 ≤ (cap1 : Int) := by omega
                have d1 : i + n + 1 - i = n + 1 := by omega
                have d2 : k + n + 1 - k = n + 1 := by omega
                have hci : ¬ cap1 = i := by omega
                have hck : ¬ cap1 = k := by omega
                have hlz : (k : Int) + (n : Int) < (l.length : Int) := by omega
                have hdz : decide ((k : Int) + (n : Int) < (l.length : Int)) = true := decide_eq_true hlz
                have hin : i + (n + 1) ≤ l.length := by omega
                have hkn : k + (n + 1) ≤ l.length := by omega
                have HSM := Lib.hid (fun (W : World) (hW : Below w.heap.size w W) => samG_any (c1 := cap1 - i) (c2 := cap1 - k) (Rd.below h hW) hin hkn)
                generalize hsn : samT l i k (n + 1) = s at *
                replace hsn := Lib.hid hsn
                cases s with
                | true =>
                  go_wp2_with fail
                  refine wp_region_held_drew (S := fun _ => True) (by kernel_rfl) ?_ (fun hHeld => ?_)
                  · trivial
                  have gV := hby.drew
                  generalize wr.drew = V at *
                  refine wpAnyH_take (i := 0) (oi := { dst := some 24, op := _, type := _, pos := _, after := _, guard := _ }) (v := ?v24n1) rfl (by kernel_rfl) (by kernel_rfl) (by kernel_rfl) (fun _ _ _ h => h) (Or.inl ⟨by rfl, ?hy24n1⟩) (by assumption) ?rest24n1
                  case hy24n1 => ((intro w' hSw; (try dsimp only at hSw); go_simp); try (with_reducible rfl))
                  try simp only [Act.put, List.setIfInBounds_toArray, List.set_cons_zero, List.set_cons_succ]
                  refine wpAnyH_take (i := 1) (oi := { dst := some 25, op := _, type := _, pos := _, after := _, guard := _ }) (v := ?v25n2) rfl (by kernel_rfl) (by kernel_rfl) (by kernel_rfl) (fun _ _ _ h => h) (Or.inl ⟨by rfl, ?hy25n2⟩) (by assumption) ?rest25n2
                  case hy25n2 => ((intro w' hSw; (try dsimp only at hSw); go_simp); try (with_reducible rfl))
                  try simp only [Act.put, List.setIfInBounds_toArray, List.set_cons_zero, List.set_cons_succ]
                  refine wpAnyH_take (i := 2) (oi := { dst := some 26, op := _, type := _, pos := _, after := _, guard := _ }) (v := ?v26n3) rfl (by kernel_rfl) (by kernel_rfl) (by kernel_rfl) (fun _ _ _ h => h) (Or.inl ⟨by rfl, ?hy26n3⟩) (by assumption) ?rest26n3
                  case hy26n3 => ((intro w' hSw; (try dsimp only at hSw); go_simp); try (with_reducible rfl))
                  try simp only [Act.put, List.setIfInBounds_toArray, List.set_cons_zero, List.set_cons_succ]
                  refine wpAnyH_take (i := 3) (oi := { dst := some 27, op := _, type := _, pos := _, after := _, guard := _ }) (v := ?v27n4) rfl (by kernel_rfl) (by kernel_rfl) (by kernel_rfl) (fun _ _ _ h => h) (Or.inl ⟨by rfl, ?hy27n4⟩) (by assumption) ?rest27n4
                  case hy27n4 => ((intro w' hSw; (try dsimp only at hSw); go_simp); try (with_reducible rfl))
                  try simp only [Act.put, List.setIfInBounds_toArray, List.set_cons_zero, List.set_cons_succ]
                  refine wpAnyH_take (i := 4) (oi := { dst := some 28, op := _, type := _, pos := _, after := _, guard := _ }) (v := ?v28n5) rfl (by kernel_rfl) (by kernel_rfl) (by kernel_rfl) (fun _ _ _ h => h) (Or.inl ⟨by rfl, ?hy28n5⟩) (by assumption) ?rest28n5
                  case hy28n5 => ((intro w' hSw; (try dsimp only at hSw); go_simp); try (with_reducible rfl))
                  try simp only [Act.put, List.setIfInBounds_toArray, List.set_cons_zero, List.set_cons_succ]
                  refine wpAnyH_take (i := 5) (oi := { dst := some 29, op := _, type := _, pos := _, after := _, guard := _ }) (v := .bool true) rfl (by kernel_rfl) (by kernel_rfl) (by kernel_rfl) (fun _ _ _ h => h) (Or.inl ⟨by rfl, ?hy29n6⟩) (by assumption) ?rest29n6
                  case hy29n6 =>
                    intro w' hSw
                    clear hSw
                    go_simp
                    first | done | rfl | (rw [hdz]; done) | (rw [hdz]; rfl)
                  try simp only [Act.put, List.setIfInBounds_toArray, List.set_cons_zero, List.set_cons_succ]
                  refine wpAnyH_take (i := 6) (oi := { dst := some 30, op := _, type := _, pos := _, after := _, guard := _ }) (v := ?v30n7) rfl (by kernel_rfl) (by kernel_rfl) (by kernel_rfl) (fun _ _ _ h => h) (Or.inl ⟨by rfl, ?hy30n7⟩) (by assumption) ?rest30n7
                  case hy30n7 => ((intro w' hSw; (try dsimp only at hSw); go_simp); try (with_reducible rfl))
                  try simp only [Act.put, List.setIfInBounds_toArray, List.set_cons_zero, List.set_cons_succ]
                  refine wpAnyH_take (i := 7) (oi := { dst := some 31, op := _, type := _, pos := _, after := _, guard := _ }) (v := ?v31n8) rfl (by kernel_rfl) (by kernel_rfl) (by kernel_rfl) (fun _ _ _ h => h) (Or.inl ⟨by rfl, ?hy31n8⟩) (by assumption) ?rest31n8
                  case hy31n8 => ((intro w' hSw; (try dsimp only at hSw); go_simp); try (with_reducible rfl))
                  try simp only [Act.put, List.setIfInBounds_toArray, List.set_cons_zero, List.set_cons_succ]
                  refine wpAnyH_take (i := 8) (oi := { dst := some 32, op := _, type := _, pos := _, after := _, guard := _ }) (v := ?v32n9) rfl (by kernel_rfl) (by kernel_rfl) (by kernel_rfl) (fun _ _ _ h => h) (Or.inl ⟨by rfl, ?hy32n9⟩) (by assumption) ?rest32n9
                  case hy32n9 => ((intro w' hSw; (try dsimp only at hSw); go_simp); try (with_reducible rfl))
                  try simp only [Act.put, List.setIfInBounds_toArray, List.set_cons_zero, List.set_cons_succ]
                  refine wpAnyH_take (i := 9) (oi := { dst := some 33, op := _, type := _, pos := _, after := _, guard := _ }) (v := ?v33n10) rfl (by kernel_rfl) (by kernel_rfl) (by kernel_rfl) (fun _ _ _ h => h) (Or.inl ⟨by rfl, ?hy33n10⟩) (by assumption) ?rest33n10
                  case hy33n10 => ((intro w' hSw; (try dsimp only at hSw); go_simp); try (with_reducible rfl))
                  try simp only [Act.put, List.setIfInBounds_toArray, List.set_cons_zero, List.set_cons_succ]
                  refine wpAnyH_take (i := 10) (oi := { dst := some 34, op := _, type := _, pos := _, after := _, guard := _ }) (v := ?v34n11) rfl (by kernel_rfl) (by kernel_rfl) (by kernel_rfl) (fun _ _ _ h => h) (Or.inl ⟨by rfl, ?hy34n11⟩) (by assumption) ?rest34n11
                  case hy34n11 => ((intro w' hSw; (try dsimp only at hSw); go_simp); try (with_reducible rfl))
                  try simp only [Act.put, List.setIfInBounds_toArray, List.set_cons_zero, List.set_cons_succ]
                  refine wpAnyH_take (i := 11) (oi := { dst := some 35, op := _, type := _, pos := _, after := _, guard := _ }) (v := ?v35n12) rfl (by kernel_rfl) (by kernel_rfl) (by kernel_rfl) (fun _ _ _ h => h) (Or.inl ⟨by rfl, ?hy35n12⟩) (by assumption) ?rest35n12
                  case hy35n12 => ((intro w' hSw; (try dsimp only at hSw); go_simp); try (with_reducible rfl))
                  try simp only [Act.put, List.setIfInBounds_toArray, List.set_cons_zero, List.set_cons_succ]
                  refine wpAnyH_take (i := 12) (oi := { dst := some 36, op := _, type := _, pos := _, after := _, guard := _ }) (v := ?v36n13) rfl (by kernel_rfl) (by kernel_rfl) (by kernel_rfl) (fun _ _ _ h => h) (Or.inl ⟨by rfl, ?hy36n13⟩) (by assumption) ?rest36n13
                  case hy36n13 => ((intro w' hSw; (try dsimp only at hSw); go_simp); try (with_reducible rfl))
                  try simp only [Act.put, List.setIfInBounds_toArray, List.set_cons_zero, List.set_cons_succ]
                  refine wpAnyH_take (i := 13) (oi := { dst := some 37, op := _, type := _, pos := _, after := _, guard := _ }) (v := .slice (some ⟨b1, o1 + i * 2, none⟩) (n + 1) (cap1 - i)) rfl (by kernel_rfl) (by kernel_rfl) (by kernel_rfl) (fun _ _ _ h => h) (Or.inl ⟨by rfl, ?hy37n14⟩) (by assumption) ?rest37n14
                  case hy37n14 =>
                    intro w' hSw
                    clear hSw
                    go_simp
                    first | done | rfl | (intro hx; exfalso; omega)
                  try simp only [Act.put, List.setIfInBounds_toArray, List.set_cons_zero, List.set_cons_succ]
                  refine wpAnyH_take (i := 14) (oi := { dst := some 38, op := _, type := _, pos := _, after := _, guard := _ }) (v := ?v38n15) rfl (by kernel_rfl) (by kernel_rfl) (by kernel_rfl) (fun _ _ _ h => h) (Or.inl ⟨by rfl, ?hy38n15⟩) (by assumption) ?rest38n15
                  case hy38n15 => ((intro w' hSw; (try dsimp only at hSw); go_simp); try (with_reducible rfl))
                  try simp only [Act.put, List.setIfInBounds_toArray, List.set_cons_zero, List.set_cons_succ]
                  refine wpAnyH_take (i := 15) (oi := { dst := some 39, op := _, type := _, pos := _, after := _, guard := _ }) (v := ?v39n16) rfl (by kernel_rfl) (by kernel_rfl) (by kernel_rfl) (fun _ _ _ h => h) (Or.inl ⟨by rfl, ?hy39n16⟩) (by assumption) ?rest39n16
                  case hy39n16 => ((intro w' hSw; (try dsimp only at hSw); go_simp); try (with_reducible rfl))
                  try simp only [Act.put, List.setIfInBounds_toArray, List.set_cons_zero, List.set_cons_succ]
                  refine wpAnyH_take (i := 16) (oi := { dst := some 40, op := _, type := _, pos := _, after := _, guard := _ }) (v := ?v40n17) rfl (by kernel_rfl) (by kernel_rfl) (by kernel_rfl) (fun _ _ _ h => h) (Or.inl ⟨by rfl, ?hy40n17⟩) (by assumption) ?rest40n17
                  case hy40n17 => ((intro w' hSw; (try dsimp only at hSw); go_simp); try (with_reducible rfl))
                  try simp only [Act.put, List.setIfInBounds_toArray, List.set_cons_zero, List.set_cons_succ]
                  refine wpAnyH_take (i := 17) (oi := { dst := some 41, op := _, type := _, pos := _, after := _, guard := _ }) (v := ?v41n18) rfl (by kernel_rfl) (by kernel_rfl) (by kernel_rfl) (fun _ _ _ h => h) (Or.inl ⟨by rfl, ?hy41n18⟩) (by assumption) ?rest41n18
                  case hy41n18 => ((intro w' hSw; (try dsimp only at hSw); go_simp); try (with_reducible rfl))
                  try simp only [Act.put, List.setIfInBounds_toArray, List.set_cons_zero, List.set_cons_succ]
                  refine wpAnyH_take (i := 18) (oi := { dst := some 42, op := _, type := _, pos := _, after := _, guard := _ }) (v := ?v42n19) rfl (by kernel_rfl) (by kernel_rfl) (by kernel_rfl) (fun _ _ _ h => h) (Or.inl ⟨by rfl, ?hy42n19⟩) (by assumption) ?rest42n19
                  case hy42n19 => ((intro w' hSw; (try dsimp only at hSw); go_simp); try (with_reducible rfl))
                  try simp only [Act.put, List.setIfInBounds_toArray, List.set_cons_zero, List.set_cons_succ]
                  refine wpAnyH_take (i := 19) (oi := { dst := some 43, op := _, type := _, pos := _, after := _, guard := _ }) (v := ?v43n20) rfl (by kernel_rfl) (by kernel_rfl) (by kernel_rfl) (fun _ _ _ h => h) (Or.inl ⟨by rfl, ?hy43n20⟩) (by assumption) ?rest43n20
                  case hy43n20 => ((intro w' hSw; (try dsimp only at hSw); go_simp); try (with_reducible rfl))
                  try simp only [Act.put, List.setIfInBounds_toArray, List.set_cons_zero, List.set_cons_succ]
                  refine wpAnyH_take (i := 20) (oi := { dst := some 44, op := _, type := _, pos := _, after := _, guard := _ }) (v := .slice (some ⟨b1, o1 + k * 2, none⟩) (n + 1) (cap1 - k)) rfl (by kernel_rfl) (by kernel_rfl) (by kernel_rfl) (fun _ _ _ h => h) (Or.inl ⟨by rfl, ?hy44n21⟩) (by assumption) ?rest44n21
                  case hy44n21 =>
                    intro w' hSw
                    clear hSw
                    go_simp
                    first | done | rfl | (intro hx; exfalso; omega)
                  try simp only [Act.put, List.setIfInBounds_toArray, List.set_cons_zero, List.set_cons_succ]
                  refine wpAnyH_ready (rs := [21]) (by kernel_rfl) (by simp) ?_
                  refine AllReadyH.cons rfl (fun K hK => ?_) ?_
                  · go_simp
                    go_at_call 36
                    (with_reducible refine (HSM.out _ gV).mono ?_)
                    rintro e wa ⟨rfl, hba⟩
                    have g2 := bstep gV hba
                    clear hba
                    refine hK.out _ _ ?_ (fun hHeld => ?_)
                    · (try dsimp only); (try trivial)
                    clear hK K
                    try simp only [Act.put, List.setIfInBounds_toArray, List.set_cons_zero, List.set_cons_succ]
                    refine wpAnyH_take (i := 22) (oi := { dst := some 46, op := _, type := _, pos := _, after := _, guard := _ }) (v := ?v46n22) rfl (by kernel_rfl) (by kernel_rfl) (by kernel_rfl) (fun _ _ _ h => h) (Or.inl ⟨by rfl, ?hy46n22⟩) (by assumption) ?rest46n22
                    case hy46n22 => ((intro w' hSw; (try dsimp only at hSw); go_simp); try (with_reducible rfl))
                    try simp only [Act.put, List.setIfInBounds_toArray, List.set_cons_zero, List.set_cons_succ]
                    refine wpAnyH_done (by kernel_rfl) ?_ _
                    go_wp2
                    go_roundw
                    case rel => exact ⟨n + 1, by omega, by omega, by go_num, hsn, g2⟩
                    case measure => simp [intOf]; omega
                  exact AllReadyH.nil
                | false =>
                  go_wp2_with fail
                  refine wp_region_held_drew (S := fun _ => True) (by kernel_rfl) ?_ (fun hHeld => ?_)
                  · trivial
                  have gV := hby.drew
                  generalize wr.drew = V at *
                  refine wpAnyH_take (i := 0) (oi := { dst := some 24, op := _, type := _, pos := _, after := _, guard := _ }) (v := ?v24n23) rfl (by kernel_rfl) (by kernel_rfl) (by kernel_rfl) (fun _ _ _ h => h) (Or.inl ⟨by rfl, ?hy24n23⟩) (by assumption) ?rest24n23
                  case hy24n23 => ((intro w' hSw; (try dsimp only at hSw); go_simp); try (with_reducible rfl))
                  try simp only [Act.put, List.setIfInBounds_toArray, List.set_cons_zero, List.set_cons_succ]
                  refine wpAnyH_take (i := 1) (oi := { dst := some 25, op := _, type := _, pos := _, after := _, guard := _ }) (v := ?v25n24) rfl (by kernel_rfl) (by kernel_rfl) (by kernel_rfl) (fun _ _ _ h => h) (Or.inl ⟨by rfl, ?hy25n24⟩) (by assumption) ?rest25n24
                  case hy25n24 => ((intro w' hSw; (try dsimp only at hSw); go_simp); try (with_reducible rfl))
                  try simp only [Act.put, List.setIfInBounds_toArray, List.set_cons_zero, List.set_cons_succ]
                  refine wpAnyH_take (i := 2) (oi := { dst := some 26, op := _, type := _, pos := _, after := _, guard := _ }) (v := ?v26n25) rfl (by kernel_rfl) (by kernel_rfl) (by kernel_rfl) (fun _ _ _ h => h) (Or.inl ⟨by rfl, ?hy26n25⟩) (by assumption) ?rest26n25
                  case hy26n25 => ((intro w' hSw; (try dsimp only at hSw); go_simp); try (with_reducible rfl))
                  try simp only [Act.put, List.setIfInBounds_toArray, List.set_cons_zero, List.set_cons_succ]
                  refine wpAnyH_take (i := 3) (oi := { dst := some 27, op := _, type := _, pos := _, after := _, guard := _ }) (v := ?v27n26) rfl (by kernel_rfl) (by kernel_rfl) (by kernel_rfl) (fun _ _ _ h => h) (Or.inl ⟨by rfl, ?hy27n26⟩) (by assumption) ?rest27n26
                  case hy27n26 => ((intro w' hSw; (try dsimp only at hSw); go_simp); try (with_reducible rfl))
                  try simp only [Act.put, List.setIfInBounds_toArray, List.set_cons_zero, List.set_cons_succ]
                  refine wpAnyH_take (i := 4) (oi := { dst := some 28, op := _, type := _, pos := _, after := _, guard := _ }) (v := ?v28n27) rfl (by kernel_rfl) (by kernel_rfl) (by kernel_rfl) (fun _ _ _ h => h) (Or.inl ⟨by rfl, ?hy28n27⟩) (by assumption) ?rest28n27
                  case hy28n27 => ((intro w' hSw; (try dsimp only at hSw); go_simp); try (with_reducible rfl))
                  try simp only [Act.put, List.setIfInBounds_toArray, List.set_cons_zero, List.set_cons_succ]
                  refine wpAnyH_take (i := 5) (oi := { dst := some 29, op := _, type := _, pos := _, after := _, guard := _ }) (v := .bool true) rfl (by kernel_rfl) (by kernel_rfl) (by kernel_rfl) (fun _ _ _ h => h) (Or.inl ⟨by rfl, ?hy29n28⟩) (by assumption) ?rest29n28
                  case hy29n28 =>
                    intro w' hSw
                    clear hSw
                    go_simp
                    first | done | rfl | (rw [hdz]; done) | (rw [hdz]; rfl)
                  try simp only [Act.put, List.setIfInBounds_toArray, List.set_cons_zero, List.set_cons_succ]
                  refine wpAnyH_take (i := 6) (oi := { dst := some 30, op := _, type := _, pos := _, after := _, guard := _ }) (v := ?v30n29) rfl (by kernel_rfl) (by kernel_rfl) (by kernel_rfl) (fun _ _ _ h => h) (Or.inl ⟨by rfl, ?hy30n29⟩) (by assumption) ?rest30n29
                  case hy30n29 => ((intro w' hSw; (try dsimp only at hSw); go_simp); try (with_reducible rfl))
                  try simp only [Act.put, List.setIfInBounds_toArray, List.set_cons_zero, List.set_cons_succ]
                  refine wpAnyH_take (i := 7) (oi := { dst := some 31, op := _, type := _, pos := _, after := _, guard := _ }) (v := ?v31n30) rfl (by kernel_rfl) (by kernel_rfl) (by kernel_rfl) (fun _ _ _ h => h) (Or.inl ⟨by rfl, ?hy31n30⟩) (by assumption) ?rest31n30
                  case hy31n30 => ((intro w' hSw; (try dsimp only at hSw); go_simp); try (with_reducible rfl))
                  try simp only [Act.put, List.setIfInBounds_toArray, List.set_cons_zero, List.set_cons_succ]
                  refine wpAnyH_take (i := 8) (oi := { dst := some 32, op := _, type := _, pos := _, after := _, guard := _ }) (v := ?v32n31) rfl (by kernel_rfl) (by kernel_rfl) (by kernel_rfl) (fun _ _ _ h => h) (Or.inl ⟨by rfl, ?hy32n31⟩) (by assumption) ?rest32n31
                  case hy32n31 => ((intro w' hSw; (try dsimp only at hSw); go_simp); try (with_reducible rfl))
                  try simp only [Act.put, List.setIfInBounds_toArray, List.set_cons_zero, List.set_cons_succ]
                  refine wpAnyH_take (i := 9) (oi := { dst := some 33, op := _, type := _, pos := _, after := _, guard := _ }) (v := ?v33n32) rfl (by kernel_rfl) (by kernel_rfl) (by kernel_rfl) (fun _ _ _ h => h) (Or.inl ⟨by rfl, ?hy33n32⟩) (by assumption) ?rest33n32
                  case hy33n32 => ((intro w' hSw; (try dsimp only at hSw); go_simp); try (with_reducible rfl))
                  try simp only [Act.put, List.setIfInBounds_toArray, List.set_cons_zero, List.set_cons_succ]
                  refine wpAnyH_take (i := 10) (oi := { dst := some 34, op := _, type := _, pos := _, after := _, guard := _ }) (v := ?v34n33) rfl (by kernel_rfl) (by kernel_rfl) (by kernel_rfl) (fun _ _ _ h => h) (Or.inl ⟨by rfl, ?hy34n33⟩) (by assumption) ?rest34n33
                  case hy34n33 => ((intro w' hSw; (try dsimp only at hSw); go_simp); try (with_reducible rfl))
                  try simp only [Act.put, List.setIfInBounds_toArray, List.set_cons_zero, List.set_cons_succ]
                  refine wpAnyH_take (i := 11) (oi := { dst := some 35, op := _, type := _, pos := _, after := _, guard := _ }) (v := ?v35n34) rfl (by kernel_rfl) (by kernel_rfl) (by kernel_rfl) (fun _ _ _ h => h) (Or.inl ⟨by rfl, ?hy35n34⟩) (by assumption) ?rest35n34
                  case hy35n34 => ((intro w' hSw; (try dsimp only at hSw); go_simp); try (with_reducible rfl))
                  try simp only [Act.put, List.setIfInBounds_toArray, List.set_cons_zero, List.set_cons_succ]
                  refine wpAnyH_take (i := 12) (oi := { dst := some 36, op := _, type := _, pos := _, after := _, guard := _ }) (v := ?v36n35) rfl (by kernel_rfl) (by kernel_rfl) (by kernel_rfl) (fun _ _ _ h => h) (Or.inl ⟨by rfl, ?hy36n35⟩) (by assumption) ?rest36n35
                  case hy36n35 => ((intro w' hSw; (try dsimp only at hSw); go_simp); try (with_reducible rfl))
                  try simp only [Act.put, List.setIfInBounds_toArray, List.set_cons_zero, List.set_cons_succ]
                  refine wpAnyH_take (i := 13) (oi := { dst := some 37, op := _, type := _, pos := _, after := _, guard := _ }) (v := .slice (some ⟨b1, o1 + i * 2, none⟩) (n + 1) (cap1 - i)) rfl (by kernel_rfl) (by kernel_rfl) (by kernel_rfl) (fun _ _ _ h => h) (Or.inl ⟨by rfl, ?hy37n36⟩) (by assumption) ?rest37n36
                  case hy37n36 =>
                    intro w' hSw
                    clear hSw
                    go_simp
                    first | done | rfl | (intro hx; exfalso; omega)
                  try simp only [Act.put, List.setIfInBounds_toArray, List.set_cons_zero, List.set_cons_succ]
                  refine wpAnyH_take (i := 14) (oi := { dst := some 38, op := _, type := _, pos := _, after := _, guard := _ }) (v := ?v38n37) rfl (by kernel_rfl) (by kernel_rfl) (by kernel_rfl) (fun _ _ _ h => h) (Or.inl ⟨by rfl, ?hy38n37⟩) (by assumption) ?rest38n37
                  case hy38n37 => ((intro w' hSw; (try dsimp only at hSw); go_simp); try (with_reducible rfl))
                  try simp only [Act.put, List.setIfInBounds_toArray, List.set_cons_zero, List.set_cons_succ]
                  refine wpAnyH_take (i := 15) (oi := { dst := some 39, op := _, type := _, pos := _, after := _, guard := _ }) (v := ?v39n38) rfl (by kernel_rfl) (by kernel_rfl) (by kernel_rfl) (fun _ _ _ h => h) (Or.inl ⟨by rfl, ?hy39n38⟩) (by assumption) ?rest39n38
                  case hy39n38 => ((intro w' hSw; (try dsimp only at hSw); go_simp); try (with_reducible rfl))
                  try simp only [Act.put, List.setIfInBounds_toArray, List.set_cons_zero, List.set_cons_succ]
                  refine wpAnyH_take (i := 16) (oi := { dst := some 40, op := _, type := _, pos := _, after := _, guard := _ }) (v := ?v40n39) rfl (by kernel_rfl) (by kernel_rfl) (by kernel_rfl) (fun _ _ _ h => h) (Or.inl ⟨by rfl, ?hy40n39⟩) (by assumption) ?rest40n39
                  case hy40n39 => ((intro w' hSw; (try dsimp only at hSw); go_simp); try (with_reducible rfl))
                  try simp only [Act.put, List.setIfInBounds_toArray, List.set_cons_zero, List.set_cons_succ]
                  refine wpAnyH_take (i := 17) (oi := { dst := some 41, op := _, type := _, pos := _, after := _, guard := _ }) (v := ?v41n40) rfl (by kernel_rfl) (by kernel_rfl) (by kernel_rfl) (fun _ _ _ h => h) (Or.inl ⟨by rfl, ?hy41n40⟩) (by assumption) ?rest41n40
                  case hy41n40 => ((intro w' hSw; (try dsimp only at hSw); go_simp); try (with_reducible rfl))
                  try simp only [Act.put, List.setIfInBounds_toArray, List.set_cons_zero, List.set_cons_succ]
                  refine wpAnyH_take (i := 18) (oi := { dst := some 42, op := _, type := _, pos := _, after := _, guard := _ }) (v := ?v42n41) rfl (by kernel_rfl) (by kernel_rfl) (by kernel_rfl) (fun _ _ _ h => h) (Or.inl ⟨by rfl, ?hy42n41⟩) (by assumption) ?rest42n41
                  case hy42n41 => ((intro w' hSw; (try dsimp only at hSw); go_simp); try (with_reducible rfl))
                  try simp only [Act.put, List.setIfInBounds_toArray, List.set_cons_zero, List.set_cons_succ]
                  refine wpAnyH_take (i := 19) (oi := { dst := some 43, op := _, type := _, pos := _, after := _, guard := _ }) (v := ?v43n42) rfl (by kernel_rfl) (by kernel_rfl) (by kernel_rfl) (fun _ _ _ h => h) (Or.inl ⟨by rfl, ?hy43n42⟩) (by assumption) ?rest43n42
                  case hy43n42 => ((intro w' hSw; (try dsimp only at hSw); go_simp); try (with_reducible rfl))
                  try simp only [Act.put, List.setIfInBounds_toArray, List.set_cons_zero, List.set_cons_succ]
                  refine wpAnyH_take (i := 20) (oi := { dst := some 44, op := _, type := _, pos := _, after := _, guard := _ }) (v := .slice (some ⟨b1, o1 + k * 2, none⟩) (n + 1) (cap1 - k)) rfl (by kernel_rfl) (by kernel_rfl) (by kernel_rfl) (fun _ _ _ h => h) (Or.inl ⟨by rfl, ?hy44n43⟩) (by assumption) ?rest44n43
                  case hy44n43 =>
                    intro w' hSw
                    clear hSw
                    go_simp
                    first | done | rfl | (intro hx; exfalso; omega)
                  try simp only [Act.put, List.setIfInBounds_toArray, List.set_cons_zero, List.set_cons_succ]
                  refine wpAnyH_ready (rs := [21]) (by kernel_rfl) (by simp) ?_
                  refine AllReadyH.cons rfl (fun K hK => ?_) ?_
                  · go_simp
                    go_at_call 36
                    (with_reducible refine (HSM.out _ gV).mono ?_)
                    rintro e wa ⟨rfl, hba⟩
                    have g2 := bstep gV hba
                    clear hba
                    refine hK.out _ _ ?_ (fun hHeld => ?_)
                    · (try dsimp only); (try trivial)
                    clear hK K
                    try simp only [Act.put, List.setIfInBounds_toArray, List.set_cons_zero, List.set_cons_succ]
                    refine wpAnyH_take (i := 22) (oi := { dst := some 46, op := _, type := _, pos := _, after := _, guard := _ }) (v := ?v46n44) rfl (by kernel_rfl) (by kernel_rfl) (by kernel_rfl) (fun _ _ _ h => h) (Or.inl ⟨by rfl, ?hy46n44⟩) (by assumption) ?rest46n44
                    case hy46n44 => ((intro w' hSw; (try dsimp only at hSw); go_simp); try (with_reducible rfl))
                    try simp only [Act.put, List.setIfInBounds_toArray, List.set_cons_zero, List.set_cons_succ]
                    refine wpAnyH_done (by kernel_rfl) ?_ _
                    have HMX : Hid (∀ n', k + n' ≤ l.length → samT l i k n' = true → n' ≤ n) := Lib.hid (fun n' h1 h2 => by
                      by_cases hle : n' ≤ n
                      · exact hle
                      · have := samT_mono HT.out h2 (show n + 1 ≤ n' by omega) (by omega); rw [hsn.out] at this; cases this)
                    have HSR := Lib.hid (long_step HA.out hk1 hn HS.out)
                    have HBR := Lib.hid (long_keep HB.out HMX.out)
                    have hmx : max best n ≤ l.length := by omega
                    have emx : max (best : Int) (n : Int) = ((max best n : Nat) : Int) := by omega
                    by_cases hbn : best ≤ n
                    · have e1 : max best n = n := by omega
                      rw [e1] at HSR HBR hmx emx
                      have hbn' : (best : Int) ≤ (n : Int) := by omega
                      go_wp2
                      go_roundw
                      case rel => exact ⟨k + 1, n, by omega, by omega, hmx, by go_num, by first | rfl | (rw [emx]; done) | (congr 1; omega), HSR, HBR, g2⟩
                      case measure => simp [intOf]; omega
                    · have e1 : max best n = best := by omega
                      rw [e1] at HSR HBR hmx emx
                      have hbn' : ¬ (best : Int) ≤ (n : Int) := by omega
                      have hbn2 : (n : Int) ≤ (best : Int) := by omega
                      go_wp2
                      go_roundw
                      case rel => exact ⟨k + 1, best, by omega, by omega, hmx, by go_num, by first | rfl | (rw [emx]; done) | (congr 1; omega), HSR, HBR, g2⟩
                      case measure => simp [intOf]; omega
                  exact AllReadyH.nil
              · have wk : IntKind.i64.wrap ((k : Int) + (n : Int)) = (k : Int) + (n : Int) := IntWalk.i64_in _ (by omega)
                have hnl : ¬ (k : Int) + (n : Int) < (l.length : Int) := by omega
                have hdz : decide ((k : Int) + (n : Int) < (l.length : Int)) = false := decide_eq_false hnl
                go_wp2_with fail
                refine wp_region_held_drew (S := fun _ => True) (by kernel_rfl) ?_ (fun hHeld => ?_)
                · trivial
                have gV := hby.drew
                generalize wr.drew = V at *
                refine wpAnyH_take (i := 0) (oi := { dst := some 24, op := _, type := _, pos := _, after := _, guard := _ }) (v := ?v24n45) rfl (by kernel_rfl) (by kernel_rfl) (by kernel_rfl) (fun _ _ _ h => h) (Or.inl ⟨by rfl, ?hy24n45⟩) (by assumption) ?rest24n45
                case hy24n45 => ((intro w' hSw; (try dsimp only at hSw); go_simp); try (with_reducible rfl))
                try simp only [Act.put, List.setIfInBounds_toArray, List.set_cons_zero, List.set_cons_succ]
                refine wpAnyH_take (i := 1) (oi := { dst := some 25, op := _, type := _, pos := _, after := _, guard := _ }) (v := ?v25n46) rfl (by kernel_rfl) (by kernel_rfl) (by kernel_rfl) (fun _ _ _ h => h) (Or.inl ⟨by rfl, ?hy25n46⟩) (by assumption) ?rest25n46
                case hy25n46 => ((intro w' hSw; (try dsimp only at hSw); go_simp); try (with_reducible rfl))
                try simp only [Act.put, List.setIfInBounds_toArray, List.set_cons_zero, List.set_cons_succ]
                refine wpAnyH_take (i := 2) (oi := { dst := some 26, op := _, type := _, pos := _, after := _, guard := _ }) (v := ?v26n47) rfl (by kernel_rfl) (by kernel_rfl) (by kernel_rfl) (fun _ _ _ h => h) (Or.inl ⟨by rfl, ?hy26n47⟩) (by assumption) ?rest26n47
                case hy26n47 => ((intro w' hSw; (try dsimp only at hSw); go_simp); try (with_reducible rfl))
                try simp only [Act.put, List.setIfInBounds_toArray, List.set_cons_zero, List.set_cons_succ]
                refine wpAnyH_take (i := 3) (oi := { dst := some 27, op := _, type := _, pos := _, after := _, guard := _ }) (v := ?v27n48) rfl (by kernel_rfl) (by kernel_rfl) (by kernel_rfl) (fun _ _ _ h => h) (Or.inl ⟨by rfl, ?hy27n48⟩) (by assumption) ?rest27n48
                case hy27n48 => ((intro w' hSw; (try dsimp only at hSw); go_simp); try (with_reducible rfl))
                try simp only [Act.put, List.setIfInBounds_toArray, List.set_cons_zero, List.set_cons_succ]
                refine wpAnyH_take (i := 4) (oi := { dst := some 28, op := _, type := _, pos := _, after := _, guard := _ }) (v := ?v28n49) rfl (by kernel_rfl) (by kernel_rfl) (by kernel_rfl) (fun _ _ _ h => h) (Or.inl ⟨by rfl, ?hy28n49⟩) (by assumption) ?rest28n49
                case hy28n49 => ((intro w' hSw; (try dsimp only at hSw); go_simp); try (with_reducible rfl))
                try simp only [Act.put, List.setIfInBounds_toArray, List.set_cons_zero, List.set_cons_succ]
                refine wpAnyH_take (i := 5) (oi := { dst := some 29, op := _, type := _, pos := _, after := _, guard := _ }) (v := .bool false) rfl (by kernel_rfl) (by kernel_rfl) (by kernel_rfl) (fun _ _ _ h => h) (Or.inl ⟨by rfl, ?hy29n50⟩) (by assumption) ?rest29n50
                case hy29n50 =>
                  intro w' hSw
                  clear hSw
                  go_simp
                  first | done | rfl | (rw [hdz]; done) | (rw [hdz]; rfl)
                try simp only [Act.put, List.setIfInBounds_toArray, List.set_cons_zero, List.set_cons_succ]
                refine wpAnyH_take (i := 6) (oi := { dst := some 30, op := _, type := _, pos := _, after := _, guard := _ }) (v := ?v30n51) rfl (by kernel_rfl) (by kernel_rfl) (by kernel_rfl) (fun _ _ _ h => h) (Or.inl ⟨by rfl, ?hy30n51⟩) (by assumption) ?rest30n51
                case hy30n51 => ((intro w' hSw; (try dsimp only at hSw); go_simp); try (with_reducible rfl))
                try simp only [Act.put, List.setIfInBounds_toArray, List.set_cons_zero, List.set_cons_succ]
                refine wpAnyH_take (i := 7) (oi := { dst := some 31, op := _, type := _, pos := _, after := _, guard := _ }) (v := undef) rfl (by kernel_rfl) (by kernel_rfl) (by kernel_rfl) (fun _ _ _ h => h) (Or.inr ⟨by rfl, rfl⟩) (by assumption) ?rest31n52
                try simp only [Act.put, List.setIfInBounds_toArray, List.set_cons_zero, List.set_cons_succ]
                refine wpAnyH_take (i := 8) (oi := { dst := some 32, op := _, type := _, pos := _, after := _, guard := _ }) (v := undef) rfl (by kernel_rfl) (by kernel_rfl) (by kernel_rfl) (fun _ _ _ h => h) (Or.inr ⟨by rfl, rfl⟩) (by assumption) ?rest32n53
                try simp only [Act.put, List.setIfInBounds_toArray, List.set_cons_zero, List.set_cons_succ]
                refine wpAnyH_take (i := 9) (oi := { dst := some 33, op := _, type := _, pos := _, after := _, guard := _ }) (v := undef) rfl (by kernel_rfl) (by kernel_rfl) (by kernel_rfl) (fun _ _ _ h => h) (Or.inr ⟨by rfl, rfl⟩) (by assumption) ?rest33n54
                try simp only [Act.put, List.setIfInBounds_toArray, List.set_cons_zero, List.set_cons_succ]
                refine wpAnyH_take (i := 10) (oi := { dst := some 34, op := _, type := _, pos := _, after := _, guard := _ }) (v := undef) rfl (by kernel_rfl) (by kernel_rfl) (by kernel_rfl) (fun _ _ _ h => h) (Or.inr ⟨by rfl, rfl⟩) (by assumption) ?rest34n55
                try simp only [Act.put, List.setIfInBounds_toArray, List.set_cons_zero, List.set_cons_succ]
                refine wpAnyH_take (i := 11) (oi := { dst := some 35, op := _, type := _, pos := _, after := _, guard := _ }) (v := undef) rfl (by kernel_rfl) (by kernel_rfl) (by kernel_rfl) (fun _ _ _ h => h) (Or.inr ⟨by rfl, rfl⟩) (by assumption) ?rest35n56
                try simp only [Act.put, List.setIfInBounds_toArray, List.set_cons_zero, List.set_cons_succ]
                refine wpAnyH_take (i := 12) (oi := { dst := some 36, op := _, type := _, pos := _, after := _, guard := _ }) (v := undef) rfl (by kernel_rfl) (by kernel_rfl) (by kernel_rfl) (fun _ _ _ h => h) (Or.inr ⟨by rfl, rfl⟩) (by assumption) ?rest36n57
                try simp only [Act.put, List.setIfInBounds_toArray, List.set_cons_zero, List.set_cons_succ]
                refine wpAnyH_take (i := 13) (oi := { dst := some 37, op := _, type := _, pos := _, after := _, guard := _ }) (v := undef) rfl (by kernel_rfl) (by kernel_rfl) (by kernel_rfl) (fun _ _ _ h => h) (Or.inr ⟨by rfl, rfl⟩) (by assumption) ?rest37n58
                try simp only [Act.put, List.setIfInBounds_toArray, List.set_cons_zero, List.set_cons_succ]
                refine wpAnyH_take (i := 14) (oi := { dst := some 38, op := _, type := _, pos := _, after := _, guard := _ }) (v := undef) rfl (by kernel_rfl) (by kernel_rfl) (by kernel_rfl) (fun _ _ _ h => h) (Or.inr ⟨by rfl, rfl⟩) (by assumption) ?rest38n59
                try simp only [Act.put, List.setIfInBounds_toArray, List.set_cons_zero, List.set_cons_succ]
                refine wpAnyH_take (i := 15) (oi := { dst := some 39, op := _, type := _, pos := _, after := _, guard := _ }) (v := undef) rfl (by kernel_rfl) (by kernel_rfl) (by kernel_rfl) (fun _ _ _ h => h) (Or.inr ⟨by rfl, rfl⟩) (by assumption) ?rest39n60
                try simp only [Act.put, List.setIfInBounds_toArray, List.set_cons_zero, List.set_cons_succ]
                refine wpAnyH_take (i := 16) (oi := { dst := some 40, op := _, type := _, pos := _, after := _, guard := _ }) (v := undef) rfl (by kernel_rfl) (by kernel_rfl) (by kernel_rfl) (fun _ _ _ h => h) (Or.inr ⟨by rfl, rfl⟩) (by assumption) ?rest40n61
                try simp only [Act.put, List.setIfInBounds_toArray, List.set_cons_zero, List.set_cons_succ]
                refine wpAnyH_take (i := 17) (oi := { dst := some 41, op := _, type := _, pos := _, after := _, guard := _ }) (v := undef) rfl (by kernel_rfl) (by kernel_rfl) (by kernel_rfl) (fun _ _ _ h => h) (Or.inr ⟨by rfl, rfl⟩) (by assumption) ?rest41n62
                try simp only [Act.put, List.setIfInBounds_toArray, List.set_cons_zero, List.set_cons_succ]
                refine wpAnyH_take (i := 18) (oi := { dst := some 42, op := _, type := _, pos := _, after := _, guard := _ }) (v := undef) rfl (by kernel_rfl) (by kernel_rfl) (by kernel_rfl) (fun _ _ _ h => h) (Or.inr ⟨by rfl, rfl⟩) (by assumption) ?rest42n63
                try simp only [Act.put, List.setIfInBounds_toArray, List.set_cons_zero, List.set_cons_succ]
                refine wpAnyH_take (i := 19) (oi := { dst := some 43, op := _, type := _, pos := _, after := _, guard := _ }) (v := undef) rfl (by kernel_rfl) (by kernel_rfl) (by kernel_rfl) (fun _ _ _ h => h) (Or.inr ⟨by rfl, rfl⟩) (by assumption) ?rest43n64
                try simp only [Act.put, List.setIfInBounds_toArray, List.set_cons_zero, List.set_cons_succ]
                refine wpAnyH_take (i := 20) (oi := { dst := some 44, op := _, type := _, pos := _, after := _, guard := _ }) (v := undef) rfl (by kernel_rfl) (by kernel_rfl) (by kernel_rfl) (fun _ _ _ h => h) (Or.inr ⟨by rfl, rfl⟩) (by assumption) ?rest44n65
                try simp only [Act.put, List.setIfInBounds_toArray, List.set_cons_zero, List.set_cons_succ]
                refine wpAnyH_take (i := 21) (oi := { dst := some 45, op := _, type := _, pos := _, after := _, guard := _ }) (v := undef) rfl (by kernel_rfl) (by kernel_rfl) (by kernel_rfl) (fun _ _ _ h => h) (Or.inr ⟨by rfl, rfl⟩) (by assumption) ?rest45n66
                try simp only [Act.put, List.setIfInBounds_toArray, List.set_cons_zero, List.set_cons_succ]
                refine wpAnyH_take (i := 22) (oi := { dst := some 46, op := _, type := _, pos := _, after := _, guard := _ }) (v := ?v46n67) rfl (by kernel_rfl) (by kernel_rfl) (by kernel_rfl) (fun _ _ _ h => h) (Or.inl ⟨by rfl, ?hy46n67⟩) (by assumption) ?rest46n67
                case hy46n67 => ((intro w' hSw; (try dsimp only at hSw); go_simp); try (with_reducible rfl))
                try simp only [Act.put, List.setIfInBounds_toArray, List.set_cons_zero, List.set_cons_succ]
                refine wpAnyH_done (by kernel_rfl) ?_ _
                have g2 := gV
                have HMX : Hid (∀ n', k + n' ≤ l.length → samT l i k n' = true → n' ≤ n) := Lib.hid (fun n' h1 h2 => by
                  omega)
                have HSR := Lib.hid (long_step HA.out hk1 hn HS.out)
                have HBR := Lib.hid (long_keep HB.out HMX.out)
                have hmx : max best n ≤ l.length := by omega
                have emx : max (best : Int) (n : Int) = ((max best n : Nat) : Int) := by omega
                by_cases hbn : best ≤ n
                · have e1 : max best n = n := by omega
                  rw [e1] at HSR HBR hmx emx
                  have hbn' : (best : Int) ≤ (n : Int) := by omega
                  go_wp2
                  go_roundw
                  case rel => exact ⟨k + 1, n, by omega, by omega, hmx, by go_num, by first | rfl | (rw [emx]; done) | (congr 1; omega), HSR, HBR, g2⟩
                  case measure => simp [intOf]; omega
                · have e1 : max best n = best := by omega
                  rw [e1] at HSR HBR hmx emx
                  have hbn' : ¬ (best : Int) ≤ (n : Int) := by omega
                  have hbn2 : (n : Int) ≤ (best : Int) := by omega
                  go_wp2
                  go_roundw
                  case rel => exact ⟨k + 1, best, by omega, by omega, hmx, by go_num, by first | rfl | (rw [emx]; done) | (congr 1; omega), HSR, HBR, g2⟩
                  case measure => simp [intOf]; omega
          · obtain rfl : k = l.length := by omega
            have HBI : Hid (∀ i' k' n, i' < i + 1 → i' < k' → k' + n ≤ l.length → samT l i' k' n = true → n ≤ best) := Lib.hid (fun i' k' n h1 h2 h3 h4 => by
              by_cases hi' : i' < i
              · exact HB.out.1 i' k' n hi' h2 h3 h4
              · obtain rfl : i' = i := by omega
                by_cases hn0 : n = 0
                · omega
                · exact HB.out.2 k' n h2 (by omega) h3 h4)
            go_wp2
            go_roundw
            case rel => exact ⟨i + 1, best, by omega, hbl, by go_num, rfl, HA, HBI, hbx⟩
            case measure => simp [intOf]; omega
      · obtain rfl : i = l.length := by omega
        have HE := Lib.hid (longN_eq hbl HA.out fun n h1 h2 ⟨i, k, h3, h4, h5⟩ => by have := HB.out i k n (by omega) h3 h4 h5; omega)
        go_wp2
        go_ret
        exact ⟨by rw [HR.out, HE.out]; (try rfl), hbr⟩
  · have HT : Hid (tuneB l = false) := Lib.hid (by simpa using ht)
    have HR := Lib.hid (longI_no HT.out)
    clear ht
    go_enter Try.func32, Try.ntmps32
    go_wp2_with fail
    refine (tuneok_no h HT.out).mono ?_
    rintro e w1 ⟨rfl, hb1⟩
    go_wp2
    go_ret
    exact ⟨by rw [HR.out]; (try rfl), hb1⟩
end Go.Proofs.Ytglehmffmailkaa
