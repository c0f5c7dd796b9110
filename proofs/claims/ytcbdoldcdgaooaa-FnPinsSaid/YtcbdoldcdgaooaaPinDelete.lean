/- The contract of slices.Delete of one pin out of a row of pins of the call's own. No condition. -/
import Derived.Test.YtcbdoldcdgaooaaPinAdd
import Derived.Test.YtcbdoldcdgaooaaImplInsert
namespace Go.Proofs.Ytcbdoldcdgaooaa
open Go.ChangeShapes Go.WideShapes Go.ChangeAt Go.RowKit

def DelPost (w : World) (B : Nat) (v : Value) (l : List (Int × Int)) (e : Ending) (w' : World) : Prop :=
  ∃ v', e = .returned v' ∧ w'.ownsRow B 32 2 v' l.length (flat2 l) ∧ w.grownBy w' v.ownBlock

set_option maxHeartbeats 2000000 in
set_option maxRecDepth 100000 in
theorem deleteP_any {w : World} {B : Nat} {v : Value} {o : List (Int × Int)} {i : Nat} (hown : w.ownsRow B 32 2 v o.length (flat2 o)) (hi : i < o.length) (hl : o.length ≤ 1048576) :
    Calls Try.prog 71 #[v, .int .i64 (i : Nat), .int .i64 ((i : Int) + 1)] w (DelPost w B v (cutP o i)) := by
  obtain ⟨i0, hi0, hz0, hz1, hz2⟩ := info_parts infoPin
  obtain ⟨g, cap, rfl, -, hc1, hc2⟩ := ownS_pos hown (by omega)
  obtain ⟨cur, hBg, hg, hcm, hcs2, htk⟩ : ∃ cur : Array Value, B ≤ g ∧ w.heap[g]? = some (.cells cur 32 (0, 0)) ∧ cap ≤ maxLen ∧ cur.size = cap * 2 ∧ cur.toList.take (o.length * 2) = flat2 o := by
    rcases hown.2 with ⟨h0, _⟩ | ⟨g', cap', cur, hv, hB, hg, h1, h2, h3, h4⟩
    · cases h0
    · simp only [Value.slice.injEq, Option.some.injEq, Addr.mk.injEq, and_true, true_and] at hv
      obtain ⟨rfl, rfl⟩ := hv
      exact ⟨cur, hB, hg, h2, h3, h4⟩
  unfold maxLen at hc2
  have hcurl : cur.toList.length = cap * 2 := by rw [Array.length_toList, hcs2]
  have hFl : (flat2 o).length = o.length * 2 := flat2_length o
  have hcs := hown.cells (g := g) rfl
  obtain ⟨n, hn⟩ : ∃ n, o.length = n + 1 := ⟨o.length - 1, by omega⟩
  have hNl : ((flat2 o).drop ((i + 1) * 2)).length = (o.length - (i + 1)) * 2 := by rw [List.length_drop]; omega
  obtain ⟨R1, hR1⟩ : ∃ R1 : Array Value, (cur.toList.take (i * 2) ++ (flat2 o).drop ((i + 1) * 2) ++ cur.toList.drop (i * 2 + ((flat2 o).drop ((i + 1) * 2)).length)).toArray = R1 := ⟨_, rfl⟩
  have hR1s : R1.size = cap * 2 := by
    rw [← hR1]
    simp only [List.size_toArray, List.length_append, List.length_take, List.length_drop, hcurl, hFl]; omega
  have hap : ∀ ad : Addr, (ad = ⟨g, (i + 1) * 2, none⟩ ∨ o.length = i + 1) → ∀ ty c, (Builtin.append_ #[24, 24] ty #[.slice (some ⟨g, 0, none⟩) i cap, .slice (some ad) (o.length - (i + 1)) c]).run Try.prog w.drew = .ok (.slice (some ⟨g, 0, none⟩) n cap) (w.drew.setRow g R1) := fun ad had ty c => by
    have h := run_append_room (P := Try.prog) w.drew 24 ty 32 i0 Try.underlying24 hi0 g i cap cur hg ad (o.length - (i + 1)) c ((flat2 o).drop ((i + 1) * 2)) (by rw [hz1]; exact hNl)
      (fun j u hj => by
        rcases had with rfl | he
        · rw [add_plain]
          rw [List.getElem?_drop] at hj
          have := hcs ((i + 1) * 2 + j) u hj
          rw [add_plain, Nat.zero_add] at this
          exact this
        · rw [List.getElem?_drop, List.getElem?_eq_none (by omega)] at hj; cases hj)
      (fun v hv => flat2_one o v (List.mem_of_mem_drop hv)) (by omega) (by rw [hz1, hNl, hcs2]; omega)
    rw [hz1, hR1, show i + (o.length - (i + 1)) = n by omega] at h
    exact h
  have own1 : (w.drew.setRow g R1).ownsRow B 32 2 (.slice (some ⟨g, 0, none⟩) o.length cap) o.length (R1.toList.take (o.length * 2)) :=
    ⟨by have e : R1.toList.length = cap * 2 := by simpa using hR1s
        rw [List.length_take, e]; omega, Or.inr ⟨g, cap, R1, rfl, hBg, setRow_heap w.drew g cur R1 _ _ hg, hc1, hcm, hR1s, rfl⟩⟩
  obtain ⟨W3, hcl, hown3, hgr3⟩ := run_clear_own (s := 2) (m := n) Try.underlying24 Try.zeroValue32 rfl (by decide) own1 (by omega)
  have hlast : (R1.toList.take (o.length * 2)).take (n * 2) = flat2 (cutP o i) := by
    have hA : cur.toList.take (i * 2) = (flat2 o).take (i * 2) := by rw [← htk, List.take_take, Nat.min_eq_left (by omega)]
    have hTl : ((flat2 o).take (i * 2)).length = i * 2 := by rw [List.length_take]; omega
    rw [List.take_take, Nat.min_eq_left (by omega), ← hR1]
    show List.take (n * 2) (cur.toList.take (i * 2) ++ (flat2 o).drop ((i + 1) * 2) ++ _) = _
    rw [hA, List.take_left' (by rw [List.length_append, hTl, hNl]; omega)]
    unfold cutP
    rw [flat2_append, flat2_take o i (by omega), flat2_drop o (i + 1) (by omega)]
  rw [hlast] at hown3
  have HO3 : Hid (W3.ownsRow B 32 2 (.slice (some ⟨g, 0, none⟩) n cap) (cutP o i).length (flat2 (cutP o i)) ∧ w.grownBy W3 (some g)) := Lib.hid ⟨by
    have e : (cutP o i).length = n := by rw [cutP_len hi]; omega
    rw [e]; exact hown3, only_trans (only_trans (only_drew (World.grownBy.refl _ _)) (setRow_grown g R1)) hgr3⟩
  have HAP := Lib.hid hap
  have hnl : n ≤ o.length := by omega
  have hnl' : (n : Int) ≤ (o.length : Int) := by omega
  have hlc : (o.length : Int) ≤ (cap : Int) := by omega
  have hnc : ¬ (cap = n) := by omega
  have hln : ¬ (o.length = i) := by omega
  have hic : ¬ (cap = i) := by omega
  have hii : ((i : Int) == (i : Int) + 1) = false := by simpa using (show ¬ (i : Int) = (i : Int) + 1 by omega)
  have hi1 : (0 : Int) ≤ (i : Int) + 1 := by omega
  have hi2 : ((i : Int) + 1).toNat = i + 1 := by omega
  have hi3 : (i : Int) + 1 ≤ (o.length : Int) := by omega
  have hi4 : (i : Int) ≤ (cap : Int) := by omega
  have hi5 : (i : Int) ≤ (i : Int) + 1 := by omega
  have hi6 : (i : Int) + 1 ≤ (cap : Int) := by omega
  clear hn
  clear hap own1 hown3 hgr3 hlast hR1 hR1s hNl hcs hFl hcurl htk hcs2 hcm hg hBg hown hz0 hz1 hz2 hi0
  by_cases hcz : cap = i + 1
  · have hcz' : (cap = i + 1) = True := eq_true hcz
    have E := Lib.hid (HAP.out ⟨g, 0, none⟩ (Or.inr (by omega)) 24 (cap - (i + 1)))
    have HCZ := Lib.hid hcz
    clear hcz HAP
    go_enter Try.func71, Try.ntmps71
    go_wp2_with fail
    go_region_held3 (fun _ => True) (go_keep)
      (first
        | ((with_reducible refine step_append_eqP ?h10 (.tmp 22) (.tmp 25) #[24, 24] ?h20 (.slice (some ⟨g, 0, none⟩) i cap) (.slice (some ⟨g, 0, none⟩) (o.length - (i + 1)) (cap - (i + 1))) (.slice (some ⟨g, 0, none⟩) n cap) ?h30 ?h40 E.out ?h50); (case h10 => rfl); (case h20 => rfl); (case h30 => rfl); (case h40 => rfl)))
    clear E
    go_wp2
    go_ret
    exact ⟨_, rfl, HO3.out.1, HO3.out.2⟩
  · have hcz' : (cap = i + 1) = False := eq_false hcz
    have E := Lib.hid (HAP.out ⟨g, (i + 1) * 2, none⟩ (Or.inl rfl) 24 (cap - (i + 1)))
    clear hcz HAP
    go_enter Try.func71, Try.ntmps71
    go_wp2_with fail
    go_region_held3 (fun _ => True) (go_keep)
      (first
        | ((with_reducible refine step_append_eqP ?k10 (.tmp 22) (.tmp 25) #[24, 24] ?k20 (.slice (some ⟨g, 0, none⟩) i cap) (.slice (some ⟨g, (i + 1) * 2, none⟩) (o.length - (i + 1)) (cap - (i + 1))) (.slice (some ⟨g, 0, none⟩) n cap) ?k30 ?k40 E.out ?k50); (case k10 => rfl); (case k20 => rfl); (case k30 => rfl); (case k40 => rfl)))
    clear E
    go_wp2
    go_ret
    exact ⟨_, rfl, HO3.out.1, HO3.out.2⟩
end Go.Proofs.Ytcbdoldcdgaooaa
