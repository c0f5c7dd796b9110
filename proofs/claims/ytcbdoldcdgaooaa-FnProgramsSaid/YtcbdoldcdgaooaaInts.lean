/- The contracts of the laws' own helpers on rows of ints: eqIntS, markIntS, heldIntS. No condition. -/
import Derived.Test.YtcbdoldcdgaooaaNotes
namespace Go.Proofs.Ytcbdoldcdgaooaa
open Go.ChangeShapes Go.WideShapes Go.ChangeAt Go.RowKit

theorem infoInt : (Try.prog.info? 3).map (fun i => (i.zero, i.size, i.bytes)) = some (some (.int .i64 0), 1, 8) := by kernel_rfl
def Rd1 (w : World) (v : Value) (l : List Int) : Prop := Rd 1 w v l.length (l.map intV)
theorem Rd1.cell {w : World} {v : Value} {l : List Int} (h : Rd1 w v l) {k : Nat} {x : Int} (hk : l[k]? = some x) :
    ∃ b off cap, v = .slice (some ⟨b, off, none⟩) l.length cap ∧ w.cell? ⟨b, off + k, none⟩ = some (.int .i64 x) := by
  have hlt : k < l.length := (List.getElem?_eq_some_iff.1 hk).1
  obtain ⟨b, off, cap, rfl, hc⟩ := Rd.pos h (by omega)
  refine ⟨b, off, cap, rfl, ?_⟩
  rw [hc _ (by omega), List.getElem?_map, hk]; rfl

set_option maxHeartbeats 1000000 in
theorem eqInts_same {w : World} {v1 v2 : Value} {l : List Int} (h1 : Rd1 w v1 l) (h2 : Rd1 w v2 l) :
    Calls Try.prog 28 #[v1, v2] w fun e w' => e = .returned (.bool true) ∧ Below w.heap.size w w' := by
  obtain ⟨a1, cap1, rfl⟩ := Rd.slice h1
  obtain ⟨a2, cap2, rfl⟩ := Rd.slice h2
  have hm := h1.2.1
  unfold maxLen at hm
  go_enter Try.func28, Try.ntmps28
  go_wp2
  go_loopw [5] (fun v5 wr => ∃ j d : Nat, j ≤ l.length ∧ v5 = .int .i64 j ∧ wr = w.drewN d) (fun v5 _ => l.length - (intOf v5).toNat)
  case atStart => exact ⟨0, 0, Nat.zero_le _, rfl, rfl⟩
  case round =>
    obtain ⟨j, d, hj, rfl, rfl⟩ := hrel
    by_cases hlt : j < l.length
    · obtain ⟨x, hx⟩ : ∃ x, l[j]? = some x := ⟨_, List.getElem?_eq_getElem hlt⟩
      obtain ⟨b1, o1, c1, hv1, x1⟩ := Rd1.cell h1 hx
      obtain ⟨b2, o2, c2, hv2, x2⟩ := Rd1.cell h2 hx
      simp only [Value.slice.injEq, true_and] at hv1 hv2
      obtain ⟨rfl, rfl⟩ := hv1
      obtain ⟨rfl, rfl⟩ := hv2
      clear h1 h2 hx
      go_wp2
      go_quiet (fail)
      go_wp2
      go_roundw
      case rel => exact ⟨j + 1, _, by omega, by go_num, rfl⟩
      case measure => simp [intOf]; omega
    · obtain rfl : j = l.length := by omega
      go_wp2
      go_ret
      exact ⟨rfl, below_drewN (Below.refl _ _) _⟩

set_option maxHeartbeats 2000000 in
theorem markInts_any {B : Nat} {w : World} {v : Value} {n : Nat} {xs : List Value} (k0 : Nat) (hn : k0 + n ≤ 8000000) (hown : w.ownsRow B 3 1 v n xs) :
    Calls Try.prog 30 #[v, .int .i64 (k0 : Int)] w fun e w' => e = .returned (.int .i64 ((k0 + n : Nat) : Int)) ∧ w.grownBy w' v.ownBlock ∧ ∃ ys, w'.ownsRow B 3 1 v n ys ∧ Mk k0 n ys := by
  obtain ⟨a, cap, rfl⟩ := ownS_slice hown
  go_enter Try.func30, Try.ntmps30
  go_wp2
  go_loopw [1, 5] (fun v1 v5 wr => ∃ (j : Nat) (ys : List Value), j ≤ n ∧ v5 = .int .i64 j ∧ v1 = .int .i64 ((k0 + j : Nat) : Int) ∧ w.grownBy wr (Value.slice a n cap).ownBlock ∧ wr.ownsRow B 3 1 (.slice a n cap) n ys ∧ Mk k0 j ys)
    (fun _ v5 _ => n - (intOf v5).toNat)
  case atStart => exact ⟨0, xs, Nat.zero_le _, rfl, rfl, World.grownBy.refl _ _, hown, fun c hc => by omega⟩
  case round =>
    obtain ⟨j, ys, hj, rfl, rfl, hgr, hys, hmk⟩ := hrel
    have HM := Lib.hid hmk; clear hmk
    by_cases hlt : j < n
    · obtain ⟨g, cap', hv, hB, hc1, hc2⟩ := ownS_pos hys (by omega)
      simp only [Value.slice.injEq, true_and] at hv
      obtain ⟨rfl, rfl⟩ := hv
      have hyl : ys.length = n := by simpa using hys.1
      obtain ⟨u0, hu0⟩ : ∃ u, ys[j]? = some u := ⟨_, List.getElem?_eq_getElem (by omega)⟩
      have hc0 : wr.cell? ⟨g, j, none⟩ = some u0 := by rw [hys.cellAt _ (by omega)]; exact hu0
      have hf0 := hys.frozenAt j
      have hst1 := hys.stored j (.int .i64 ((k0 + j : Nat) : Int))
      have hm2 := HM.out.set (by omega : j < ys.length)
      have hgr2 : w.grownBy (wr.setCell ⟨g, j, none⟩ (.int .i64 ((k0 + j : Nat) : Int))) (some g) := only_trans hgr hst1.2
      have HS := Lib.hid hst1.1
      have HM2 := Lib.hid hm2
      have HG := Lib.hid hgr2
      clear hst1 hm2 hgr2 hyl hu0 hys hgr
      go_wp2
      go_roundw
      case rel => exact ⟨j + 1, _, by omega, by go_num, by go_num, HG.out, HS.out, HM2.out⟩
      case measure => simp [intOf]; omega
    · obtain rfl : j = n := by omega
      go_wp2
      go_ret
      exact ⟨rfl, hgr, ys, hys, HM.out⟩

end Go.Proofs.Ytcbdoldcdgaooaa
