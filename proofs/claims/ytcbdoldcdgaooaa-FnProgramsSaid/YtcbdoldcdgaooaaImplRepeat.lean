/- The contract of slices.Repeat at one int, repeated at most 100 times. No condition. -/
import Derived.Test.YtcbdoldcdgaooaaImplMul
import Derived.Test.YtcbdoldcdgaooaaTuneSpec2
import Derived.Test.YtcbdoldcdgaooaaAssignSpec
import Derived.Laws.CopyOwn
namespace Go.Proofs.Ytcbdoldcdgaooaa
open Go.ChangeShapes Go.WideShapes Go.ChangeAt Go.RowKit

theorem own_heap {w : World} {B e g m : Nat} {xs : List Value} (h : w.ownsRow B e 1 (.slice (some ⟨g, 0, none⟩) m m) m xs) : w.heap[g]? = some (.cells xs.toArray e (0, 0)) ∧ B ≤ g := by
  obtain ⟨hl, h⟩ := h
  rcases h with ⟨e0, _⟩ | ⟨g', cap, cur, e0, hb, hg, h1, h2, h3, h4⟩
  · cases e0
  · simp only [Value.slice.injEq, Option.some.injEq, Addr.mk.injEq, true_and, and_true] at e0
    obtain ⟨rfl, rfl⟩ := e0
    rw [Nat.mul_one] at h3 h4
    have : cur = xs.toArray := by
      rw [← h4, List.take_of_length_le (by simp; omega)]
    rw [← this]
    exact ⟨hg, hb⟩
theorem heap_own {w : World} {B e g m : Nat} {xs : List Value} (hB : B ≤ g) (hm : m ≤ maxLen) (hl : xs.length = m) (h : w.heap[g]? = some (.cells xs.toArray e (0, 0))) : w.ownsRow B e 1 (.slice (some ⟨g, 0, none⟩) m m) m xs :=
  ⟨by omega, Or.inr ⟨g, m, xs.toArray, rfl, hB, h, Nat.le_refl _, hm, by simp; omega, by rw [show m * 1 = xs.length by omega]; simp⟩⟩
/-- k cells of x, and zeros. -/
def repL (k m : Nat) (x : Int) : List Value := (List.replicate k x ++ List.replicate (m - k) 0).map intV
theorem repL_len {k m : Nat} (x : Int) (h : k ≤ m) : (repL k m x).length = m := by unfold repL; simp; omega
theorem repL_splice {k d m : Nat} (x : Int) (h : k + d ≤ m) : splice (repL k m x) k ((List.replicate d x).map intV) = repL (k + d) m x := by
  unfold splice repL
  refine List.ext_getElem? fun i => ?_
  simp only [List.map_append, List.map_replicate, List.length_replicate]
  by_cases h1 : i < k
  · rw [List.getElem?_append_left (by simp; omega), List.getElem?_take, if_pos h1, List.getElem?_append_left (by simp; omega), List.getElem?_append_left (by simp; omega)]
    simp [h1, show i < k + d by omega]
  · rw [List.getElem?_append_right (by simp; omega)]
    by_cases h2 : i < k + d
    · rw [List.getElem?_append_left (by simp; omega), List.getElem?_append_left (by simp; omega)]
      simp [List.getElem?_replicate, h2]
      omega
    · rw [List.getElem?_append_right (by simp; omega), List.getElem?_drop, List.getElem?_append_right (by simp; omega), List.getElem?_append_right (by simp; omega)]
      simp [List.getElem?_replicate]
      split <;> split <;> first | rfl | omega
theorem repL_head {w : World} {g k m : Nat} {x : Int} {t : TypeId} (h : w.heap[g]? = some (.cells (repL k m x).toArray t (0, 0))) {d : Nat} (hd : d ≤ k) : ∀ j v, ((List.replicate d x).map intV)[j]? = some v → w.cell? ((⟨g, 0, none⟩ : Addr).add j) = some v := fun j v hv => by
  refine World.news_of_block h j v ?_
  have hj : j < d := by have := (List.getElem?_eq_some_iff.1 hv).1; simpa using this
  unfold repL
  rw [List.map_append]
  show ((List.replicate k x).map intV ++ _)[j]? = some v
  rw [List.getElem?_append_left (by simp; omega)]
  simp only [List.map_replicate, List.getElem?_replicate, hj, if_true] at hv ⊢
  rw [if_pos (by omega)]; exact hv

theorem run_copy_int {w w0 : World} {B g off dLen dCap sLen sCap : Nat} {ad : Addr} {cur cs : List Value} (ty : TypeId) (hg : w.heap[g]? = some (.cells cur.toArray 3 (0, 0))) (hn : cs.length = Nat.min sLen dLen)
    (hsrc : ∀ j v, cs[j]? = some v → w.cell? (ad.add j) = some v) (hfit : off + cs.length ≤ cur.length) (h1 : ∀ v ∈ cs, v.oneCell' = true) (hb : Below B w0 w) (hBg : B ≤ g) :
    ∃ w', (Builtin.copy_ #[33, 33] ty #[.slice (some ⟨g, off, none⟩) dLen dCap, .slice (some ad) sLen sCap]).run Try.prog w = .ok (goInt cs.length) w' ∧ w'.heap[g]? = some (.cells (splice cur off cs).toArray 3 (0, 0)) ∧ Below B w0 w' := by
  obtain ⟨i0, hi, hz0, hz1, hz2⟩ := info_parts infoInt
  have h := run_copy_row (P := Try.prog) w 33 33 ty 3 g off dLen dCap ad sLen sCap cur.toArray 3 cs Try.underlying33 (by rw [hi]; simp [hz1]) hg hn hsrc (by simpa using hfit) h1
  exact ⟨_, h, by simpa [splice] using setRow_heap w g _ _ _ _ hg, below_setRow hb hBg _⟩
theorem rep_one (d : Nat) (x : Int) : ∀ v ∈ (List.replicate d x).map intV, v.oneCell' = true := fun v hv => by
  obtain ⟨y, _, rfl⟩ := List.mem_map.1 hv
  rfl

set_option maxHeartbeats 4000000 in
set_option maxRecDepth 100000 in
theorem repeat_any {w : World} {b m : Nat} (x : Int) (hm : m ≤ 100) (hx : w.cell? ⟨b, 0, none⟩ = some (.int .i64 x)) :
    Calls Try.prog 122 #[.slice (some ⟨b, 0, none⟩) 1 1, .int .i64 (m : Int)] w (NewInts w (List.replicate m x)) := by
  obtain ⟨i0, hi, hz0, hz1, hz2⟩ := info_parts infoInt
  have hsz : (Try.prog.info? 3).map (·.size) = some 1 := by rw [hi]; simp [hz1]
  obtain ⟨w3, hrun, hown, hgrow⟩ := run_make_full (P := Try.prog) (w := w) w.heap.size 33 3 i0 (.int .i64 0) 1 Try.underlying33 hi hz0 hz1 .i64 .i64 m (by rw [hz2]; omega) (by unfold maxLen; omega) (Nat.le_refl _)
  have hb3 : Below w.heap.size w w3 := (Below.refl _ _).grown hgrow (Nat.le_refl _) (fun k hk => by cases hk)
  have HG : Hid (w3.heap[w.heap.size]? = some (.cells (repL 0 m x).toArray 3 (0, 0))) := Lib.hid (by
    have h := (own_heap hown).1
    rw [made_ints] at h
    unfold repL
    simpa using h)
  have hx3 : w3.cell? ⟨b, 0, none⟩ = some (.int .i64 x) := kept_b hb3 hx
  have hneg : decide ((m : Int) < 0) = false := decide_eq_false (by omega)
  have hw1 := wrap_small hm
  have hW1 : IntKind.u64.wrap 1 = 1 := by decide +kernel
  have hW2 : IntKind.i64.wrap (m : Int) = (m : Int) := IntWalk.i64_in _ (by omega)
  have hbig : decide ((9223372036854775807 : Int) < (m : Int)) = false := decide_eq_false (by omega)
  obtain ⟨w4, hcp, hg4, hb4⟩ := run_copy_int (ad := ⟨b, 0, none⟩) (off := 0) (dLen := m) (dCap := m) (sLen := 1) (sCap := 1) (cs := (List.replicate (min 1 m) x).map intV) 3 HG.out (by simp) (fun j v hv => by
    have hj : j = 0 := by have := (List.getElem?_eq_some_iff.1 hv).1; simp at this; omega
    subst hj
    have : v = .int .i64 x := by
      have h := hv
      simp only [List.map_replicate, List.getElem?_replicate] at h
      split at h
      · exact (Option.some.inj h).symm
      · cases h
    subst this
    exact hx3) (by rw [repL_len _ (Nat.zero_le _)]; simp; omega) (rep_one _ _) hb3 (Nat.le_refl _)
  have HG4 : Hid (w4.heap[w.heap.size]? = some (.cells (repL (min 1 m) m x).toArray 3 (0, 0))) := Lib.hid (by
    rw [repL_splice x (by omega), Nat.zero_add] at hg4; exact hg4)
  rw [show goInt ((List.replicate (min 1 m) x).map intV).length = .int .i64 ((min 1 m : Nat) : Int) by simp [goInt]] at hcp
  clear hown hgrow hg4 HG
  obtain ⟨k0, hk0⟩ : ∃ k0, min 1 m = k0 := ⟨_, rfl⟩
  rw [hk0] at hcp HG4
  have hk1 : k0 ≤ m := by omega
  have hk2 : k0 = 0 → m = 0 := by omega
  clear hk0
  go_enter Try.func122, Try.ntmps122
  go_wp2_with fail
  refine (mul_any hm _).mono ?_
  rintro e w2 ⟨rfl, rfl⟩
  go_wp2_with fail
  go_loopw [8] (fun v8 wr => ∃ k : Nat, k ≤ m ∧ (k = 0 → m = 0) ∧ v8 = .int .i64 (k : Int) ∧ Hid (wr.heap[w.heap.size]? = some (.cells (repL k m x).toArray 3 (0, 0))) ∧ Below w.heap.size w wr) (fun v8 _ => m - (intOf v8).toNat)
  case atStart => exact ⟨k0, hk1, hk2, rfl, HG4, hb4⟩
  case round =>
    obtain ⟨k, hk, hkz, rfl, HG, hbr⟩ := hrel
    clear HG4 hcp hb3 hb4
    by_cases hlt : k < m
    · have h1k : 1 ≤ k := by omega
      obtain ⟨d, hd⟩ : ∃ d, min k (m - k) = d := ⟨_, rfl⟩
      have hd1 : 1 ≤ d := by omega
      have hd2 : k + d ≤ m := by omega
      obtain ⟨w5, hcp, hg5, hb5⟩ := run_copy_int (w := wr.drew) (w0 := w) (B := w.heap.size) (g := w.heap.size) (ad := ⟨w.heap.size, 0, none⟩) (off := k) (dLen := m - k) (dCap := m - k) (sLen := k) (sCap := m) (cur := repL k m x) (cs := (List.replicate d x).map intV) 3 HG.out (by rw [List.length_map, List.length_replicate]; exact hd.symm) (repL_head (w := wr.drew) HG.out (by omega)) (by rw [repL_len _ hk]; simp; omega) (rep_one _ _) hbr.drew (Nat.le_refl _)
      have HG5 : Hid (w5.heap[w.heap.size]? = some (.cells (repL (k + d) m x).toArray 3 (0, 0))) := Lib.hid (by rw [repL_splice x hd2] at hg5; exact hg5)
      rw [show goInt ((List.replicate d x).map intV).length = .int .i64 (d : Int) by simp [goInt]] at hcp
      have i1 : (0 : Int) ≤ (k : Int) := by omega
      have i2 : (k : Int) ≤ (m : Int) := by omega
      have i3 : ¬ (m = k) := by omega
      have i4 : decide ((k : Int) < (m : Int)) = true := decide_eq_true (by omega)
      clear hg5 HG hd
      go_wp2_with fail
      go_region
      go_wp2
      go_roundw
      case rel => exact ⟨k + d, hd2, by omega, by go_num, HG5, hb5⟩
      case measure => simp [intOf]; omega
    · obtain rfl : k = m := by omega
      have HOW : Hid (wr.ownsRow w.heap.size 3 1 (.slice (some ⟨w.heap.size, 0, none⟩) k k) (List.replicate k x).length ((List.replicate k x).map intV)) := Lib.hid (by
        rw [List.length_replicate]
        refine heap_own (Nat.le_refl _) (by unfold maxLen; omega) (by simp) ?_
        have h := HG.out
        unfold repL at h
        simpa using h)
      clear HG
      go_wp2
      go_ret
      exact ⟨_, rfl, HOW.out, hbr⟩
end Go.Proofs.Ytcbdoldcdgaooaa
