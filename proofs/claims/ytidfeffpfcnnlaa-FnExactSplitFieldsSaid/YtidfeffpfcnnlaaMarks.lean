/- The contracts of the laws' own helpers on rows of strings: eqStringS, markText, markStringS, heldStringS. No condition. -/
import Derived.Test.YtidfeffpfcnnlaaSplit
import Derived.Deep.RegionHeld3
namespace Go.Proofs.Ytidfeffpfcnnlaa
open Go.ChangeShapes Go.WideShapes Go.ChangeAt Go.RowKit

def dch (n : Nat) : UInt8 := UInt8.ofNat (48 + n % 10)
def dg : Nat → List UInt8 → List UInt8
  | 0, acc => acc
  | n + 1, acc => dg ((n + 1) / 10) (dch (n + 1) :: acc)
termination_by n => n
decreasing_by omega
theorem dg_zero (acc : List UInt8) : dg 0 acc = acc := by rw [dg]
theorem dg_pos {n : Nat} (h : 0 < n) (acc : List UInt8) : dg n acc = dg (n / 10) (dch n :: acc) := by
  obtain ⟨m, rfl⟩ : ∃ m, n = m + 1 := ⟨n - 1, by omega⟩
  rw [dg]
def mt (k : Nat) : ByteArray := strL (109 :: dg k [])
theorem strL_append (a b : List UInt8) : strL a ++ strL b = strL (a ++ b) := ByteArray.mk_append_mk a b
theorem strL_size (a : List UInt8) : (strL a).size = a.length := by simp [strL, ByteArray.size]

set_option maxHeartbeats 1000000 in
theorem marktext_any (k : Nat) (h1 : 1 ≤ k) (h2 : k ≤ 8000000) (w : World) :
    Calls Try.prog 28 #[.int .i64 (k : Int)] w fun e w' => e = .returned (.string (mt k)) ∧ Below w.heap.size w w' := by
  have hk0 : ¬ k = 0 := by omega
  go_enter Try.func28, Try.ntmps28
  go_wp2
  go_loopw [0, 3] (fun v0 v3 wr => ∃ (m : Nat) (acc : List UInt8), v0 = .int .i64 m ∧ v3 = .string (strL acc) ∧ Hid (dg m acc = dg k []) ∧ acc.length + m ≤ k ∧ Below w.heap.size w wr)
    (fun v0 _ _ => (intOf v0).toNat)
  case atStart => exact ⟨k, [], rfl, rfl, rfl, by simp, Below.refl _ _⟩
  case round =>
    obtain ⟨m, acc, rfl, rfl, hdg, hlen, hbr⟩ := hrel
    have hsz := strL_size acc
    have hal : acc.length ≤ 8000000 := by omega
    by_cases hm : 0 < m
    · have hcv := run_convert_bytes_arg (P := Try.prog) (wr.alloc (.cells #[.int .u8 (48 + (m : Int) % 10)] 5)) 22 5 Try.underlying22 Try.underlying5 wr.heap.size 0 1 1 [48 + (m : Int) % 10] rfl
        (fun i hi => by obtain rfl : i = 0 := (by omega); exact World.news_of_block (heap_alloc_new wr (.cells #[.int .u8 (48 + (m : Int) % 10)] 5)) 0 _ rfl) 9 Try.underlying9
      have hs1 : strOfNums [48 + (m : Int) % 10] = strL [dch m] := by
        unfold strOfNums strL dch
        have : (48 + (m : Int) % 10).toNat = 48 + m % 10 := by omega
        simp [this]
      rw [hs1] at hcv
      clear hs1
      have ha := strL_append [dch m] acc
      have hs2 : (strL [dch m]).size = 1 := by rw [strL_size]; rfl
      have hd := dg_pos hm acc
      rw [hdg.out] at hd
      have HD := Lib.hid hd; clear hd
      have hml : acc.length + 1 + m / 10 ≤ k := by omega
      go_wp2
      go_roundw
      case rel => exact ⟨m / 10, dch m :: acc, by go_num, rfl, HD.out.symm, by simpa using hml, hbr.alloc hbr.size _⟩
      case measure => simp [intOf]; omega
    · obtain rfl : m = 0 := by omega
      have hd := dg_zero acc
      rw [hdg.out] at hd
      have HD := Lib.hid hd; clear hd
      have ha : ({ data := #[109] } : ByteArray) ++ strL acc = strL (109 :: acc) := strL_append [109] acc
      go_wp2
      go_ret
      exact ⟨by unfold mt; rw [HD.out]; rfl, hbr⟩

def markV (k : Nat) : Value := .string (mt k)

/-- A row of strings, each the mark of its place. -/
def Marked (k0 n : Nat) (ys : List Value) : Prop := ∀ i, i < n → ys[i]? = some (markV (k0 + i))

set_option maxHeartbeats 1000000 in
theorem markrow_any {B : Nat} {w : World} {v : Value} {n : Nat} {xs : List Value} (k0 : Nat) (hk : 1 ≤ k0) (hn : k0 + n ≤ 8000000) (hown : w.ownsRow B 9 1 v n xs) :
    Calls Try.prog 18 #[v, .int .i64 (k0 : Int)] w fun e w' => e = .returned (.int .i64 ((k0 + n : Nat) : Int)) ∧ w.grownBy w' v.ownBlock ∧ ∃ ys, w'.ownsRow B 9 1 v n ys ∧ Marked k0 n ys := by
  obtain ⟨a, cap, rfl⟩ := own_slice hown
  go_enter Try.func18, Try.ntmps18
  go_wp2
  go_loopw [1, 5] (fun v1 v5 wr => ∃ j : Nat, j ≤ n ∧ v5 = .int .i64 j ∧ v1 = .int .i64 ((k0 + j : Nat) : Int) ∧ w.grownBy wr (Value.slice a n cap).ownBlock ∧ ∃ ys, wr.ownsRow B 9 1 (.slice a n cap) n ys ∧ Marked k0 j ys)
    (fun _ v5 _ => n - (intOf v5).toNat)
  case atStart => exact ⟨0, Nat.zero_le _, rfl, rfl, World.grownBy.refl _ _, xs, hown, fun i hi => by omega⟩
  case round =>
    obtain ⟨j, hj, rfl, rfl, hgr, ys, hys, hmk⟩ := hrel
    have HM := Lib.hid hmk; clear hmk
    by_cases hlt : j < n
    · obtain ⟨g, cap', hv, hc1, hc2, _⟩ := own_slice_pos hys (by omega)
      simp only [Value.slice.injEq, true_and] at hv
      obtain ⟨rfl, rfl⟩ := hv
      have hyl : ys.length = n := by simpa using hys.1
      have hyj : ∃ y, ys[j]? = some y := ⟨ys[j], List.getElem?_eq_getElem (by omega)⟩
      obtain ⟨y, hy⟩ := hyj
      have HY := Lib.hid hy; clear hy
      have HYL := Lib.hid hyl; clear hyl
      have hmt : Calls Try.prog 28 #[.int .i64 ((k0 : Int) + (j : Int))] wr fun e w' => e = .returned (.string (mt (k0 + j))) ∧ Below wr.heap.size wr w' := marktext_any (k0 + j) (by omega) (by omega) wr
      have HMT := Lib.hid hmt; clear hmt
      go_wp2_with fail
      refine HMT.out.mono ?_
      rintro e w1 ⟨rfl, hb1⟩
      have hg1 : wr.grownBy w1 none := only_of_below hb1 none
      have hys1 := hys.kept hg1 (Or.inr (by simp [Value.ownBlock]))
      have hcell : w1.cell? ⟨g, j, none⟩ = some y := by rw [hys1.cellAt j (by omega)]; exact HY.out
      have hfz := hys1.frozenAt j
      have hst := hys1.stored j (markV (k0 + j))
      have hn : Marked k0 (j + 1) (ys.set j (markV (k0 + j))) := fun i hi => by
        by_cases hij : i = j
        · subst hij; rw [List.getElem?_set_self (by have := HYL.out; omega)]
        · rw [List.getElem?_set_ne (by omega)]; exact HM.out i (by omega)
      have HN := Lib.hid hn; clear hn
      have HST := Lib.hid hst; clear hst
      have hgr2 : w.grownBy (w1.setCell ⟨g, j, none⟩ (markV (k0 + j))) (some g) := only_trans (only_trans hgr (only_of_below hb1 _)) HST.out.2
      have HGR := Lib.hid hgr2; clear hgr2
      go_wp2
      go_roundw
      case rel => exact ⟨j + 1, by omega, by go_num, by go_num, HGR.out, _, HST.out.1, HN.out⟩
      case measure => simp [intOf]; omega
    · obtain rfl : j = n := by omega
      go_wp2
      go_ret
      exact ⟨rfl, hgr, ys, hys, HM.out⟩

theorem below_undrew {B : Nat} {w w' : World} (h : Below B w.drew w') : Below B w w' := ⟨h.os, h.tape, h.output, h.size, h.block⟩

theorem marktext_at (k : Nat) (h1 : 1 ≤ k) (h2 : k ≤ 8000000) (w : World) (g j : Nat) (u : Value) (hc : w.cell? ⟨g, j, none⟩ = some u) :
    Calls Try.prog 28 #[.int .i64 (k : Int)] w fun e w' => e = .returned (.string (mt k)) ∧ Below w.heap.size w w' ∧ w'.cell? ⟨g, j, none⟩ = some u :=
  (marktext_any k h1 h2 w).mono fun _ _ ⟨he, hb⟩ => ⟨he, hb, by rw [← hc]; exact hb.cell (World.block_lt_of_cell? w _ hc)⟩

set_option maxHeartbeats 1000000 in
theorem heldrow_any {B : Nat} {w : World} {v : Value} {n : Nat} {ys : List Value} (k0 : Nat) (hk : 1 ≤ k0) (hn : k0 + n ≤ 8000000) (hown : w.ownsRow B 9 1 v n ys) (hmk : Marked k0 n ys) :
    Calls Try.prog 19 #[v, .int .i64 (k0 : Int)] w fun e w' => e = .returned (.int .i64 ((k0 + n : Nat) : Int)) ∧ Below w.heap.size w w' := by
  obtain ⟨a, cap, rfl⟩ := own_slice hown
  have HM := Lib.hid hmk; clear hmk
  go_enter Try.func19, Try.ntmps19
  go_wp2
  go_loopw [1, 5] (fun v1 v5 wr => ∃ j : Nat, j ≤ n ∧ v5 = .int .i64 j ∧ v1 = .int .i64 ((k0 + j : Nat) : Int) ∧ Below w.heap.size w wr)
    (fun _ v5 _ => n - (intOf v5).toNat)
  case atStart => exact ⟨0, Nat.zero_le _, rfl, rfl, Below.refl _ _⟩
  case round =>
    obtain ⟨j, hj, rfl, rfl, hbr⟩ := hrel
    by_cases hlt : j < n
    · obtain ⟨g, cap', hv, hc1, hc2, _⟩ := own_slice_pos hown (by omega)
      simp only [Value.slice.injEq, true_and] at hv
      obtain ⟨rfl, rfl⟩ := hv
      have hc0 : w.cell? ⟨g, j, none⟩ = some (.string (mt (k0 + j))) := by rw [hown.cellAt j (by omega)]; exact HM.out j hlt
      have hcell : wr.cell? ⟨g, j, none⟩ = some (.string (mt (k0 + j))) := by rw [← hc0]; exact hbr.cell (World.block_lt_of_cell? w _ hc0)
      clear hc0
      have hmt : ∀ W : World, W.cell? ⟨g, j, none⟩ = some (.string (mt (k0 + j))) → Calls Try.prog 28 #[.int .i64 ((k0 : Int) + (j : Int))] W fun e w' => e = .returned (.string (mt (k0 + j))) ∧ Below W.heap.size W w' ∧ w'.cell? ⟨g, j, none⟩ = some (.string (mt (k0 + j))) := fun W hW => marktext_at (k0 + j) (by omega) (by omega) W g j _ hW
      have HMT := Lib.hid hmt; clear hmt
      go_wp2_with fail
      go_region_held3 (fun w' => w'.cell? ⟨g, j, none⟩ = some (.string (mt (k0 + j)))) (go_keep)
        ((go_at_call 28; refine (HMT.out _ ?_).mono ?_; (simp [*]); rintro e w1 ⟨rfl, hb1, hcell1⟩))
      all_goals
        have hb2 : Below w.heap.size w w1 := hbr.trans ((below_undrew hb1).mono hbr.size)
        clear hb1 hcell hcell1 HMT
        go_wp2
        go_roundw
        case rel => exact ⟨j + 1, by omega, by go_num, by go_num, hb2⟩
        case measure => simp [intOf]; omega
    · obtain rfl : j = n := by omega
      go_wp2
      go_ret
      exact ⟨rfl, hbr⟩

set_option maxHeartbeats 1000000 in
theorem eqrow_any {B1 B2 : Nat} {w : World} {v1 v2 : Value} {n : Nat} {xs : List (List UInt8)} (hn : n ≤ 8000000) (h1 : w.ownsRow B1 9 1 v1 n (xs.map strV)) (h2 : w.ownsRow B2 9 1 v2 n (xs.map strV)) :
    Calls Try.prog 17 #[v1, v2] w fun e w' => e = .returned (.bool true) ∧ Below w.heap.size w w' := by
  obtain ⟨a1, cap1, rfl⟩ := own_slice h1
  obtain ⟨a2, cap2, rfl⟩ := own_slice h2
  go_enter Try.func17, Try.ntmps17
  go_wp2
  go_loopw [5] (fun v5 wr => ∃ j d : Nat, j ≤ n ∧ v5 = .int .i64 j ∧ wr = w.drewN d) (fun v5 _ => n - (intOf v5).toNat)
  case atStart => exact ⟨0, 0, Nat.zero_le _, rfl, rfl⟩
  case round =>
    obtain ⟨j, d, hj, rfl, rfl⟩ := hrel
    by_cases hlt : j < n
    · obtain ⟨g1, cap1', hv1, _, _, _⟩ := own_slice_pos h1 (by omega)
      simp only [Value.slice.injEq, true_and] at hv1
      obtain ⟨rfl, rfl⟩ := hv1
      obtain ⟨g2, cap2', hv2, _, _, _⟩ := own_slice_pos h2 (by omega)
      simp only [Value.slice.injEq, true_and] at hv2
      obtain ⟨rfl, rfl⟩ := hv2
      have hxl : xs.length = n := by simpa using h1.1
      obtain ⟨x, hx⟩ : ∃ x, xs[j]? = some x := ⟨xs[j], List.getElem?_eq_getElem (by omega)⟩
      have hc1 : w.cell? ⟨g1, j, none⟩ = some (.string (strL x)) := by rw [h1.cellAt j (by omega), List.getElem?_map, hx]; rfl
      have hc2 : w.cell? ⟨g2, j, none⟩ = some (.string (strL x)) := by rw [h2.cellAt j (by omega), List.getElem?_map, hx]; rfl
      clear hx hxl h1 h2
      go_wp2
      go_quiet (fail)
      go_wp2
      go_roundw
      case rel => exact ⟨j + 1, _, by omega, by go_num, rfl⟩
      case measure => simp [intOf]; omega
    · obtain rfl : j = n := by omega
      go_wp2
      go_ret
      exact ⟨rfl, below_drewN (Below.refl _ _) _⟩
end Go.Proofs.Ytidfeffpfcnnlaa
