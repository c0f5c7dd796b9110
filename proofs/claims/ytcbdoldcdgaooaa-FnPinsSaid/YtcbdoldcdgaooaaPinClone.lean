/- The contract of slices.Clone at rows of pins; rows of pins sorted (no program). No condition. Made by mk_implpin.py. -/
import Derived.Test.YtcbdoldcdgaooaaPinCmp
import Derived.Test.YtcbdoldcdgaooaaPinApp
namespace Go.Proofs.Ytcbdoldcdgaooaa
open Go.ChangeShapes Go.WideShapes Go.ChangeAt Go.RowKit


/-- The row of pins sorted, all kept. -/
def mergeP (l : List (Int × Int)) : List (Int × Int) := l.mergeSort fun x y => !pless y x
theorem mergeP_len (l : List (Int × Int)) : (mergeP l).length = l.length := List.length_mergeSort l
theorem mergeP_mem {l : List (Int × Int)} {x : Int × Int} : x ∈ mergeP l ↔ x ∈ l := List.mem_mergeSort
theorem mergeP_perm (l : List (Int × Int)) : (mergeP l).Perm l := List.mergeSort_perm l _
theorem mergeP_pw (l : List (Int × Int)) : (mergeP l).Pairwise fun a b => pless b a = false := by
  have h := List.pairwise_mergeSort (le := fun x y : Int × Int => !pless y x)
    (fun a b c h1 h2 => by
      simp only [Bool.not_eq_true'] at *
      rw [← Bool.not_eq_true, pless_iff] at *; omega)
    (fun a b => by
      by_cases h : pless b a = true
      · simp [pless_asymm h]
      · simp [h]) l
  exact h.imp fun hab => by simpa using hab
/-- Without doubles the sorted row rises strictly. -/
theorem mergeP_sp {l : List (Int × Int)} (h : l.Nodup) : SP (mergeP l) := by
  refine sp_pw.2 ?_
  have hn : (mergeP l).Nodup := (mergeP_perm l).nodup_iff.2 h
  refine (mergeP_pw l).imp₂ (fun a b h1 h2 => ?_) hn
  by_cases k : pless a b = true
  · exact k
  · exact absurd (pless_total (by simpa using k) h1) h2
theorem sp_merge {l : List (Int × Int)} (h : SP (mergeP l)) : l.Nodup := (mergeP_perm l).nodup_iff.1 (sp_nodup h)
set_option maxHeartbeats 1000000 in
theorem cloneP_any {w : World} {v : Value} {l : List (Int × Int)} (h : Rd2 w v l) (hl : l.length ≤ 1048576) :
    Calls Try.prog 70 #[v] w (NewPins w l) := by
  obtain ⟨i0, hi, hz0, hz1, hz2⟩ := info_parts infoPin
  have HO := Lib.hid (flat2_one l)
  have hown0 := World.ownsRow_made (e := 32) (size := 2) w #[] 0 (Nat.le_refl _) (by simp) rfl
  have hb0 : Below w.heap.size w (w.alloc (.cells #[] 32)) := (Below.refl _ _).alloc (Nat.le_refl _) _
  have HF := Lib.hid (flat2_length l)
  have q : ∀ (w : World) (a : Option Addr) (n c n' c' : Nat), (binOp .eql 24 (.slice a n c) (.slice none n' c')).run Try.prog w = .ok (.bool a.isNone) w := fun w a n c n' c' => Lib.run_eql_slice_nil w _ _ a n c n' c' Try.underlying24
  by_cases h0 : l.length = 0
  · obtain rfl : l = [] := List.length_eq_zero_iff.1 h0
    obtain ⟨a, cap, rfl⟩ := Rd.slice h
    clear h0
    cases a
    · go_enter Try.func70, Try.ntmps70
      go_wp2
      go_ret
      exact ⟨_, rfl, World.ownsRow_nil _ _ _ _, Below.refl _ _⟩
    · rename_i ad
      go_enter Try.func70, Try.ntmps70
      go_wp2_with (at_builtin; refine wpList_append_own _ rfl _ _ 24 rfl w.heap.size 32 i0 _ 2 16 Try.underlying24 hi hz0 hz1 hz2 rfl (by decide) _ 0 [] rfl hown0 ad 0 cap [] rfl rfl (fun j u hu => by simp at hu) (fun u hu => by simp at hu) (by unfold maxLen; omega) (by omega) (by simp) ?_)
      intro v' w1 hown hgrow _
      go_wp2
      go_ret
      exact ⟨_, rfl, (show w1.ownsRow w.heap.size 32 2 v' 0 [] from by simpa using hown), hb0.grown hgrow (by simp) (fun j hj => (hown0.lt j hj).1)⟩
  · obtain ⟨b, off, cap, rfl, hc⟩ := Rd.pos h (by omega)
    go_enter Try.func70, Try.ntmps70
    have HC := Lib.hid hc; clear hc
    go_wp2_with (at_builtin; refine wpList_append_own _ rfl _ _ 24 rfl w.heap.size 32 i0 _ 2 16 Try.underlying24 hi hz0 hz1 hz2 rfl (by decide) _ 0 [] rfl hown0 ⟨b, off, none⟩ l.length cap (flat2 l) rfl ?c1 ?c2 ?c3 ?c4 ?c5 ?c6 ?_)
    case c1 => exact HF.out
    case c2 =>
      intro c u hu
      have hlt : c < (flat2 l).length := (List.getElem?_eq_some_iff.1 hu).1
      rw [add_plain, hb0.cell (World.block_lt_of_cell? w _ ((HC.out c (by have := HF.out; omega)).trans hu)), HC.out c (by have := HF.out; omega)]
      exact hu
    case c3 => exact HO.out
    case c4 => unfold maxLen; omega
    case c5 => omega
    case c6 => simp
    intro v' w1 hown hgrow _
    go_wp2
    go_ret
    refine ⟨_, rfl, by simpa using hown, hb0.grown hgrow (by simp) (fun j hj => (hown0.lt j hj).1)⟩
end Go.Proofs.Ytcbdoldcdgaooaa
