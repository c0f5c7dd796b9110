/- The contract of the program's changeNotes, for whatever change of a note. No condition. -/
import Derived.Test.YtcbdoldcdgaooaaImplLit
import Derived.Test.YtcbdoldcdgaooaaImplSort
namespace Go.Proofs.Ytcbdoldcdgaooaa
open Go.ChangeShapes Go.WideShapes Go.ChangeAt Go.RowKit

/-- What is asked of a change of a note: called at a note of l, it answers f, and writes into nothing that was there. -/
def Chg (w : World) (g : FuncId) (caps : Array Value) (f : Int × Int → Int × Int) (l : List (Int × Int)) : Prop :=
  ∀ p ∈ l, ∀ W, Below w.heap.size w W → Calls Try.prog g (#[.agg #[.int .i64 p.1, .int .i64 p.2]] ++ caps) W fun e W' => e = .returned (.agg #[.int .i64 (f p).1, .int .i64 (f p).2]) ∧ Gr W W'
theorem map_succ {f : Int × Int → Int × Int} {l : List (Int × Int)} {k : Nat} {p : Int × Int} (h : l[k]? = some p) : (l.take (k + 1)).map f = (l.take k).map f ++ [f p] := by
  rw [List.take_add_one, h]; simp

set_option maxHeartbeats 2000000 in
set_option maxRecDepth 100000 in
theorem chg_any {w : World} {v : Value} {l : List (Int × Int)} {g : FuncId} {caps : Array Value} {f : Int × Int → Int × Int} (h : Rd2 w v l) (hl : l.length ≤ 1048576) (eg : ∀ args w, (callFunc g args).run Try.prog w = .ok (.enter g args) w) (hc : Chg w g caps f l) :
    Calls Try.prog 100 #[v, .func (.func g) #[] caps] w (NewNotes w (dedM (mergeM (l.map f)))) := by
  obtain ⟨i0, hi, hz0, hz1, hz2⟩ := info_parts infoNote
  obtain ⟨a1, cap1, rfl⟩ := Rd.slice h
  have HC := Lib.hid hc; clear hc
  obtain ⟨w1, hrun, hown0, hgrow⟩ := run_make_own (P := Try.prog) (w := w) w.heap.size 42 41 i0 (.agg #[.int .i64 0, .int .i64 0]) 2 Try.underlying42 hi hz0 hz1 .i64 .i64 l.length (by rw [hz2]; omega) (by unfold maxLen; omega) (Nat.le_refl _)
  go_enter Try.func100, Try.ntmps100
  have hb0 : Below w.heap.size w w1 := (Below.refl _ _).grown hgrow (Nat.le_refl _) (fun k hk => by cases hk)
  clear hgrow
  go_wp2_with fail
  go_loopw [5, 13] (fun v5 v13 wr => ∃ k : Nat, k ≤ l.length ∧ v13 = .int .i64 k ∧ wr.ownsRow w.heap.size 41 2 v5 k (flat2 ((l.take k).map f)) ∧ Below w.heap.size w wr) (fun _ v13 _ => l.length - (intOf v13).toNat)
  case atStart => exact ⟨0, Nat.zero_le _, rfl, hown0, hb0⟩
  case round =>
    obtain ⟨k, hk, rfl, hown, hbr⟩ := hrel
    clear hown0 hb0
    by_cases hlt : k < l.length
    · obtain ⟨p, hp⟩ : ∃ p, l[k]? = some p := ⟨_, List.getElem?_eq_getElem hlt⟩
      have HN := Lib.hid (map_succ (f := f) hp)
      have HP := Lib.hid (List.mem_of_getElem? hp)
      obtain ⟨b1, o1, c1, hv1, x0, y0⟩ := Rd2.cells h hp
      simp only [Value.slice.injEq, true_and] at hv1
      obtain ⟨rfl, rfl⟩ := hv1
      have x1 := kept_b hbr x0
      have y1 := kept_b hbr y0
      clear hp
      have hb1 : Below w.heap.size w (wr.alloc (.cells #[.int .i64 p.1, .int .i64 p.2] 41)) := hbr.alloc hbr.size _
      have hown1 : (wr.alloc (.cells #[.int .i64 p.1, .int .i64 p.2] 41)).ownsRow w.heap.size 41 2 u5 k (flat2 ((l.take k).map f)) := hown.alloc _
      go_wp2_with fail
      refine (HC.out p HP.out _ hb1).mono ?_
      rintro e w2 ⟨rfl, hg2⟩
      have hb2 := bstep hb1 hg2.below
      have hown2 := ownS_below hown1 hg2.below
      clear hg2 hb1 hown1 hown hbr x0 y0 x1 y1
      have hrow := one_row0 (W := w) hb2 (f p)
      have hb3 : Below w.heap.size w (w2.alloc (.cells #[.int .i64 (f p).1, .int .i64 (f p).2] 41)) := hb2.alloc hb2.size _
      have hown3 : (w2.alloc (.cells #[.int .i64 (f p).1, .int .i64 (f p).2] 41)).ownsRow w.heap.size 41 2 u5 k (flat2 ((l.take k).map f)) := hown2.alloc _
      have hlk : ((l.take k).map f).length = k := by rw [List.length_map, List.length_take]; omega
      have HL := Lib.hid (show (flat2 [f p]).length = 1 * 2 from rfl)
      have HO := Lib.hid (flat2_one [f p])
      go_wp2_with (at_builtin; refine wpList_append_own _ rfl _ _ 42 rfl w.heap.size 41 i0 _ 2 16 Try.underlying42 hi hz0 hz1 hz2 rfl (by decide) _ k (flat2 ((l.take k).map f)) rfl hown3 ⟨w2.heap.size, 0, none⟩ 1 1 (flat2 [f p]) rfl HL.out (fun j u hu => hrow.cells (by rfl) j u hu) HO.out (by unfold maxLen; omega) (by omega) hb3.size ?_)
      intro v' w3 hown4 hgrow4 _
      have hb4 := hb3.grown hgrow4 hb3.size (fun j hj => (hown3.lt j hj).1)
      have hown5 : w3.ownsRow w.heap.size 41 2 v' (k + 1) (flat2 ((l.take (k + 1)).map f)) := by rw [HN.out, flat2_append, List.map_take]; exact hown4
      clear hown4 hown3 hrow hown2 hb3 hb2 hgrow4 hlk
      go_wp2
      go_roundw
      case rel => exact ⟨k + 1, by omega, by go_num, hown5, hb4⟩
      case measure => simp [intOf]; omega
    · obtain rfl : k = l.length := by omega
      have hfull : l.take l.length = l := List.take_length
      have hR : Rd2 wr u5 (l.map f) := by
        have h' := hown; have e : l.length = (l.map f).length := (List.length_map f).symm; rw [hfull] at h'; unfold Rd2; rw [← e]; exact Rd.of_own h'
      have hml : (l.map f).length ≤ 1048576 := by rw [List.length_map]; exact hl
      clear hfull hown
      go_wp2_with fail
      refine (once_any hR hml).mono ?_
      rintro e w2 ⟨v2, rfl, ho2, hb2⟩
      have ho3 := ownS_mono ho2 hbr.size
      have hb3 := bstep hbr hb2
      clear ho2 hb2
      go_wp2
      go_ret
      exact ⟨v2, rfl, ho3, hb3⟩
end Go.Proofs.Ytcbdoldcdgaooaa
