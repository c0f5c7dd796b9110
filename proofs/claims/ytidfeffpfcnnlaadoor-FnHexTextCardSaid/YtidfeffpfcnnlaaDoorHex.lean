/- The contract of EncodeHex, of the program. No condition. -/
import Derived.Test.YtidfeffpfcnnlaaDoorBytes
import Derived.Deep.RegionHeld3
import Derived.Deep.AppendLies
namespace Go.Proofs.YtidfeffpfcnnlaaDoor
open Go.ChangeShapes Go.WideShapes Go.ChangeAt Go.RowKit

def hexOf (l : List UInt8) : List Int := l.flatMap fun c => [figN (c.toNat / 16), figN (c.toNat % 16)]
theorem hexOf_length (l : List UInt8) : (hexOf l).length = 2 * l.length := by
  unfold hexOf
  induction l with
  | nil => rfl
  | cons a l ih => simp only [List.flatMap_cons, List.length_append, ih, List.length_cons, List.length_nil]; omega
theorem hexOf_snoc (l : List UInt8) (c : UInt8) : hexOf (l ++ [c]) = hexOf l ++ [figN (c.toNat / 16), figN (c.toNat % 16)] := by
  simp [hexOf]
theorem hex_index (x : Nat) (hx : x < 16) (w : World) :
    (Instr.index 9 (.string { data := #[48, 49, 50, 51, 52, 53, 54, 55, 56, 57, 97, 98, 99, 100, 101, 102] }) (.int .u8 (x : Int))).run Tryd.prog w = .ok (.int .u8 (figN x)) w := by
  have h : x = 0 ∨ x = 1 ∨ x = 2 ∨ x = 3 ∨ x = 4 ∨ x = 5 ∨ x = 6 ∨ x = 7 ∨ x = 8 ∨ x = 9 ∨ x = 10 ∨ x = 11 ∨ x = 12 ∨ x = 13 ∨ x = 14 ∨ x = 15 := by omega
  rcases h with rfl | rfl | rfl | rfl | rfl | rfl | rfl | rfl | rfl | rfl | rfl | rfl | rfl | rfl | rfl | rfl <;> (show _ = _; kernel_rfl)

theorem hex_next {s : ByteArray} {k : Nat} (hlt : k < s.size) {w wr wx w1 : World} {e : TypeId} {u v : Value} (hbr : Below w.heap.size w wr) (hown1 : wr.ownsRow w.heap.size e 1 u (2 * k) ((hexOf (s.data.toList.take k)).map (Value.int .u8)))
    (hx : Below w.heap.size wr wx) (hgrow : wx.grownBy w1 u.ownBlock)
    (hown2 : w1.ownsRow w.heap.size e 1 v (2 * k + 2) ((hexOf (s.data.toList.take k)).map (Value.int .u8) ++ [.int .u8 (figN (s[k].toNat / 16)), .int .u8 (figN (s[k].toNat % 16))])) :
    w1.ownsRow w.heap.size e 1 v (2 * (k + 1)) ((hexOf (s.data.toList.take (k + 1))).map (Value.int .u8)) ∧ Below w.heap.size w w1 := by
  refine ⟨?_, (hbr.trans hx).grown hgrow (Nat.le_trans hbr.size hx.size) (fun j hj => (hown1.lt j hj).1)⟩
  rw [take_snoc s k hlt, hexOf_snoc, List.map_append]
  exact hown2

set_option maxHeartbeats 1000000 in
theorem encode_yes (s : ByteArray) (w : World) (hs : s.size ≤ 20000) :
    Calls Tryd.prog 10 #[.string s] w fun e w' => e = .returned (.tuple #[.string (strOfNums (hexOf s.data.toList)), .bool true]) ∧ Below w.heap.size w w' := by
  obtain ⟨i0, hi, hz0, hz1, hz2⟩ := info_parts info5
  go_enter Tryd.func10, Tryd.ntmps10
  go_wp2_with (at_make; refine wpList_make_own _ rfl _ _ 22 rfl w.heap.size 5 i0 (.int .u8 0) 1 Tryd.underlying22 hi hz0 hz1 _ _ _ (2 * s.size) rfl rfl (by omega) (by rw [hz2]; omega) (by unfold maxLen; omega) (Nat.le_refl _) ?_)
  intro w1 hown hgrow
  have hb1 : Below w.heap.size w w1 := (Below.refl _ _).grown hgrow (Nat.le_refl _) (by intro k hk; cases hk)
  go_wp2_with fail
  go_loopw [4, 5] (fun v i wr => ∃ k : Nat, k ≤ s.size ∧ i = .int .i64 k ∧ wr.ownsRow w.heap.size 5 1 v (2 * k) ((hexOf (s.data.toList.take k)).map (Value.int .u8)) ∧ Below w.heap.size w wr)
    (fun _ i _ => s.size - (intOf i).toNat)
  case atStart => exact ⟨0, Nat.zero_le _, rfl, hown, hb1⟩
  case round =>
    obtain ⟨k, hk, rfl, hown1, hbr⟩ := hrel
    by_cases hlt : k < s.size
    · have hc1 : (s[k].toNat : Int) ≤ 255 := by have := s[k].toNat_lt; omega
      have hc0 : 0 ≤ (s[k].toNat : Int) := by omega
      have hA := u8_and15 (x := (s[k].toNat : Int)) hc0 (by omega)
      have hi1 : ∀ W : World, (Instr.index 9 (.string { data := #[48, 49, 50, 51, 52, 53, 54, 55, 56, 57, 97, 98, 99, 100, 101, 102] }) (.int .u8 ((s[k].toNat : Int) / 16))).run Tryd.prog W = .ok (.int .u8 (figN (s[k].toNat / 16))) W := fun W => by
        rw [show ((s[k].toNat : Int) / 16) = ((s[k].toNat / 16 : Nat) : Int) by omega]; exact hex_index _ (by omega) W
      have hi2 : ∀ W : World, (Instr.index 9 (.string { data := #[48, 49, 50, 51, 52, 53, 54, 55, 56, 57, 97, 98, 99, 100, 101, 102] }) (.int .u8 ((s[k].toNat : Int) % 16))).run Tryd.prog W = .ok (.int .u8 (figN (s[k].toNat % 16))) W := fun W => by
        rw [show ((s[k].toNat : Int) % 16) = ((s[k].toNat % 16 : Nat) : Int) by omega]; exact hex_index _ (by omega) W
      go_wp2_with fail
      go_region_held3 (fun _ => True) (go_keep)
        ((refine step_append_lies _ (by rfl) _ _ _ (by rfl) w.heap.size 5 i0 _ 1 1 Tryd.underlying22 hi hz0 hz1 hz2 rfl (by omega) u4 (2 * k) _ (by rfl) ((hown1.alloc _).drew) ⟨wr.heap.size, 0, none⟩ 2 2 [.int .u8 (figN (s[k].toNat / 16)), .int .u8 (figN (s[k].toNat % 16))] (by rfl) (by rfl) (World.news_of_block (cs := #[.int .u8 (figN (s[k].toNat / 16)), .int .u8 (figN (s[k].toNat % 16))]) (t := 5) (fr := (0, 0)) (heap_alloc_new wr _)) (by simp [Value.oneCell']) (by omega) (by unfold maxLen; omega) (by omega) (by have := hbr.size; simp; omega) (wr.heap.size + 1) (by simp) ?_; intro gg cap w2 hown2 hgrow hat hgl))
      all_goals
        obtain ⟨hn1, hn2⟩ := hex_next hlt hbr hown1 (((Below.refl _ _).alloc hbr.size _).drew) hgrow hown2
        clear hown1 hown2 hgrow hi1 hi2 hA hat hbr hown
        go_wp2
        go_roundw
        case rel => exact ⟨k + 1, by omega, by go_num, hn1, hn2⟩
        case measure => simp [intOf]; omega
    · obtain rfl : k = s.size := by omega
      have hcv := convert_own (P := Tryd.prog) Tryd.underlying22 Tryd.underlying5 hown1 9 Tryd.underlying9
      rw [List.take_of_length_le (by simp)] at hcv
      go_wp2
      go_ret2
      exact ⟨rfl, hbr⟩

theorem encode_no (s : ByteArray) (w : World) (hs : 20000 < s.size) (hm : s.size ≤ 9223372036854775807) :
    Calls Tryd.prog 10 #[.string s] w fun e w' => e = .returned (.tuple #[.string ByteArray.empty, .bool false]) ∧ Below w.heap.size w w' := by
  go_enter Tryd.func10, Tryd.ntmps10
  go_wp2
  go_ret2
  exact ⟨rfl, Below.refl _ _⟩

end Go.Proofs.YtidfeffpfcnnlaaDoor
