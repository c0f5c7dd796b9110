/- The contracts of EncodeHex, of the program and of its model. No condition. -/
import Derived.Test.YtidfeffpfcnnlaaKit
import Derived.Deep.RegionHeld3
import Derived.Deep.AppendLies
namespace Go.Proofs.Ytidfeffpfcnnlaa
open Go.ChangeShapes Go.WideShapes Go.ChangeAt Go.RowKit

def figN (x : Nat) : Int := if x < 10 then 48 + x else 87 + x
def hexOf (l : List UInt8) : List Int := l.flatMap fun c => [figN (c.toNat / 16), figN (c.toNat % 16)]
theorem hexOf_length (l : List UInt8) : (hexOf l).length = 2 * l.length := by
  unfold hexOf
  induction l with
  | nil => rfl
  | cons a l ih => simp only [List.flatMap_cons, List.length_append, ih, List.length_cons, List.length_nil]; omega
theorem hexOf_snoc (l : List UInt8) (c : UInt8) : hexOf (l ++ [c]) = hexOf l ++ [figN (c.toNat / 16), figN (c.toNat % 16)] := by
  simp [hexOf]
theorem take_snoc (s : ByteArray) (k : Nat) (h : k < s.size) : s.data.toList.take (k + 1) = s.data.toList.take k ++ [s[k]] := by
  rw [List.take_succ_eq_append_getElem (by simpa using h)]; rfl

theorem info5 : (Try.prog.info? 5).map (fun i => (i.zero, i.size, i.bytes)) = some (some (.int .u8 0), 1, 1) := by kernel_rfl

theorem convert_own {P : Program} {w : World} {base : Nat} {e src : TypeId} {v : Value} {n : Nat} {xs : List Int} (hs : P.underlying src = some (.slice e)) (he : P.underlying e = some (.int .u8))
    (hown : w.ownsRow base e 1 v n (xs.map (Value.int .u8))) : ∀ dst, P.underlying dst = some .string → (convert src dst v).run P w = .ok (.string (strOfNums xs)) w := by
  intro dst hd
  have hlen : xs.length = n := by simpa using hown.1
  rcases hown.2 with ⟨rfl, h0⟩ | ⟨g, cap, cur, rfl, hb, hg, hc, hm, hsz, htk⟩
  · subst h0
    have : xs = [] := List.length_eq_zero_iff.1 hlen
    subst this
    exact run_convert_bytes_nil w src e hs he 0 0 dst hd
  · refine run_convert_bytes_arg w src e hs he g 0 n cap xs hlen (fun i hi => ?_) dst hd
    have h1 : (cur.toList.take (n * 1))[i]? = some (.int .u8 (xs.getD i 0)) := by
      rw [htk]
      simp [List.getElem?_map, List.getElem?_eq_getElem (show i < xs.length by omega), List.getD]
    rw [List.getElem?_take] at h1
    split at h1
    · simp only [World.cell?, hg, Nat.zero_add]
      simpa using h1
    · cases h1

theorem hex_index (x : Nat) (hx : x < 16) (w : World) :
    (Instr.index 9 (.string { data := #[48, 49, 50, 51, 52, 53, 54, 55, 56, 57, 97, 98, 99, 100, 101, 102] }) (.int .u8 (x : Int))).run Try.prog w = .ok (.int .u8 (figN x)) w := by
  have h : x = 0 ∨ x = 1 ∨ x = 2 ∨ x = 3 ∨ x = 4 ∨ x = 5 ∨ x = 6 ∨ x = 7 ∨ x = 8 ∨ x = 9 ∨ x = 10 ∨ x = 11 ∨ x = 12 ∨ x = 13 ∨ x = 14 ∨ x = 15 := by omega
  rcases h with rfl | rfl | rfl | rfl | rfl | rfl | rfl | rfl | rfl | rfl | rfl | rfl | rfl | rfl | rfl | rfl <;> (show _ = _; kernel_rfl)

theorem hex_next {s : ByteArray} {k : Nat} (hlt : k < s.size) {w wr wx w1 : World} {e : TypeId} {u v : Value} (hbr : Below w.heap.size w wr) (hown1 : wr.ownsRow w.heap.size e 1 u (2 * k) ((hexOf (s.data.toList.take k)).map (Value.int .u8)))
    (hx : Below w.heap.size wr wx) (hgrow : wx.grownBy w1 u.ownBlock)
    (hown2 : w1.ownsRow w.heap.size e 1 v (2 * k + 2) ((hexOf (s.data.toList.take k)).map (Value.int .u8) ++ [.int .u8 (figN (s[k].toNat / 16)), .int .u8 (figN (s[k].toNat % 16))])) :
    w1.ownsRow w.heap.size e 1 v (2 * (k + 1)) ((hexOf (s.data.toList.take (k + 1))).map (Value.int .u8)) ∧ Below w.heap.size w w1 := by
  refine ⟨?_, (hbr.trans hx).grown hgrow (Nat.le_trans hbr.size hx.size) (fun j hj => (hown1.lt j hj).1)⟩
  rw [take_snoc s k hlt, hexOf_snoc, List.map_append]
  exact hown2

set_option maxHeartbeats 1000000 in
theorem encode_yes (s : ByteArray) (w : World) (hs : s.size ≤ 20000) :
    Calls Try.prog 12 #[.string s] w fun e w' => e = .returned (.tuple #[.string (strOfNums (hexOf s.data.toList)), .bool true]) ∧ Below w.heap.size w w' := by
  obtain ⟨i0, hi, hz0, hz1, hz2⟩ := info_parts info5
  go_enter Try.func12, Try.ntmps12
  go_wp2_with (at_make; refine wpList_make_own _ rfl _ _ 22 rfl w.heap.size 5 i0 (.int .u8 0) 1 Try.underlying22 hi hz0 hz1 _ _ _ (2 * s.size) rfl rfl (by omega) (by rw [hz2]; omega) (by unfold maxLen; omega) (Nat.le_refl _) ?_)
  intro w1 hown hgrow
  have hb1 : Below w.heap.size w w1 := (Below.refl _ _).grown hgrow (Nat.le_refl _) (by intro k hk; cases hk)
  go_wp2_with fail
  go_loopw [4, 5] (fun v i wr => ∃ k : Nat, k ≤ s.size ∧ i = .int .i64 k ∧ wr.ownsRow w.heap.size 5 1 v (2 * k) ((hexOf (s.data.toList.take k)).map (Value.int .u8)) ∧ Below w.heap.size w wr)
    (fun _ i _ => s.size - (intOf i).toNat)
  case atStart => exact ⟨0, Nat.zero_le _, rfl, hown, hb1⟩
  case round =>
    obtain ⟨k, hk, rfl, hown1, hbr⟩ := hrel
    by_cases hlt : k < s.size
    · have hc1 : (s[k].toNat : Int) ≤ 255 := by have := s[k].toNat_lt; omega
      have hc0 : 0 ≤ (s[k].toNat : Int) := by omega
      have hA := u8_and15 (x := (s[k].toNat : Int)) hc0 (by omega)
      have hi1 : ∀ W : World, (Instr.index 9 (.string { data := #[48, 49, 50, 51, 52, 53, 54, 55, 56, 57, 97, 98, 99, 100, 101, 102] }) (.int .u8 ((s[k].toNat : Int) / 16))).run Try.prog W = .ok (.int .u8 (figN (s[k].toNat / 16))) W := fun W => by
        rw [show ((s[k].toNat : Int) / 16) = ((s[k].toNat / 16 : Nat) : Int) by omega]; exact hex_index _ (by omega) W
      have hi2 : ∀ W : World, (Instr.index 9 (.string { data := #[48, 49, 50, 51, 52, 53, 54, 55, 56, 57, 97, 98, 99, 100, 101, 102] }) (.int .u8 ((s[k].toNat : Int) % 16))).run Try.prog W = .ok (.int .u8 (figN (s[k].toNat % 16))) W := fun W => by
        rw [show ((s[k].toNat : Int) % 16) = ((s[k].toNat % 16 : Nat) : Int) by omega]; exact hex_index _ (by omega) W
      go_wp2_with fail
      go_region_held3 (fun _ => True) (go_keep)
        ((refine step_append_lies _ (by rfl) _ _ _ (by rfl) w.heap.size 5 i0 _ 1 1 Try.underlying22 hi hz0 hz1 hz2 rfl (by omega) u4 (2 * k) _ (by rfl) ((hown1.alloc _).drew) ⟨wr.heap.size, 0, none⟩ 2 2 [.int .u8 (figN (s[k].toNat / 16)), .int .u8 (figN (s[k].toNat % 16))] (by rfl) (by rfl) (World.news_of_block (cs := #[.int .u8 (figN (s[k].toNat / 16)), .int .u8 (figN (s[k].toNat % 16))]) (t := 5) (fr := (0, 0)) (heap_alloc_new wr _)) (by simp [Value.oneCell']) (by omega) (by unfold maxLen; omega) (by omega) (by have := hbr.size; simp; omega) (wr.heap.size + 1) (by simp) ?_; intro gg cap w2 hown2 hgrow hat hgl))
      all_goals
        obtain ⟨hn1, hn2⟩ := hex_next hlt hbr hown1 (((Below.refl _ _).alloc hbr.size _).drew) hgrow hown2
        clear hown1 hown2 hgrow hi1 hi2 hA hat hbr hown
        go_wp2
        go_roundw
        case rel => exact ⟨k + 1, by omega, by go_num, hn1, hn2⟩
        case measure => simp [intOf]; omega
    · obtain rfl : k = s.size := by omega
      have hcv := convert_own (P := Try.prog) Try.underlying22 Try.underlying5 hown1 9 Try.underlying9
      rw [List.take_of_length_le (by simp)] at hcv
      go_wp2
      go_ret2
      exact ⟨rfl, hbr⟩

theorem encode_no (s : ByteArray) (w : World) (hs : 20000 < s.size) (hm : s.size ≤ 9223372036854775807) :
    Calls Try.prog 12 #[.string s] w fun e w' => e = .returned (.tuple #[.string ByteArray.empty, .bool false]) ∧ Below w.heap.size w w' := by
  go_enter Try.func12, Try.ntmps12
  go_wp2
  go_ret2
  exact ⟨rfl, Below.refl _ _⟩

theorem figure_any (x : Nat) (hx : x < 16) (w : World) :
    Calls Try.prog 25 #[.int .i64 (x : Int)] w fun e w' => e = .returned (.int .u8 (figN x)) ∧ w = w' := by
  by_cases h : x < 10
  · go_enter Try.func25, Try.ntmps25
    go_wp2
    go_ret
    exact ⟨by simp [figN, h], rfl⟩
  · go_enter Try.func25, Try.ntmps25
    go_wp2
    go_ret
    exact ⟨by simp [figN, h]; omega, rfl⟩

def figI (y : Int) : Int := figN y.toNat
theorem figI_div (n : Nat) : figI ((n : Int) / 16) = figN (n / 16) := by unfold figI; congr 1
theorem figI_mod (n : Nat) : figI ((n : Int) % 16) = figN (n % 16) := by unfold figI; congr 1
theorem figI_any (y : Int) (h0 : 0 ≤ y) (h1 : y < 16) (w : World) :
    Calls Try.prog 25 #[.int .i64 y] w fun e w' => e = .returned (.int .u8 (figI y)) ∧ w = w' := by
  obtain ⟨x, rfl⟩ := Int.eq_ofNat_of_zero_le h0
  exact figure_any x (by omega) w

theorem specencode_no (s : ByteArray) (w : World) (hs : 20000 < s.size) (hm : s.size ≤ 9223372036854775807) :
    Calls Try.prog 11 #[.string s] w fun e w' => e = .returned (.tuple #[.string ByteArray.empty, .bool false]) ∧ Below w.heap.size w w' := by
  go_enter Try.func11, Try.ntmps11
  go_wp2
  go_ret2
  exact ⟨rfl, Below.refl _ _⟩

set_option maxHeartbeats 1000000 in
theorem specencode_yes (s : ByteArray) (w : World) (hs : s.size ≤ 20000) :
    Calls Try.prog 11 #[.string s] w fun e w' => e = .returned (.tuple #[.string (strOfNums (hexOf s.data.toList)), .bool true]) ∧ Below w.heap.size w w' := by
  obtain ⟨i0, hi, hz0, hz1, hz2⟩ := info_parts info5
  go_enter Try.func11, Try.ntmps11
  go_wp2
  go_loopw [4, 5] (fun v i wr => ∃ k : Nat, k ≤ s.size ∧ i = .int .i64 k ∧ wr.ownsRow w.heap.size 5 1 v (2 * k) ((hexOf (s.data.toList.take k)).map (Value.int .u8)) ∧ Below w.heap.size w wr)
    (fun _ i _ => s.size - (intOf i).toNat)
  case atStart => exact ⟨0, Nat.zero_le _, rfl, World.ownsRow_made w #[] 0 (Nat.le_refl _) (by simp) rfl, (Below.refl _ _).alloc (Nat.le_refl _) _⟩
  case round =>
    obtain ⟨k, hk, rfl, hown1, hbr⟩ := hrel
    by_cases hlt : k < s.size
    · have hc1 : (s[k].toNat : Int) ≤ 255 := by have := s[k].toNat_lt; omega
      have hc0 : 0 ≤ (s[k].toNat : Int) := by omega
      have b0 : 0 ≤ (s[k].toNat : Int) / 16 := by omega
      have b1 : (s[k].toNat : Int) / 16 < 16 := by omega
      have b2 : 0 ≤ (s[k].toNat : Int) % 16 := by omega
      have b3 : (s[k].toNat : Int) % 16 < 16 := by omega
      have m1 : 2 * k + 2 ≤ maxLen := by unfold maxLen; omega
      have m2 : (2 * k + 2) * 1 ≤ 140737488355328 := by omega
      have e0 : IntKind.i64.wrap (s[k].toNat : Int) = (s[k].toNat : Int) := IntWalk.i64_in _ (by omega)
      have e1 : IntKind.i64.wrap ((s[k].toNat : Int) / 16) = (s[k].toNat : Int) / 16 := IntWalk.i64_in _ (by omega)
      have e2 : IntKind.i64.wrap ((s[k].toNat : Int) % 16) = (s[k].toNat : Int) % 16 := IntWalk.i64_in _ (by omega)
      have e3 : (s[k].toNat : Int).tdiv 16 = (s[k].toNat : Int) / 16 := Int.tdiv_eq_ediv_of_nonneg (by omega)
      have e4 : (s[k].toNat : Int).tmod 16 = (s[k].toNat : Int) % 16 := Int.tmod_eq_emod_of_nonneg (by omega)
      go_wp2_with fail
      go_region_held3 (fun _ => True) (go_keep)
        (first
          | (go_at_call 25; refine (figI_any _ (by assumption) (by assumption) _).mono ?_; rintro e w' ⟨rfl, rfl⟩)
          | (refine step_append_lies _ (by rfl) _ _ _ (by rfl) w.heap.size 5 i0 _ 1 1 Try.underlying22 hi hz0 hz1 hz2 rfl Nat.zero_lt_one u4 (2 * k) _ (by rfl) ((hown1.alloc _).drew) ⟨wr.heap.size, 0, none⟩ 2 2 [.int .u8 (figI ((s[k].toNat : Int) / 16)), .int .u8 (figI ((s[k].toNat : Int) % 16))] (by rfl) (by rfl) (World.news_of_block (cs := #[.int .u8 (figI ((s[k].toNat : Int) / 16)), .int .u8 (figI ((s[k].toNat : Int) % 16))]) (t := 5) (fr := (0, 0)) (heap_alloc_new wr _)) (by simp [Value.oneCell']) Nat.zero_lt_two m1 m2 (Nat.le_trans hbr.size (by simp)) (wr.heap.size + 1) (by simp) ?_; intro gg cap w2 hown2 hgrow hat hgl))
      all_goals
        rw [figI_div, figI_mod] at hown2
        obtain ⟨hn1, hn2⟩ := hex_next hlt hbr hown1 (((Below.refl _ _).alloc hbr.size _).drew) hgrow hown2
        clear hown1 hown2 hgrow hat hbr b0 b1 b2 b3 m1 m2 e0 e1 e2 e3 e4
        go_wp2
        go_roundw
        case rel => exact ⟨k + 1, by omega, by go_num, hn1, hn2⟩
        case measure => simp [intOf]; omega
    · obtain rfl : k = s.size := by omega
      have hcv := convert_own (P := Try.prog) Try.underlying22 Try.underlying5 hown1 9 Try.underlying9
      rw [List.take_of_length_le (by simp)] at hcv
      go_wp2
      go_ret2
      exact ⟨rfl, hbr⟩
end Go.Proofs.Ytidfeffpfcnnlaa
