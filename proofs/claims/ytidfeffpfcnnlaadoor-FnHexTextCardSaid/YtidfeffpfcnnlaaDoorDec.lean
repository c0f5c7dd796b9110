/- The contract of DecodeHex, of the program. No condition. -/
import Derived.Test.YtidfeffpfcnnlaaDoorHex
namespace Go.Proofs.YtidfeffpfcnnlaaDoor
open Go.ChangeShapes Go.WideShapes Go.ChangeAt Go.RowKit

def hv (c : Int) : Int := if 48 ≤ c ∧ c ≤ 57 then c - 48 else if 97 ≤ c ∧ c ≤ 102 then c - 87 else -1
theorem hv_bd (c : Int) : -1 ≤ hv c ∧ hv c ≤ 15 := by unfold hv; omega
def hok (c : Int) : Bool := decide (0 ≤ hv c)
def hvz (c : Int) : Int := if 0 ≤ hv c then hv c else 0
def bt (s : ByteArray) (j : Nat) : Int := (s.data.toList.getD j 0).toNat
theorem bt_get (s : ByteArray) (j : Nat) (h : j < s.size) : (s[j].toNat : Int) = bt s j := by
  unfold bt
  rw [List.getD, List.getElem?_eq_getElem (by simpa using h)]
  rfl
def okM (s : ByteArray) : Prop := ∀ k, k < s.size / 2 → 0 ≤ hv (bt s (2 * k)) ∧ 0 ≤ hv (bt s (2 * k + 1))
def decM (s : ByteArray) (n : Nat) : List Int := (List.range n).map fun k => 16 * hv (bt s (2 * k)) + hv (bt s (2 * k + 1))
open Classical in
noncomputable def decR (s : ByteArray) : ByteArray × Bool := if s.size ≤ 40000 ∧ s.size % 2 = 0 ∧ okM s then (strOfNums (decM s (s.size / 2)), true) else (ByteArray.empty, false)
theorem decM_snoc (s : ByteArray) (n : Nat) : decM s (n + 1) = decM s n ++ [16 * hv (bt s (2 * n)) + hv (bt s (2 * n + 1))] := by
  unfold decM; rw [List.range_succ, List.map_append]; rfl
theorem decM_length (s : ByteArray) (n : Nat) : (decM s n).length = n := by simp [decM]
def DecPost (s : ByteArray) (w : World) (e : Ending) (w' : World) : Prop := e = .returned (.tuple #[.string (decR s).1, .bool (decR s).2]) ∧ Below w.heap.size w w'
theorem dec_bad {s : ByteArray} {w : World} {e : Ending} {w' : World} (h : ¬ (s.size ≤ 40000 ∧ s.size % 2 = 0 ∧ okM s)) (he : e = .returned (.tuple #[.string ByteArray.empty, .bool false])) (hb : Below w.heap.size w w') : DecPost s w e w' := by
  refine ⟨?_, hb⟩
  unfold decR; rw [if_neg h]; exact he
theorem dec_good {s : ByteArray} {w : World} {e : Ending} {w' : World} (h : s.size ≤ 40000 ∧ s.size % 2 = 0 ∧ okM s) (he : e = .returned (.tuple #[.string (strOfNums (decM s (s.size / 2))), .bool true])) (hb : Below w.heap.size w w') : DecPost s w e w' := by
  refine ⟨?_, hb⟩
  unfold decR; rw [if_pos h]; exact he

theorem ret_i {k : IntKind} {a b : Int} (h : a = b) : Ending.returned (.int k a) = .returned (.int k b) := by rw [h]
theorem ret_ib {k : IntKind} {a b : Int} {x y : Bool} (h : a = b) (h' : x = y) : Ending.returned (.tuple #[.int k a, .bool x]) = .returned (.tuple #[.int k b, .bool y]) := by rw [h, h']

theorem decM_next {s : ByteArray} {n : Nat} {w1 : World} {B : Nat} {e : TypeId} {v : Value} {x : Int} (hx : x = 16 * hv (bt s (2 * n)) + hv (bt s (2 * n + 1)))
    (h : w1.ownsRow B e 1 v (n + 1) ((decM s n).map (Value.int .u8) ++ [.int .u8 x])) : w1.ownsRow B e 1 v (n + 1) ((decM s (n + 1)).map (Value.int .u8)) := by
  rw [decM_snoc, List.map_append]; subst hx; exact h

theorem dec_next {s : ByteArray} {j k : Nat} (hjk : j = 2 * k) {w wr w1 : World} {e : TypeId} {o : Obj} {u v : Value} (hbr : Below w.heap.size w wr) (hown1 : wr.ownsRow w.heap.size e 1 u k ((decM s k).map (Value.int .u8)))
    (hgrow : (wr.alloc o).grownBy w1 u.ownBlock) (hown2 : w1.ownsRow w.heap.size e 1 v (k + 1) ((decM s k).map (Value.int .u8) ++ [.int .u8 (16 * hv (bt s j) + hv (bt s (j + 1)))]))
    (hall : ∀ q, q < k → 0 ≤ hv (bt s (2 * q)) ∧ 0 ≤ hv (bt s (2 * q + 1))) (h0 : 0 ≤ hv (bt s j)) (h1 : 0 ≤ hv (bt s (j + 1))) :
    w1.ownsRow w.heap.size e 1 v (k + 1) ((decM s (k + 1)).map (Value.int .u8)) ∧ Below w.heap.size w w1 ∧ (∀ q, q < k + 1 → 0 ≤ hv (bt s (2 * q)) ∧ 0 ≤ hv (bt s (2 * q + 1))) := by
  subst hjk
  refine ⟨decM_next rfl hown2, (hbr.alloc hbr.size o).grown hgrow (by have := hbr.size; simp; omega) (fun j hj => (hown1.lt j hj).1), fun q hq => ?_⟩
  by_cases hqk : q < k
  · exact hall q hqk
  · obtain rfl : q = k := by omega
    exact ⟨h0, h1⟩

theorem hexv_any (c : Int) (h0 : 0 ≤ c) (h1 : c ≤ 255) (w : World) :
    Calls Tryd.prog 27 #[.int .u8 c] w fun e w' => e = .returned (.tuple #[.int .u8 (hvz c), .bool (hok c)]) ∧ w = w' := by
  by_cases a1 : 48 ≤ c <;> by_cases a2 : c ≤ 57 <;> by_cases a3 : 97 ≤ c <;> by_cases a4 : c ≤ 102
  all_goals (try (exfalso; omega))
  all_goals
    go_enter Tryd.func27, Tryd.ntmps27
    go_wp2
    go_ret2
    exact ⟨ret_ib (by unfold hvz hv; omega) (by unfold hok hv; first | exact (decide_eq_true (by omega)).symm | exact (decide_eq_false (by omega)).symm), rfl⟩

theorem impdec_no (s : ByteArray) (w : World) (h1 : ¬ (s.size ≤ 40000 ∧ s.size % 2 = 0)) (hm : s.size ≤ 9223372036854775807) :
    Calls Tryd.prog 12 #[.string s] w (DecPost s w) := by
  by_cases h3 : s.size % 2 = 0
  · have h2' : (s.size : Int) % 2 = 0 := by omega
    go_enter Tryd.func12, Tryd.ntmps12
    go_wp2
    go_ret2
    exact dec_bad (fun h => h1 ⟨h.1, h.2.1⟩) rfl (Below.refl _ _)
  · have h2' : (s.size : Int) % 2 = 1 := by omega
    go_enter Tryd.func12, Tryd.ntmps12
    go_wp2
    go_ret2
    exact dec_bad (fun h => h1 ⟨h.1, h.2.1⟩) rfl (Below.refl _ _)

theorem or_nib {x y : Int} (hx0 : 0 ≤ x) (hx1 : x ≤ 15) (hy0 : 0 ≤ y) (hy1 : y ≤ 15) : bits .or .u8 (x * 16) y = 16 * x + y := by
  obtain ⟨a, rfl⟩ := Int.eq_ofNat_of_zero_le hx0
  obtain ⟨b, rfl⟩ := Int.eq_ofNat_of_zero_le hy0
  have h := u8_or_nat (a * 16) b (by omega) (by omega)
  have h2 : a * 16 ||| b = 16 * a + b := by
    have := Nat.two_pow_add_eq_or_of_lt (i := 4) (b := b) (by omega) a
    rw [Nat.mul_comm a 16]; exact this.symm
  rw [h2] at h
  have e : ((a * 16 : Nat) : Int) = (a : Int) * 16 := by omega
  rw [e] at h
  rw [h]; omega

theorem hok_false {c : Int} (h : hv c < 0) : hok c = false := decide_eq_false (by omega)
theorem hok_true {c : Int} (h : 0 ≤ hv c) : hok c = true := decide_eq_true h
theorem hvz_of {c : Int} (h : 0 ≤ hv c) : hvz c = hv c := if_pos h

set_option maxHeartbeats 1000000 in
theorem impdec_yes (s : ByteArray) (w : World) (h1 : s.size ≤ 40000) (h2 : s.size % 2 = 0) :
    Calls Tryd.prog 12 #[.string s] w (DecPost s w) := by
  obtain ⟨i0, hi, hz0, hz1, hz2⟩ := info_parts info5
  have h2' : (s.size : Int) % 2 = 0 := by omega
  go_enter Tryd.func12, Tryd.ntmps12
  go_wp2_with (at_make; refine wpList_make_own _ rfl _ _ 22 rfl w.heap.size 5 i0 (.int .u8 0) 1 Tryd.underlying22 hi hz0 hz1 _ _ _ (s.size / 2) rfl rfl (by omega) (by rw [hz2]; omega) (by unfold maxLen; omega) (Nat.le_refl _) ?_)
  clear h2'
  intro w1 hown hgrow
  have hb1 : Below w.heap.size w w1 := (Below.refl _ _).grown hgrow (Nat.le_refl _) (by intro k hk; cases hk)
  go_wp2_with fail
  go_loopw [4, 5] (fun v i wr => ∃ j k : Nat, Hid (j = 2 * k) ∧ j ≤ s.size ∧ i = .int .i64 j ∧ wr.ownsRow w.heap.size 5 1 v k ((decM s k).map (Value.int .u8)) ∧ Below w.heap.size w wr ∧
      (∀ q, q < k → 0 ≤ hv (bt s (2 * q)) ∧ 0 ≤ hv (bt s (2 * q + 1))))
    (fun _ i _ => s.size - (intOf i).toNat)
  case atStart => exact ⟨0, 0, rfl, Nat.zero_le _, rfl, hown, hb1, fun q hq => by omega⟩
  case round =>
    obtain ⟨j, k, hjk, hj, rfl, hown1, hbr, hall⟩ := hrel
    have HA := Lib.hid hall; clear hall
    clear hown hgrow hb1
    by_cases hlt : j < s.size
    · have hlt1 : j + 1 < s.size := by have := hjk.out; omega
      have ba := bt_get s j hlt
      have bb := bt_get s (j + 1) hlt1
      have b0 : 0 ≤ bt s j ∧ bt s j ≤ 255 := by have := s[j].toNat_lt; omega
      have b1 : 0 ≤ bt s (j + 1) ∧ bt s (j + 1) ≤ 255 := by have := s[j + 1].toNat_lt; omega
      obtain ⟨b00, b01⟩ := b0
      obtain ⟨b10, b11⟩ := b1
      have v0 := hv_bd (bt s j)
      have v1 := hv_bd (bt s (j + 1))
      by_cases c0 : hv (bt s j) < 0
      · have k0 := hok_false c0
        go_wp2_with (go_at_call 27; refine (hexv_any _ (by omega) (by omega) _).mono ?_; rintro e w' ⟨rfl, rfl⟩)
        go_ret2
        refine dec_bad (fun h => ?_) rfl hbr
        have := (h.2.2 k (by have := hjk.out; omega)).1
        rw [← hjk.out] at this; omega
      · have k0 := hok_true (c := bt s j) (by omega)
        have z0 := hvz_of (c := bt s j) (by omega)
        by_cases c1 : hv (bt s (j + 1)) < 0
        · have k1 := hok_false c1
          go_wp2_with (go_at_call 27; refine (hexv_any _ (by omega) (by omega) _).mono ?_; rintro e w' ⟨rfl, rfl⟩)
          go_ret2
          refine dec_bad (fun h => ?_) rfl hbr
          have := (h.2.2 k (by have := hjk.out; omega)).2
          rw [← hjk.out] at this; omega
        · have k1 := hok_true (c := bt s (j + 1)) (by omega)
          have z1 := hvz_of (c := bt s (j + 1)) (by omega)
          have hor := or_nib (x := hv (bt s j)) (y := hv (bt s (j + 1))) (by omega) (by omega) (by omega) (by omega)
          go_wp2_with (first
            | (go_at_call 27; refine (hexv_any _ (by omega) (by omega) _).mono ?_; rintro e w' ⟨rfl, rfl⟩)
            | (at_builtin; refine wpList_append_own _ rfl _ _ 22 rfl w.heap.size 5 i0 (.int .u8 0) 1 1 Tryd.underlying22 hi hz0 hz1 hz2 rfl (by decide) _ k _ rfl (hown1.alloc _) ⟨wr.heap.size, 0, none⟩ 1 1 [.int .u8 (16 * hv (bt s j) + hv (bt s (j + 1)))] rfl rfl ?c1 ?c2 ?c3 ?c4 ?c5 ?_))
          case c1 => exact World.news_of_block (heap_alloc_new wr _)
          case c2 => simp [Value.oneCell']
          case c3 => have := hjk.out; unfold maxLen; omega
          case c4 => have := hjk.out; omega
          case c5 => have := hbr.size; simp; omega
          intro v' w2 hown2 hgrow _
          obtain ⟨hn1, hn2, hn3⟩ := dec_next hjk.out hbr hown1 hgrow hown2 HA.out (by omega) (by omega)
          clear hown1 hown2 hgrow hbr hor k0 k1 z0 z1
          go_wp2
          go_roundw
          case rel => exact ⟨j + 2, k + 1, (by have := hjk.out; show j + 2 = 2 * (k + 1); omega), by omega, by go_num, hn1, hn2, hn3⟩
          case measure => simp [intOf]; omega
    · have hk2 : s.size / 2 = k := by have := hjk.out; omega
      have hcv := convert_own (P := Tryd.prog) Tryd.underlying22 Tryd.underlying5 hown1 9 Tryd.underlying9
      have HK := Lib.hid hk2; clear hk2
      go_wp2
      go_ret2
      exact dec_good ⟨h1, h2, fun q hq => HA.out q (by have := HK.out; omega)⟩ (by rw [HK.out]; rfl) hbr
theorem impdec_any (s : ByteArray) (w : World) (hm : s.size ≤ 9223372036854775807) : Calls Tryd.prog 12 #[.string s] w (DecPost s w) := by
  by_cases h : s.size ≤ 40000 ∧ s.size % 2 = 0
  · exact impdec_yes s w h.1 h.2
  · exact impdec_no s w h hm
end Go.Proofs.YtidfeffpfcnnlaaDoor
