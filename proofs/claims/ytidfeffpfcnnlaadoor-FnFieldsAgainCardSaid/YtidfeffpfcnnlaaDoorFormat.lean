/- The contracts of FormatInt, of the program and of its model. Condition: the table uint64pow10 of internal/strconv holds its numbers. -/
import Derived.Test.YtidfeffpfcnnlaaDoorBytes
import Derived.Test.YtidfeffpfcnnlaaDoorNum
import Derived.Test.YtidfeffpfcnnlaaDoorShelf
namespace Go.Proofs.YtidfeffpfcnnlaaDoor
open Go.ChangeShapes Go.WideShapes Go.ChangeAt Go.RowKit

/-- What the rows' lists give of the table of powers of ten. -/
def Pow (w : World) : Prop := Lib.TabIs Tryd.prog w "internal/strconv.uint64pow10" .u64 Lib.pow10Tab
theorem gPow : Tryd.prog.globalNamed "internal/strconv.uint64pow10" = some 2 := by kernel_rfl
theorem var_below {n : String} {cs : Array Value} {w w' : World} (h : w.var? Tryd.prog n = some cs) (hb : Below w.heap.size w w') : w'.var? Tryd.prog n = some cs := by
  unfold World.var? at h ⊢
  cases hg : Tryd.prog.globalNamed n with
  | none => rw [hg] at h; cases h
  | some g =>
    rw [hg] at h
    simp only [Option.bind_some] at h ⊢
    have hlt : g < w.heap.size := by
      by_cases hlt : g < w.heap.size
      · exact hlt
      · rw [Array.getElem?_eq_none (by omega)] at h; cases h
    rw [hb.block g hlt]; exact h
theorem Pow.below {w w' : World} (h : Pow w) (hb : Below w.heap.size w w') : Pow w' := var_below h hb
theorem below_grow (w : World) (k : Nat) (os : Array Obj) : Below w.heap.size w (Sort.grow (w.drewN k) os) :=
  ⟨rfl, rfl, rfl, by simp [Sort.grow, World.drewN], fun i hi => by
    show (w.heap ++ os)[i]? = w.heap[i]?
    rw [Array.getElem?_append_left hi]⟩

theorem fmt_any (n : Int) (h0 : -9223372036854775808 ≤ n) (h1 : n ≤ 9223372036854775807) (w : World) (hT : Pow w) :
    Calls Tryd.prog 11 #[.int .i64 n] w fun e w' => e = .returned (.string (strL (Lib.itoa n))) ∧ Below w.heap.size w w' := by
  have HT := Lib.hid hT; clear hT
  go_enter Tryd.func11, Tryd.ntmps11
  go_wp2_with fail
  refine (Tryd.strconv_Itoa n h0 h1 _ HT.out).mono ?_
  rintro e w' ⟨rfl, k, os, rfl⟩
  have hb := below_grow w k os
  go_wp2
  go_ret
  exact ⟨rfl, hb⟩

def digs (m : Nat) (acc : List UInt8) : List UInt8 := if m = 0 then acc else Lib.decDigits m ++ acc
def fch (m : Nat) : UInt8 := UInt8.ofNat (48 + m % 10)
theorem digs_step {m : Nat} (h : 0 < m) (acc : List UInt8) : digs (m / 10) (fch m :: acc) = digs m acc := by
  unfold digs fch
  rw [if_neg (show ¬ m = 0 by omega)]
  by_cases h10 : m < 10
  · rw [if_pos (by omega), Lib.decDigits_one h10]
    have : m % 10 = m := by omega
    rw [this]; rfl
  · rw [if_neg (by omega), decDigits_big h10, List.append_assoc]; rfl
theorem digs_len {m : Nat} {acc l : List UInt8} (h : digs m acc = l) : acc.length ≤ l.length := by
  subst h; unfold digs; split <;> simp

/-- One figure, made into a string. -/
theorem fig_str {w : World} {m r : Nat} (hr : m % 10 = r) :
    ∀ dst, Tryd.prog.underlying dst = some .string → (convert 22 dst (.slice (some ⟨w.heap.size, 0, none⟩) 1 1)).run Tryd.prog (w.alloc (.cells #[.int .u8 (figI (r : Int))] 5)) = .ok (.string (strL [fch m])) (w.alloc (.cells #[.int .u8 (figI (r : Int))] 5)) := by
  intro dst hd
  have h := run_convert_bytes_arg (P := Tryd.prog) (w.alloc (.cells #[.int .u8 (figI (r : Int))] 5)) 22 5 Tryd.underlying22 Tryd.underlying5 w.heap.size 0 1 1 [figI (r : Int)] rfl
    (fun i hi => by obtain rfl : i = 0 := (by omega); exact World.news_of_block (heap_alloc_new w (.cells #[.int .u8 (figI (r : Int))] 5)) 0 _ rfl) dst hd
  have hs : strOfNums [figI (r : Int)] = strL [fch m] := by
    unfold strOfNums strL fch figI figN
    have e : (if ((r : Int).toNat) < 10 then (48 : Int) + ((r : Int).toNat : Nat) else 87 + ((r : Int).toNat : Nat)).toNat = 48 + m % 10 := by
      rw [if_pos (by omega)]; omega
    simp only [List.map_cons, List.map_nil, e]
  rw [hs] at h; exact h

set_option maxHeartbeats 1000000 in
theorem specfmt_any (n : Int) (h0 : -9223372036854775808 ≤ n) (h1 : n ≤ 9223372036854775807) (w : World) :
    Calls Tryd.prog 19 #[.int .i64 n] w fun e w' => e = .returned (.string (strL (Lib.itoa n))) ∧ Below w.heap.size w w' := by
  by_cases hz : n = 0
  · subst hz
    go_enter Tryd.func19, Tryd.ntmps19
    go_wp2
    go_ret
    exact ⟨by rw [show Lib.itoa 0 = [48] from by unfold Lib.itoa; rw [if_neg (by decide)]; exact Lib.decDigits_one (by decide)]; rfl, Below.refl _ _⟩
  · have hlen := Lib.itoa_length_le n h0 h1
    by_cases hneg : n < 0
    · have hd0 : (n == 0) = false := by simp [hz]
      have hit : Lib.itoa n = 45 :: Lib.decDigits n.natAbs := by unfold Lib.itoa; rw [if_pos hneg]
      have HIT := Lib.hid hit; clear hit
      go_enter Tryd.func19, Tryd.ntmps19
      go_wp2
      clear hd0
      go_loopw [0, 4, 5] (fun v0 v4 v5 wr => ∃ (m : Nat) (acc : List UInt8), m ≤ 9223372036854775808 ∧ v0 = .int .i64 (-(m : Int)) ∧ v4 = .string (strL acc) ∧ Hid (digs m acc = Lib.decDigits n.natAbs) ∧ Below w.heap.size w wr)
        (fun v0 _ _ _ => (intOf v0).natAbs)
      case atStart => exact ⟨n.natAbs, [], by omega, by congr 1; omega, rfl, (show digs n.natAbs [] = Lib.decDigits n.natAbs from by unfold digs; rw [if_neg (by omega)]; simp), Below.refl _ _⟩
      case round =>
        obtain ⟨m, acc, hm, rfl, rfl, hdg, hbr⟩ := hrel
        have hsz := strL_size acc
        have hal : acc.length ≤ 30 := by
          have := digs_len hdg.out
          have h2 := HIT.out
          rw [h2] at hlen
          simp only [List.length_cons] at hlen
          omega
        by_cases hm0 : 0 < m
        · obtain ⟨r, hr⟩ : ∃ r, m % 10 = r := ⟨_, rfl⟩
          obtain ⟨q, hq⟩ : ∃ q, m / 10 = q := ⟨_, rfl⟩
          have hr9 : r ≤ 9 := by omega
          have hqm : q < m := by omega
          have hq9 : q ≤ 922337203685477580 := by omega
          have e1 : (-(m : Int)).tmod 10 = -(r : Int) := by rw [Int.neg_tmod, Int.tmod_eq_emod_of_nonneg (by omega)]; omega
          have e2 : (-(m : Int)).tdiv 10 = -(q : Int) := by rw [Int.neg_tdiv, Int.tdiv_eq_ediv_of_nonneg (by omega)]; omega
          have e3 : ((-(m : Int)) != 0) = true := by simp; omega
          have hcv := fig_str (w := wr) hr 9 Tryd.underlying9
          have ha := strL_append [fch m] acc
          have hs2 : (strL [fch m]).size = 1 := by rw [strL_size]; rfl
          have hd := digs_step hm0 acc
          rw [hdg.out, hq] at hd
          have HD := Lib.hid hd; clear hd
          have HR := Lib.hid hr; clear hr
          have HQ := Lib.hid hq; clear hq
          by_cases hr0 : r = 0
          · subst hr0
            rw [show ((0 : Nat) : Int) = 0 from rfl] at hcv e1
            go_wp2_with (go_at_call 31; refine (figI_any _ (by omega) (by omega) _).mono ?_; rintro e w1 ⟨rfl, rfl⟩)
            go_roundw
            case rel => exact ⟨q, fch m :: acc, by omega, by go_num, rfl, HD.out, hbr.alloc hbr.size _⟩
            case measure => simp [intOf]; omega
          · go_wp2_with (go_at_call 31; refine (figI_any _ (by omega) (by omega) _).mono ?_; rintro e w1 ⟨rfl, rfl⟩)
            go_roundw
            case rel => exact ⟨q, fch m :: acc, by omega, by go_num, rfl, HD.out, hbr.alloc hbr.size _⟩
            case measure => simp [intOf]; omega
        · obtain rfl : m = 0 := by omega
          have hd : digs 0 acc = acc := if_pos rfl
          rw [hdg.out] at hd
          have HD := Lib.hid hd; clear hd
          have e3 : ((-((0 : Nat) : Int)) != 0) = false := rfl
          have ha : ({ data := #[45] } : ByteArray) ++ strL acc = strL (45 :: acc) := strL_append [45] acc
          go_wp2
          go_ret
          exact ⟨by rw [HIT.out, HD.out]; rfl, hbr⟩
    · have hd0 : (n == 0) = false := by simp [hz]
      have hit : Lib.itoa n = Lib.decDigits n.natAbs := by
        unfold Lib.itoa; rw [if_neg hneg]; congr 1; omega
      have HIT := Lib.hid hit; clear hit
      go_enter Tryd.func19, Tryd.ntmps19
      go_wp2
      clear hd0
      go_loopw [0, 4, 5] (fun v0 v4 v5 wr => ∃ (m : Nat) (acc : List UInt8), m ≤ 9223372036854775807 ∧ v0 = .int .i64 (m : Int) ∧ v4 = .string (strL acc) ∧ Hid (digs m acc = Lib.decDigits n.natAbs) ∧ Below w.heap.size w wr)
        (fun v0 _ _ _ => (intOf v0).natAbs)
      case atStart => exact ⟨n.natAbs, [], by omega, by congr 1; omega, rfl, (show digs n.natAbs [] = Lib.decDigits n.natAbs from by unfold digs; rw [if_neg (by omega)]; simp), Below.refl _ _⟩
      case round =>
        obtain ⟨m, acc, hm, rfl, rfl, hdg, hbr⟩ := hrel
        have hsz := strL_size acc
        have hal : acc.length ≤ 30 := by
          have := digs_len hdg.out
          have h2 := HIT.out
          rw [h2] at hlen
          skip
          omega
        by_cases hm0 : 0 < m
        · obtain ⟨r, hr⟩ : ∃ r, m % 10 = r := ⟨_, rfl⟩
          obtain ⟨q, hq⟩ : ∃ q, m / 10 = q := ⟨_, rfl⟩
          have hr9 : r ≤ 9 := by omega
          have hqm : q < m := by omega
          have hq9 : q ≤ 922337203685477580 := by omega
          have e3 : ((m : Int) != 0) = true := by simp; omega
          have e4 : (m : Int) % 10 = (r : Int) := by omega
          have e5 : (m : Int) / 10 = (q : Int) := by omega
          have hcv := fig_str (w := wr) hr 9 Tryd.underlying9
          have ha := strL_append [fch m] acc
          have hs2 : (strL [fch m]).size = 1 := by rw [strL_size]; rfl
          have hd := digs_step hm0 acc
          rw [hdg.out, hq] at hd
          have HD := Lib.hid hd; clear hd
          have HR := Lib.hid hr; clear hr
          have HQ := Lib.hid hq; clear hq
          go_wp2_with (go_at_call 31; refine (figI_any _ (by omega) (by omega) _).mono ?_; rintro e w1 ⟨rfl, rfl⟩)
          go_roundw
          case rel => exact ⟨q, fch m :: acc, by omega, by go_num, rfl, HD.out, hbr.alloc hbr.size _⟩
          case measure => simp [intOf]; omega
        · obtain rfl : m = 0 := by omega
          have hd : digs 0 acc = acc := if_pos rfl
          rw [hdg.out] at hd
          have HD := Lib.hid hd; clear hd
          have e3 : ((((0 : Nat) : Int)) != 0) = false := rfl
          go_wp2
          go_ret
          exact ⟨by rw [HIT.out, HD.out]; rfl, hbr⟩
end Go.Proofs.YtidfeffpfcnnlaaDoor
