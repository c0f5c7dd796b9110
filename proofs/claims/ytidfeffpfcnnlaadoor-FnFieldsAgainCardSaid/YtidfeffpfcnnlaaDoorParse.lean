/- The contracts of ParseUint, of the program and of its model. Condition: the table uint64pow10 of internal/strconv and the variables ErrSyntax and ErrRange of strconv hold what their initialisers lay. -/
import Derived.Test.YtidfeffpfcnnlaaDoorFormat
namespace Go.Proofs.YtidfeffpfcnnlaaDoor
open Go.ChangeShapes Go.WideShapes Go.ChangeAt Go.RowKit

/-- What the rows' lists give of the two errors. -/
def Errs (w : World) : Prop := ∃ p q : TypeId × Value, w.var? Tryd.prog "strconv.ErrSyntax" = some #[.iface p.1 p.2] ∧ w.var? Tryd.prog "strconv.ErrRange" = some #[.iface q.1 q.2]
theorem Errs.below {w w' : World} (h : Errs w) (hb : Below w.heap.size w w') : Errs w' := by
  obtain ⟨p, q, h1, h2⟩ := h
  exact ⟨p, q, var_below h1 hb, var_below h2 hb⟩
def ParsePost (s : ByteArray) (w : World) (e : Ending) (w' : World) : Prop := e = .returned (.tuple #[.int .i64 (parseR s).1, .bool (parseR s).2]) ∧ Below w.heap.size w w'
theorem parse_yes {s : ByteArray} {w : World} {e : Ending} {w' : World} {n : Int} (h : Numeral s n) (he : e = .returned (.tuple #[.int .i64 n, .bool true])) (hb : Below w.heap.size w w') : ParsePost s w e w' := by
  refine ⟨?_, hb⟩; rw [parseR_ok h]; exact he
theorem parse_no {s : ByteArray} {w : World} {e : Ending} {w' : World} (h : ¬ ∃ n, Numeral s n) (he : e = .returned (.tuple #[.int .i64 0, .bool false])) (hb : Below w.heap.size w w') : ParsePost s w e w' := by
  refine ⟨?_, hb⟩; rw [parseR_no h]; exact he
theorem bstep {w a b : World} (h : Below w.heap.size w a) (k : Below a.heap.size a b) : Below w.heap.size w b := h.trans (k.mono h.size)
theorem strL_of {s : ByteArray} : strL s.data.toList = s := by
  unfold strL; exact ByteArray.ext (by simp)

theorem str_ne {a b : ByteArray} (h : a ≠ b) : (a.toList == b.toList) = false := by
  rw [ByteArray.toList_eq, ByteArray.toList_eq]; exact beq_eq_false_iff_ne.2 (fun e => h (ByteArray.ext (Array.ext' e)))

set_option maxHeartbeats 1000000 in
theorem impparse_any (s : ByteArray) (hs : s.size ≤ 281474976710656) (w : World) (hT : Pow w) (hE : Errs w) :
    Calls Tryd.prog 14 #[.string s] w (ParsePost s w) := by
  have HT := Lib.hid hT; clear hT
  cases hat : Lib.atoiAll s.data.toList with
  | ok v =>
    have hbd := Lib.atoiAll_bounds hat
    have hno : ¬ Numeral s v → ¬ ∃ n, Numeral s n := fun h ⟨n, hn⟩ => by
      have := hn.atoi; rw [hat] at this
      have e : v = n := by injection this
      exact h (e ▸ hn)
    have HNO := Lib.hid hno; clear hno
    have HAT := Lib.hid hat; clear hat
    obtain ⟨hb0, hb1⟩ := hbd
    go_enter Tryd.func14, Tryd.ntmps14
    go_wp2_with fail
    refine (Tryd.strconv_Atoi_ok s (by omega) v HAT.out _).mono ?_
    rintro e w1 ⟨rfl, hw1⟩
    have hb1' : Below w.heap.size w w1 := by
      rcases hw1 with rfl | ⟨t, rfl⟩
      · exact Below.refl _ _
      · exact Lib.bytesWorld_below _ _ _
    clear hw1
    by_cases c0 : v < 0
    · go_wp2
      go_ret2
      exact parse_no (HNO.out fun h => by have := h.1; omega) rfl hb1'
    · by_cases c1 : 1000000000 < v
      · go_wp2
        go_ret2
        exact parse_no (HNO.out fun h => by have := h.2.1; omega) rfl hb1'
      · by_cases c2 : s.data.toList = Lib.itoa v
        · have hstr : strL (Lib.itoa v) = s := by rw [← c2]; exact strL_of
          have hnum : Numeral s v := ⟨by omega, by omega, c2⟩
          have HN := Lib.hid hnum; clear hnum c2
          go_wp2_with (go_at_call 11; refine (fmt_any v hb0 hb1 _ (HT.out.below hb1')).mono ?_; rintro e w2 ⟨rfl, hb2⟩)
          go_ret2
          exact parse_yes HN.out rfl (bstep hb1' hb2)
        · have hne : ((strL (Lib.itoa v)).toList == s.toList) = false := str_ne fun e => c2 (by rw [← e]; rfl)
          have hnum := HNO.out fun h => c2 h.2.2
          have HN := Lib.hid hnum; clear hnum c2
          go_wp2_with (go_at_call 11; refine (fmt_any v hb0 hb1 _ (HT.out.below hb1')).mono ?_; rintro e w2 ⟨rfl, hb2⟩)
          go_ret2
          exact parse_no HN.out rfl (bstep hb1' hb2)
  | «syntax» =>
    have hno : ¬ ∃ n, Numeral s n := fun ⟨n, hn⟩ => by have := hn.atoi; rw [hat] at this; cases this
    have HNO := Lib.hid hno; clear hno
    have HAT := Lib.hid hat; clear hat
    obtain ⟨p, q, he1, he2⟩ := hE
    have HE1 := Lib.hid he1; clear he1
    clear he2
    go_enter Tryd.func14, Tryd.ntmps14
    go_wp2_with fail
    refine (Tryd.strconv_Atoi_syntax_var s hs HAT.out p.1 p.2 _ HE1.out).mono ?_
    rintro e w1 ⟨N, rfl, -, -, hb1⟩
    go_wp2
    go_ret2
    exact parse_no HNO.out rfl hb1
  | range =>
    have hno : ¬ ∃ n, Numeral s n := fun ⟨n, hn⟩ => by have := hn.atoi; rw [hat] at this; cases this
    have HNO := Lib.hid hno; clear hno
    have HAT := Lib.hid hat; clear hat
    obtain ⟨p, q, he1, he2⟩ := hE
    have HE2 := Lib.hid he2; clear he2
    clear he1
    go_enter Tryd.func14, Tryd.ntmps14
    go_wp2_with fail
    refine (Tryd.strconv_Atoi_range_var s hs HAT.out q.1 q.2 _ HE2.out).mono ?_
    rintro e w1 ⟨N, rfl, -, -, hb1⟩
    go_wp2
    go_ret2
    exact parse_no HNO.out rfl hb1

theorem dval {s : ByteArray} {k : Nat} (hk : k < s.size) {m : Nat} (hd : Lib.decFrom 0 (s.data.toList.take k) = some m) (h1 : 48 ≤ s[k].toNat) (h2 : s[k].toNat ≤ 57) :
    Lib.decFrom 0 (s.data.toList.take (k + 1)) = some (m * 10 + (s[k].toNat - 48)) := by
  rw [take_snoc s k hk]
  exact decFrom_snoc _ _ _ _ _ hd (by unfold Lib.digitVal; rw [if_pos ⟨h1, h2⟩])

set_option maxHeartbeats 1000000 in
theorem specparse_any (s : ByteArray) (hs : s.size ≤ 281474976710656) (w : World) :
    Calls Tryd.prog 20 #[.string s] w (ParsePost s w) := by
  have hsz : s.data.toList.length = s.size := by simp
  have HSZ := Lib.hid hsz; clear hsz
  by_cases h10 : 10 < s.size
  · have hno : ¬ ∃ n, Numeral s n := fun ⟨n, hn⟩ => by have := hn.digits.2.1; rw [HSZ.out] at this; omega
    have HNO := Lib.hid hno; clear hno
    go_enter Tryd.func20, Tryd.ntmps20
    go_wp2
    go_ret2
    exact parse_no HNO.out rfl (Below.refl _ _)
  · go_enter Tryd.func20, Tryd.ntmps20
    go_wp2
    go_loop [4, 5] (fun v4 v5 => ∃ k m : Nat, k ≤ s.size ∧ v5 = .int .i64 k ∧ v4 = .int .i64 m ∧ Hid (Lib.decFrom 0 (s.data.toList.take k) = some m) ∧ m < 10 ^ k) (fun _ v5 => s.size - (intOf v5).toNat)
    case atStart => exact ⟨0, 0, Nat.zero_le _, rfl, rfl, rfl, by decide⟩
    case round =>
      obtain ⟨k, m, hk, rfl, rfl, hd, hm⟩ := hrel
      have hm10 : m < 10000000000 := Nat.lt_of_lt_of_le hm (Nat.pow_le_pow_right (by decide) (show k ≤ 10 by omega))
      have HM := Lib.hid hm; clear hm
      by_cases hlt : k < s.size
      · have hbad : ¬ (48 ≤ s[k].toNat ∧ s[k].toNat ≤ 57) → ¬ ∃ n, Numeral s n := fun h ⟨n, hn⟩ => by
          have := decFrom_all _ _ _ hn.digits.1 s[k] (by
            have : s[k] = s.data.toList[k]'(by rw [HSZ.out]; exact hlt) := rfl
            rw [this]; exact List.getElem_mem _)
          exact h this
        have HB := Lib.hid hbad; clear hbad
        by_cases c1 : s[k].toNat < 48
        · have hno := HB.out (by omega)
          have HNO := Lib.hid hno; clear hno
          go_wp2
          go_ret2
          exact parse_no HNO.out rfl (Below.refl _ _)
        · by_cases c2 : 57 < s[k].toNat
          · have hno := HB.out (by omega)
            have HNO := Lib.hid hno; clear hno
            go_wp2
            go_ret2
            exact parse_no HNO.out rfl (Below.refl _ _)
          · have hd1 := dval hlt hd.out (by omega) (by omega)
            have HD1 := Lib.hid hd1; clear hd1
            have hm1 : m * 10 + (s[k].toNat - 48) < 10 ^ (k + 1) := by have := HM.out; rw [Nat.pow_succ]; omega
            have HM1 := Lib.hid hm1; clear hm1
            go_wp2
            go_round
            case rel => exact ⟨k + 1, m * 10 + (s[k].toNat - 48), by omega, by go_num, by congr 1; omega, HD1.out, HM1.out⟩
            case measure => simp [intOf]; omega
      · obtain rfl : k = s.size := by omega
        have hall : Lib.decFrom 0 s.data.toList = some m := by have := hd.out; rwa [List.take_of_length_le (by rw [HSZ.out]; exact Nat.le_refl _)] at this
        have hone : ∀ n, Numeral s n → n = m := fun n hn => by
          have := hn.digits.1; rw [hall] at this
          have e := Option.some.inj this
          have := hn.1; omega
        have HONE := Lib.hid hone; clear hone hall
        by_cases c1 : 1000000000 < m
        · have hno : ¬ ∃ n, Numeral s n := fun ⟨n, hn⟩ => by have := HONE.out n hn; have := hn.2.1; omega
          have HNO := Lib.hid hno; clear hno
          go_wp2
          go_ret2
          exact parse_no HNO.out rfl (Below.refl _ _)
        · by_cases c2 : s.data.toList = Lib.itoa m
          · have hstr : strL (Lib.itoa m) = s := by rw [← c2]; exact strL_of
            have hnum : Numeral s m := ⟨by omega, by omega, c2⟩
            have HN := Lib.hid hnum; clear hnum c2
            go_wp2_with (go_at_call 19; refine (specfmt_any m (by omega) (by omega) _).mono ?_; rintro e w2 ⟨rfl, hb2⟩)
            go_ret2
            exact parse_yes HN.out rfl hb2
          · have hne : ((strL (Lib.itoa m)).toList == s.toList) = false := str_ne fun e => c2 (by rw [← e]; rfl)
            have hno : ¬ ∃ n, Numeral s n := fun ⟨n, hn⟩ => c2 (by have := HONE.out n hn; rw [← this]; exact hn.2.2)
            have HN := Lib.hid hno; clear hno c2
            go_wp2_with (go_at_call 19; refine (specfmt_any m (by omega) (by omega) _).mono ?_; rintro e w2 ⟨rfl, hb2⟩)
            go_ret2
            exact parse_no HN.out rfl hb2
end Go.Proofs.YtidfeffpfcnnlaaDoor
