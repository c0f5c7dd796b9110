/- The contract of SplitFields, of its model. No condition. -/
import Derived.Test.YtidfeffpfcnnlaaDoorSplit
namespace Go.Proofs.YtidfeffpfcnnlaaDoor
open Go.ChangeShapes Go.WideShapes Go.ChangeAt Go.RowKit

def SplitRel (s : ByteArray) (w : World) (v4 v5 v6 : Value) (wr : World) : Prop :=
  (∃ k bg : Nat, k ≤ s.size ∧ bg ≤ k ∧ v6 = .int .i64 k ∧ v5 = .int .i64 bg ∧ (scanF (s.data.toList.take k)).2 = (s.data.toList.take k).drop bg ∧
    wr.ownsRow w.heap.size 9 1 v4 (scanF (s.data.toList.take k)).1.length ((scanF (s.data.toList.take k)).1.map strV) ∧ Below w.heap.size w wr ∧ (∀ j (h : j < s.size), j < k → okB s[j])) ∨
  (∃ y : Int, v6 = .int .i64 ((s.size + 1 : Nat) : Int) ∧ v5 = .int .i64 y ∧
    wr.ownsRow w.heap.size 9 1 v4 (finF (scanF s.data.toList)).length ((finF (scanF s.data.toList)).map strV) ∧ Below w.heap.size w wr ∧ (∀ j (h : j < s.size), okB s[j]))

theorem extract_strL (s : ByteArray) (bg k : Nat) : s.extract bg k = strL ((s.data.toList.take k).drop bg) := by
  unfold strL
  apply ByteArray.ext
  rw [ByteArray.data_extract]
  apply Array.ext'
  simp only [Array.toList_extract, List.extract_eq_take_drop]
  rw [List.drop_take]

theorem drop_len (s : ByteArray) (bg k : Nat) (h2 : k ≤ s.size) : ((s.data.toList.take k).drop bg).length = k - bg := by
  rw [List.length_drop, List.length_take]
  have : s.data.toList.length = s.size := by simp
  omega

theorem spec_cont {s : ByteArray} {w wr : World} {k bg : Nat} {v4 : Value} (hlt : k < s.size) (hbg : bg ≤ k) (h32 : s[k].toNat ≠ 32) (hcur : (scanF (s.data.toList.take k)).2 = (s.data.toList.take k).drop bg)
    (h4 : wr.ownsRow w.heap.size 9 1 v4 (scanF (s.data.toList.take k)).1.length ((scanF (s.data.toList.take k)).1.map strV)) (hbr : Below w.heap.size w wr) (hall : ∀ j (h : j < s.size), j < k + 1 → okB s[j]) :
    SplitRel s w v4 (.int .i64 bg) (.int .i64 ((k + 1 : Nat) : Int)) wr := by
  have hne : s[k] ≠ 32 := fun e => h32 (by rw [e]; rfl)
  have e1 : scanF (s.data.toList.take (k + 1)) = ((scanF (s.data.toList.take k)).1, (scanF (s.data.toList.take k)).2 ++ [s[k]]) := by
    rw [scan_succ s k hlt]; unfold stepF; rw [if_neg hne]
  refine Or.inl ⟨k + 1, bg, hlt, by omega, rfl, rfl, ?_, by rw [e1]; exact h4, hbr, hall⟩
  rw [e1, hcur, take_snoc s k hlt, List.drop_append_of_le_length (by rw [List.length_take]; have : s.data.toList.length = s.size := by simp
                                                                     omega)]

theorem spec_sep {s : ByteArray} {w wr : World} {k : Nat} {v4 : Value} (hlt : k < s.size) (h32 : s[k].toNat = 32) {n : Nat} {xs : List Value}
    (hx : xs = (finF (scanF (s.data.toList.take k))).map strV)
    (h4 : wr.ownsRow w.heap.size 9 1 v4 n xs) (hbr : Below w.heap.size w wr) (hall : ∀ j (h : j < s.size), j < k + 1 → okB s[j]) :
    SplitRel s w v4 (.int .i64 ((k + 1 : Nat) : Int)) (.int .i64 ((k + 1 : Nat) : Int)) wr := by
  have he : s[k] = 32 := UInt8.toNat_inj.1 (by rw [h32]; rfl)
  have e1 : scanF (s.data.toList.take (k + 1)) = (finF (scanF (s.data.toList.take k)), []) := by
    rw [scan_succ s k hlt]; unfold stepF finF; rw [if_pos he]
    by_cases h0 : (scanF (s.data.toList.take k)).2 = []
    · rw [if_pos h0, if_pos h0]
    · rw [if_neg h0, if_neg h0]
  have hn : xs.length = n := by simpa using h4.1
  subst hn; subst hx
  refine Or.inl ⟨k + 1, k + 1, hlt, Nat.le_refl _, rfl, rfl, ?_, ?_, hbr, hall⟩
  · rw [e1]; exact (List.length_eq_zero_iff.1 (by rw [drop_len s _ _ hlt]; omega)).symm
  · rw [e1]; simpa using h4

theorem spec_last {s : ByteArray} {w wr : World} {v4 : Value} {n : Nat} {xs : List Value} (y : Int)
    (hx : xs = (finF (scanF (s.data.toList.take s.size))).map strV)
    (h4 : wr.ownsRow w.heap.size 9 1 v4 n xs) (hbr : Below w.heap.size w wr) (hall : ∀ j (h : j < s.size), j < s.size → okB s[j]) :
    SplitRel s w v4 (.int .i64 y) (.int .i64 ((s.size + 1 : Nat) : Int)) wr := by
  have hfull : s.data.toList.take s.size = s.data.toList := List.take_of_length_le (by simp)
  rw [hfull] at hx
  have hn : xs.length = n := by simpa using h4.1
  subst hn; subst hx
  exact Or.inr ⟨y, rfl, rfl, by simpa using h4, hbr, fun j h => hall j h h⟩

theorem fin_app {s : ByteArray} {k bg : Nat} (hbg : bg < k) (hk : k ≤ s.size) (hcur : (scanF (s.data.toList.take k)).2 = (s.data.toList.take k).drop bg) :
    (scanF (s.data.toList.take k)).1.map strV ++ [.string (s.extract bg k)] = (finF (scanF (s.data.toList.take k))).map strV := by
  have h0 : (scanF (s.data.toList.take k)).2 ≠ [] := fun e => by
    have := drop_len s bg k hk
    rw [← hcur, e] at this; simp at this; omega
  unfold finF
  rw [if_neg h0, List.map_append, extract_strL s bg k, ← hcur]; rfl
theorem fin_skip {s : ByteArray} {k bg : Nat} (hbg : ¬ bg < k) (hk : k ≤ s.size) (hcur : (scanF (s.data.toList.take k)).2 = (s.data.toList.take k).drop bg) :
    (scanF (s.data.toList.take k)).1.map strV = (finF (scanF (s.data.toList.take k))).map strV := by
  have h0 : (scanF (s.data.toList.take k)).2 = [] := List.length_eq_zero_iff.1 (by rw [hcur, drop_len s bg k hk]; omega)
  unfold finF
  rw [if_pos h0]

set_option maxHeartbeats 2000000 in
theorem specsplit_yes (s : ByteArray) (w : World) (h1 : s.size ≤ 600) :
    Calls Tryd.prog 17 #[.string s] w (SplitPost s w) := by
  obtain ⟨j0, hj, hy0, hy1, hy2⟩ := info_parts info9
  go_enter Tryd.func17, Tryd.ntmps17
  go_wp2
  go_loopw [4, 5, 6] (fun v4 v5 v6 wr => SplitRel s w v4 v5 v6 wr) (fun _ _ v6 _ => s.size + 1 - (intOf v6).toNat)
  case atStart => exact Or.inl ⟨0, 0, Nat.zero_le _, Nat.zero_le _, rfl, rfl, rfl, World.ownsRow_made w #[] 0 (Nat.le_refl _) (by simp) rfl, (Below.refl _ _).alloc (Nat.le_refl _) _, fun j h hj => by omega⟩
  case round =>
    rcases hrel with ⟨k, bg, hk, hbg, rfl, rfl, hcur, h4, hbr, hall⟩ | ⟨y, rfl, rfl, h4, hbr, hall⟩
    · have HA := Lib.hid hall; clear hall
      have HCUR := Lib.hid hcur; clear hcur
      have hsl := scan_len (s.data.toList.take k)
      have htk : (s.data.toList.take k).length ≤ k := List.length_take_le _ _
      by_cases hlt : k < s.size
      · by_cases c1 : s[k].toNat < 32
        · have hbad : ¬ (s.size ≤ 600 ∧ (∀ k (h : k < s.size), okB s[k]) ∧ (finF (scanF s.data.toList)).length ≤ 24) := fun h => by have := h.2.1 k hlt; unfold okB at this; omega
          have HB := Lib.hid hbad; clear hbad
          go_wp2
          go_ret2
          exact split_bad HB.out rfl (World.ownsRow_made wr #[] 0 hbr.size (by simp) rfl) (hbr.alloc hbr.size _)
        · by_cases c2 : 126 < s[k].toNat
          · have hbad : ¬ (s.size ≤ 600 ∧ (∀ k (h : k < s.size), okB s[k]) ∧ (finF (scanF s.data.toList)).length ≤ 24) := fun h => by have := h.2.1 k hlt; unfold okB at this; omega
            have HB := Lib.hid hbad; clear hbad
            go_wp2
            go_ret2
            exact split_bad HB.out rfl (World.ownsRow_made wr #[] 0 hbr.size (by simp) rfl) (hbr.alloc hbr.size _)
          · have hall1 : ∀ j (h : j < s.size), j < k + 1 → okB s[j] := fun j h hj => by
              by_cases hjk : j < k
              · exact HA.out j h hjk
              · obtain rfl : j = k := by omega
                unfold okB; omega
            have HA1 := Lib.hid hall1; clear hall1
            by_cases c3 : s[k].toNat = 32
            · have HC3 := Lib.hid c3
              have c3' : (s[k].toNat : Int) = 32 := by omega
              clear c3
              by_cases hbk : bg < k
              · have hfa := fin_app hbk hk HCUR.out
                have HFA := Lib.hid hfa; clear hfa
                go_wp2_with (at_builtin; refine wpList_append_own _ rfl _ _ 31 rfl w.heap.size 9 j0 (.string ByteArray.empty) 1 16 Tryd.underlying31 hj hy0 hy1 hy2 rfl (by decide) _ (scanF (s.data.toList.take k)).1.length _ rfl (h4.alloc _) ⟨wr.heap.size, 0, none⟩ 1 1 [.string (s.extract bg k)] rfl rfl ?c1 ?c2 ?c3 ?c4 ?c5 ?_)
                case c1 => first | exact World.news_of_block (heap_alloc_new wr _) | exact fun _ _ h => h
                case c2 => first | (simp [Value.oneCell']; done) | simp [Value.oneCell', strV]
                case c3 => unfold maxLen; omega
                case c4 => omega
                case c5 => have := hbr.size; simp; omega
                intro v' w1 hown hgrow _
                have hb1 := (hbr.alloc hbr.size _).grown hgrow (by have := hbr.size; simp; omega) (fun j hj => (h4.lt j hj).1)
                have hn := spec_sep hlt HC3.out HFA.out hown hb1 HA1.out
                clear hown hgrow hbr hb1
                go_wp2
                go_roundw
                case rel => exact hn
                case measure => first | (simp [intOf]; done) | (simp [intOf]; omega)
              · have hn := spec_sep hlt HC3.out (fin_skip hbk hk HCUR.out) h4 hbr HA1.out
                clear h4 hbr
                go_wp2
                go_roundw
                case rel => exact hn
                case measure => first | (simp [intOf]; done) | (simp [intOf]; omega)
            · have c3' : ((s[k].toNat : Int) == 32) = false := by simp; omega
              have c3'' : ((s[k].toNat : Int) != 32) = true := by simp; omega
              have HC3 := Lib.hid c3; clear c3
              have hn := spec_cont hlt hbg HC3.out HCUR.out h4 hbr HA1.out
              clear h4 hbr
              go_wp2
              go_roundw
              case rel => exact hn
              case measure => first | (simp [intOf]; done) | (simp [intOf]; omega)
      · obtain rfl : k = s.size := by omega
        by_cases hbk : bg < s.size
        · have hfa := fin_app hbk hk HCUR.out
          have HFA := Lib.hid hfa; clear hfa
          go_wp2_with (at_builtin; refine wpList_append_own _ rfl _ _ 31 rfl w.heap.size 9 j0 (.string ByteArray.empty) 1 16 Tryd.underlying31 hj hy0 hy1 hy2 rfl (by decide) _ (scanF (s.data.toList.take s.size)).1.length _ rfl (h4.alloc _) ⟨wr.heap.size, 0, none⟩ 1 1 [.string (s.extract bg s.size)] rfl rfl ?c1 ?c2 ?c3 ?c4 ?c5 ?_)
          case c1 => first | exact World.news_of_block (heap_alloc_new wr _) | exact fun _ _ h => h
          case c2 => first | (simp [Value.oneCell']; done) | simp [Value.oneCell', strV]
          case c3 => unfold maxLen; omega
          case c4 => omega
          case c5 => have := hbr.size; simp; omega
          intro v' w1 hown hgrow _
          have hb1 := (hbr.alloc hbr.size _).grown hgrow (by have := hbr.size; simp; omega) (fun j hj => (h4.lt j hj).1)
          have hn := spec_last ((s.size + 1 : Nat) : Int) HFA.out hown hb1 HA.out
          clear hown hgrow hbr hb1
          go_wp2
          go_roundw
          case rel => exact hn
          case measure => first | (simp [intOf]; done) | (simp [intOf]; omega)
        · have hn := spec_last ((s.size + 1 : Nat) : Int) (fin_skip hbk hk HCUR.out) h4 hbr HA.out
          clear h4 hbr
          go_wp2
          go_roundw
          case rel => exact hn
          case measure => first | (simp [intOf]; done) | (simp [intOf]; omega)
    · obtain ⟨a4, cap4, rfl⟩ := own_slice h4
      have HA := Lib.hid hall; clear hall
      by_cases h24 : (finF (scanF s.data.toList)).length ≤ 24
      · go_wp2
        go_ret2
        exact split_good ⟨h1, HA.out, h24⟩ rfl rfl h4 hbr
      · go_wp2
        go_ret2
        exact split_bad (fun h => h24 h.2.2) rfl (World.ownsRow_made wr #[] 0 hbr.size (by simp) rfl) (hbr.alloc hbr.size _)

theorem specsplit_no (s : ByteArray) (w : World) (h1 : 600 < s.size) (hm : s.size ≤ 9223372036854775807) :
    Calls Tryd.prog 17 #[.string s] w (SplitPost s w) := by
  go_enter Tryd.func17, Tryd.ntmps17
  go_wp2
  go_ret2
  exact split_bad (fun h => by omega) rfl (World.ownsRow_made w #[] 0 (Nat.le_refl _) (by simp) rfl) ((Below.refl _ _).alloc (Nat.le_refl _) _)

theorem specsplit_any (s : ByteArray) (w : World) (hm : s.size ≤ 9223372036854775807) :
    Calls Tryd.prog 17 #[.string s] w (SplitPost s w) := by
  by_cases h : s.size ≤ 600
  · exact specsplit_yes s w h
  · exact specsplit_no s w (by omega) hm
end Go.Proofs.YtidfeffpfcnnlaaDoor
