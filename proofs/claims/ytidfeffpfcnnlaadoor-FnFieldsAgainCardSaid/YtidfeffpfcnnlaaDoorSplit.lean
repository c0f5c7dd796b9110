/- The contract of SplitFields, of the program. No condition. -/
import Derived.Test.YtidfeffpfcnnlaaDoorBytes
namespace Go.Proofs.YtidfeffpfcnnlaaDoor
open Go.ChangeShapes Go.WideShapes Go.ChangeAt Go.RowKit

def stepF (st : List (List UInt8) × List UInt8) (c : UInt8) : List (List UInt8) × List UInt8 :=
  if c = 32 then (if st.2 = [] then (st.1, []) else (st.1 ++ [st.2], [])) else (st.1, st.2 ++ [c])
def scanF (l : List UInt8) : List (List UInt8) × List UInt8 := l.foldl stepF ([], [])
def finF (st : List (List UInt8) × List UInt8) : List (List UInt8) := if st.2 = [] then st.1 else st.1 ++ [st.2]
def okB (c : UInt8) : Prop := 32 ≤ c.toNat ∧ c.toNat ≤ 126
open Classical in
noncomputable def splitR (s : ByteArray) : List (List UInt8) × Bool :=
  if s.size ≤ 600 ∧ (∀ k (h : k < s.size), okB s[k]) ∧ (finF (scanF s.data.toList)).length ≤ 24 then (finF (scanF s.data.toList), true) else ([], false)
theorem scan_succ (s : ByteArray) (k : Nat) (h : k < s.size) : scanF (s.data.toList.take (k + 1)) = stepF (scanF (s.data.toList.take k)) s[k] := by
  rw [take_snoc s k h]; unfold scanF; rw [List.foldl_append]; rfl
theorem scan_len (l : List UInt8) : (scanF l).1.length + (scanF l).2.length ≤ l.length := by
  unfold scanF
  suffices h : ∀ (l : List UInt8) (st : List (List UInt8) × List UInt8), (l.foldl stepF st).1.length + (l.foldl stepF st).2.length ≤ st.1.length + st.2.length + l.length by
    have := h l ([], []); simpa using this
  intro l
  induction l with
  | nil => intro st; simp
  | cons c l ih =>
    intro st
    have := ih (stepF st c)
    have h2 : (stepF st c).1.length + (stepF st c).2.length ≤ st.1.length + st.2.length + 1 := by
      unfold stepF
      split
      · split
        · simp only [List.length_nil]; omega
        · have : 1 ≤ st.2.length := by
            rcases h0 : st.2 with _ | ⟨x, y⟩
            · contradiction
            · simp
          simp only [List.length_append, List.length_cons, List.length_nil]; omega
      · simp only [List.length_append, List.length_cons, List.length_nil]; omega
    simp only [List.foldl_cons, List.length_cons]
    omega

def strV (f : List UInt8) : Value := .string (strL f)
def byteV (c : UInt8) : Value := .int .u8 (c.toNat : Int)
def SplitPost (s : ByteArray) (w : World) (e : Ending) (w' : World) : Prop :=
  ∃ v, e = .returned (.tuple #[v, .bool (splitR s).2]) ∧ w'.ownsRow w.heap.size 9 1 v (splitR s).1.length ((splitR s).1.map strV) ∧ Below w.heap.size w w'

theorem own_nil (w : World) (B : Nat) (e : TypeId) : w.ownsRow B e 1 (.slice none 0 0) 0 [] := World.ownsRow_nil _ _ _ _
theorem own_slice {w : World} {B : Nat} {e : TypeId} {v : Value} {n : Nat} {xs : List Value} (h : w.ownsRow B e 1 v n xs) : ∃ a cap, v = .slice a n cap := by
  rcases h.2 with ⟨rfl, rfl⟩ | ⟨g, cap, cur, rfl, _⟩
  · exact ⟨_, _, rfl⟩
  · exact ⟨_, _, rfl⟩
theorem own_slice_pos {w : World} {B : Nat} {e : TypeId} {v : Value} {n : Nat} {xs : List Value} (h : w.ownsRow B e 1 v n xs) (hn : 0 < n) : ∃ g cap, v = .slice (some ⟨g, 0, none⟩) n cap ∧ n ≤ cap ∧ cap ≤ maxLen ∧ w.ownsRow B e 1 (.slice (some ⟨g, 0, none⟩) 0 cap) 0 [] := by
  rcases h.2 with ⟨rfl, rfl⟩ | ⟨g, cap, cur, rfl, hb, hg, h1, h2, h3, h4⟩
  · omega
  · exact ⟨g, cap, rfl, h1, h2, ⟨rfl, Or.inr ⟨g, cap, cur, rfl, hb, hg, Nat.zero_le _, h2, h3, by simp⟩⟩⟩
theorem own_apart {w : World} {B B' : Nat} {e e' : TypeId} {v v' : Value} {n n' : Nat} {xs xs' : List Value} (h : w.ownsRow B e 1 v n xs) (h' : w.ownsRow B' e' 1 v' n' xs') (hne : e ≠ e') : v.ownBlock = none ∨ v.ownBlock ≠ v'.ownBlock := by
  rcases h.2 with ⟨rfl, _⟩ | ⟨g, cap, cur, rfl, hb, hg, _⟩
  · exact Or.inl rfl
  · rcases h'.2 with ⟨rfl, _⟩ | ⟨g', cap', cur', rfl, hb', hg', _⟩
    · exact Or.inr (by simp [Value.ownBlock])
    · refine Or.inr (fun e => ?_)
      simp only [Value.ownBlock, Option.some.injEq] at e
      subst e
      rw [hg] at hg'
      simp only [Option.some.injEq, Obj.cells.injEq] at hg'
      exact hne hg'.2.1

theorem split_bad {s : ByteArray} {w : World} {e : Ending} {w' : World} {v : Value} (h : ¬ (s.size ≤ 600 ∧ (∀ k (h : k < s.size), okB s[k]) ∧ (finF (scanF s.data.toList)).length ≤ 24))
    (he : e = .returned (.tuple #[v, .bool false])) (hv : w'.ownsRow w.heap.size 9 1 v 0 []) (hb : Below w.heap.size w w') : SplitPost s w e w' := by
  refine ⟨v, ?_, ?_, hb⟩
  · unfold splitR; rw [if_neg h]; exact he
  · unfold splitR; rw [if_neg h]; exact hv
theorem split_good {s : ByteArray} {w : World} {e : Ending} {w' : World} {v : Value} (h : s.size ≤ 600 ∧ (∀ k (h : k < s.size), okB s[k]) ∧ (finF (scanF s.data.toList)).length ≤ 24)
    (he : e = .returned (.tuple #[v, .bool true])) {n : Nat} {xs : List (List UInt8)} (hx : xs = finF (scanF s.data.toList)) (hv : w'.ownsRow w.heap.size 9 1 v n (xs.map strV)) (hb : Below w.heap.size w w') : SplitPost s w e w' := by
  have hn : xs.length = n := by simpa using hv.1
  subst hn; subst hx
  refine ⟨v, ?_, ?_, hb⟩
  · unfold splitR; rw [if_pos h]; exact he
  · unfold splitR; rw [if_pos h]; exact hv

theorem info9 : (Tryd.prog.info? 9).map (fun i => (i.zero, i.size, i.bytes)) = some (some (.string ByteArray.empty), 1, 16) := by kernel_rfl

/-- One more byte of a field. -/
theorem split_byte {s : ByteArray} {k : Nat} (hk : k < s.size) (h32 : s[k].toNat ≠ 32) {w wr w1 : World} {o : Obj} {v4 v5 v' : Value} (hbr : Below w.heap.size w wr)
    (h4 : wr.ownsRow w.heap.size 9 1 v4 (scanF (s.data.toList.take k)).1.length ((scanF (s.data.toList.take k)).1.map strV))
    (h5 : wr.ownsRow w.heap.size 5 1 v5 (scanF (s.data.toList.take k)).2.length ((scanF (s.data.toList.take k)).2.map byteV))
    (hgrow : (wr.alloc o).grownBy w1 v5.ownBlock) (h5' : w1.ownsRow w.heap.size 5 1 v' ((scanF (s.data.toList.take k)).2.length + 1) ((scanF (s.data.toList.take k)).2.map byteV ++ [.int .u8 (s[k].toNat : Int)])) :
    w1.ownsRow w.heap.size 9 1 v4 (scanF (s.data.toList.take (k + 1))).1.length ((scanF (s.data.toList.take (k + 1))).1.map strV) ∧
    w1.ownsRow w.heap.size 5 1 v' (scanF (s.data.toList.take (k + 1))).2.length ((scanF (s.data.toList.take (k + 1))).2.map byteV) ∧ Below w.heap.size w w1 := by
  have hne : s[k] ≠ 32 := fun e => h32 (by rw [e]; rfl)
  have e1 : scanF (s.data.toList.take (k + 1)) = ((scanF (s.data.toList.take k)).1, (scanF (s.data.toList.take k)).2 ++ [s[k]]) := by
    rw [scan_succ s k hk]; unfold stepF; rw [if_neg hne]
  refine ⟨?_, ?_, (hbr.alloc hbr.size o).grown hgrow (by have := hbr.size; simp; omega) (fun j hj => (h5.lt j hj).1)⟩
  · rw [e1]
    exact (h4.alloc o).kept hgrow (own_apart h4 h5 (by decide))
  · rw [e1]
    simp only [List.length_append, List.map_append]
    exact h5'

/-- A space behind a field. -/
theorem split_end {s : ByteArray} {k : Nat} (hk : k < s.size) (h32 : s[k].toNat = 32) (hcur : (scanF (s.data.toList.take k)).2 ≠ []) {w wr w1 : World} {o : Obj} {v4 v' v5' : Value} (hbr : Below w.heap.size w wr)
    (h4 : wr.ownsRow w.heap.size 9 1 v4 (scanF (s.data.toList.take k)).1.length ((scanF (s.data.toList.take k)).1.map strV))
    (h5 : wr.ownsRow w.heap.size 5 1 v5' 0 []) 
    (hgrow : (wr.alloc o).grownBy w1 v4.ownBlock) (h4' : w1.ownsRow w.heap.size 9 1 v' ((scanF (s.data.toList.take k)).1.length + 1) ((scanF (s.data.toList.take k)).1.map strV ++ [strV (scanF (s.data.toList.take k)).2])) :
    w1.ownsRow w.heap.size 9 1 v' (scanF (s.data.toList.take (k + 1))).1.length ((scanF (s.data.toList.take (k + 1))).1.map strV) ∧
    w1.ownsRow w.heap.size 5 1 v5' (scanF (s.data.toList.take (k + 1))).2.length ((scanF (s.data.toList.take (k + 1))).2.map byteV) ∧ Below w.heap.size w w1 := by
  have he : s[k] = 32 := UInt8.toNat_inj.1 (by rw [h32]; rfl)
  have e1 : scanF (s.data.toList.take (k + 1)) = ((scanF (s.data.toList.take k)).1 ++ [(scanF (s.data.toList.take k)).2], []) := by
    rw [scan_succ s k hk]; unfold stepF; rw [if_pos he, if_neg hcur]
  refine ⟨?_, ?_, (hbr.alloc hbr.size o).grown hgrow (by have := hbr.size; simp; omega) (fun j hj => (h4.lt j hj).1)⟩
  · rw [e1]; simp only [List.length_append, List.map_append]; exact h4'
  · rw [e1]; exact (h5.alloc o).kept hgrow (own_apart h5 h4 (by decide))

theorem split_skip {s : ByteArray} {k : Nat} (hk : k < s.size) (h32 : s[k].toNat = 32) (hcur : (scanF (s.data.toList.take k)).2 = []) : scanF (s.data.toList.take (k + 1)) = scanF (s.data.toList.take k) := by
  have he : s[k] = 32 := UInt8.toNat_inj.1 (by rw [h32]; rfl)
  rw [scan_succ s k hk]; unfold stepF; rw [if_pos he, if_pos hcur]
  rw [Prod.ext_iff]; exact ⟨rfl, hcur.symm⟩

theorem convert_byteV {P : Program} {w : World} {base : Nat} {e src : TypeId} {v : Value} {n : Nat} {l : List UInt8} (hs : P.underlying src = some (.slice e)) (he : P.underlying e = some (.int .u8))
    (hown : w.ownsRow base e 1 v n (l.map byteV)) : ∀ dst, P.underlying dst = some .string → (convert src dst v).run P w = .ok (.string (strL l)) w := by
  intro dst hd
  rw [← strOfNums_strL]
  exact convert_own hs he (by rw [List.map_map]; exact hown) dst hd

set_option maxHeartbeats 2000000 in
theorem impsplit_yes (s : ByteArray) (w : World) (h1 : s.size ≤ 600) :
    Calls Tryd.prog 16 #[.string s] w (SplitPost s w) := by
  obtain ⟨i0, hi, hz0, hz1, hz2⟩ := info_parts info5
  obtain ⟨j0, hj, hy0, hy1, hy2⟩ := info_parts info9
  go_enter Tryd.func16, Tryd.ntmps16
  go_wp2
  go_step3
  go_wp2
  go_step3
  go_wp2
  go_loopw [4, 5, 6, 7] (fun v4 v5 v6 v7 wr => ∃ k : Nat, k ≤ s.size ∧ v7 = .int .i64 k ∧ v6 = .bool true ∧
      wr.ownsRow w.heap.size 9 1 v4 (scanF (s.data.toList.take k)).1.length ((scanF (s.data.toList.take k)).1.map strV) ∧
      wr.ownsRow w.heap.size 5 1 v5 (scanF (s.data.toList.take k)).2.length ((scanF (s.data.toList.take k)).2.map byteV) ∧
      Below w.heap.size w wr ∧ (∀ j (h : j < s.size), j < k → okB s[j]))
    (fun _ _ _ v7 _ => s.size - (intOf v7).toNat)
  case atStart => exact ⟨0, Nat.zero_le _, rfl, rfl, own_nil _ _ _, own_nil _ _ _, Below.refl _ _, fun j h hj => by omega⟩
  case round =>
    obtain ⟨k, hk, rfl, rfl, h4, h5, hbr, hall⟩ := hrel
    have HA := Lib.hid hall; clear hall
    have hsl := scan_len (s.data.toList.take k)
    have htk : (s.data.toList.take k).length ≤ k := List.length_take_le _ _
    obtain ⟨a4, cap4, rfl⟩ := own_slice h4
    obtain ⟨a5, cap5, rfl⟩ := own_slice h5
    by_cases hlt : k < s.size
    · by_cases c1 : s[k].toNat < 32
      · have hbad : ¬ (s.size ≤ 600 ∧ (∀ k (h : k < s.size), okB s[k]) ∧ (finF (scanF s.data.toList)).length ≤ 24) := fun h => by have := h.2.1 k hlt; unfold okB at this; omega
        have HB := Lib.hid hbad; clear hbad
        by_cases h0 : (scanF (s.data.toList.take k)).2.length = 0
        · go_wp2
          go_ret2
          exact split_bad HB.out rfl (own_nil _ _ _) hbr
        · have hcv := convert_byteV (P := Tryd.prog) Tryd.underlying22 Tryd.underlying5 h5 9 Tryd.underlying9
          go_wp2_with (at_builtin; refine wpList_append_own _ rfl _ _ 31 rfl w.heap.size 9 j0 (.string ByteArray.empty) 1 16 Tryd.underlying31 hj hy0 hy1 hy2 rfl (by decide) _ (scanF (s.data.toList.take k)).1.length _ rfl (h4.alloc _) ⟨wr.heap.size, 0, none⟩ 1 1 [strV (scanF (s.data.toList.take k)).2] rfl rfl ?c1 ?c2 ?c3 ?c4 ?c5 ?_)
          case c1 => first | exact World.news_of_block (heap_alloc_new wr _) | exact fun _ _ h => h
          case c2 => first | (simp [Value.oneCell']; done) | simp [Value.oneCell', strV]
          case c3 => unfold maxLen; omega
          case c4 => omega
          case c5 => have := hbr.size; simp; omega
          intro v' w1 hown hgrow _
          have hb1 := (hbr.alloc hbr.size _).grown hgrow (by have := hbr.size; simp; omega) (fun j hj => (h4.lt j hj).1)
          go_wp2
          go_ret2
          exact split_bad HB.out rfl (own_nil _ _ _) hb1
      · by_cases c2 : 126 < s[k].toNat
        · have hbad : ¬ (s.size ≤ 600 ∧ (∀ k (h : k < s.size), okB s[k]) ∧ (finF (scanF s.data.toList)).length ≤ 24) := fun h => by have := h.2.1 k hlt; unfold okB at this; omega
          have HB := Lib.hid hbad; clear hbad
          by_cases h0 : (scanF (s.data.toList.take k)).2.length = 0
          · go_wp2
            go_ret2
            exact split_bad HB.out rfl (own_nil _ _ _) hbr
          · have hcv := convert_byteV (P := Tryd.prog) Tryd.underlying22 Tryd.underlying5 h5 9 Tryd.underlying9
            go_wp2_with (at_builtin; refine wpList_append_own _ rfl _ _ 31 rfl w.heap.size 9 j0 (.string ByteArray.empty) 1 16 Tryd.underlying31 hj hy0 hy1 hy2 rfl (by decide) _ (scanF (s.data.toList.take k)).1.length _ rfl (h4.alloc _) ⟨wr.heap.size, 0, none⟩ 1 1 [strV (scanF (s.data.toList.take k)).2] rfl rfl ?c1 ?c2 ?c3 ?c4 ?c5 ?_)
            case c1 => first | exact World.news_of_block (heap_alloc_new wr _) | exact fun _ _ h => h
            case c2 => first | (simp [Value.oneCell']; done) | simp [Value.oneCell', strV]
            case c3 => unfold maxLen; omega
            case c4 => omega
            case c5 => have := hbr.size; simp; omega
            intro v' w1 hown hgrow _
            have hb1 := (hbr.alloc hbr.size _).grown hgrow (by have := hbr.size; simp; omega) (fun j hj => (h4.lt j hj).1)
            go_wp2
            go_ret2
            exact split_bad HB.out rfl (own_nil _ _ _) hb1
        · have hall1 : ∀ j (h : j < s.size), j < k + 1 → okB s[j] := fun j h hj => by
            by_cases hjk : j < k
            · exact HA.out j h hjk
            · obtain rfl : j = k := by omega
              unfold okB; omega
          have HA1 := Lib.hid hall1; clear hall1
          by_cases c3 : s[k].toNat = 32
          · have HC3 := Lib.hid c3
            have c3' : (s[k].toNat : Int) = 32 := by omega
            clear c3
            by_cases h0 : (scanF (s.data.toList.take k)).2.length = 0
            · have hsk := split_skip hlt HC3.out (List.length_eq_zero_iff.1 h0)
              have HSK := Lib.hid hsk; clear hsk
              have H0 := Lib.hid h0
              go_wp2
              go_roundw
              case rel => exact ⟨k + 1, by omega, by go_num, rfl, by rw [HSK.out]; exact h4, by rw [HSK.out]; exact h5, hbr, HA1.out⟩
              case measure => simp [intOf]; omega
            · obtain ⟨g, cap, hv, hc1, hc2, h50⟩ := own_slice_pos h5 (by omega)
              simp only [Value.slice.injEq, true_and] at hv
              obtain ⟨rfl, rfl⟩ := hv
              have hcv := convert_byteV (P := Tryd.prog) Tryd.underlying22 Tryd.underlying5 h5 9 Tryd.underlying9
              go_wp2_with (at_builtin; refine wpList_append_own _ rfl _ _ 31 rfl w.heap.size 9 j0 (.string ByteArray.empty) 1 16 Tryd.underlying31 hj hy0 hy1 hy2 rfl (by decide) _ (scanF (s.data.toList.take k)).1.length _ rfl (h4.alloc _) ⟨wr.heap.size, 0, none⟩ 1 1 [strV (scanF (s.data.toList.take k)).2] rfl rfl ?c1 ?c2 ?c3 ?c4 ?c5 ?_)
              case c1 => first | exact World.news_of_block (heap_alloc_new wr _) | exact fun _ _ h => h
              case c2 => first | (simp [Value.oneCell']; done) | simp [Value.oneCell', strV]
              case c3 => unfold maxLen; omega
              case c4 => omega
              case c5 => have := hbr.size; simp; omega
              intro v' w1 hown hgrow _
              obtain ⟨n1, n2, n3⟩ := split_end hlt HC3.out (fun e => h0 (by rw [e]; rfl)) hbr h4 h50 hgrow hown
              clear hcv hown hgrow hbr
              go_wp2
              go_roundw
              case rel => exact ⟨k + 1, by omega, by go_num, rfl, n1, n2, n3, HA1.out⟩
              case measure => simp [intOf]; omega
          · have c3' : ((s[k].toNat : Int) == 32) = false := by simp; omega
            have c3'' : ((s[k].toNat : Int) != 32) = true := by simp; omega
            have HC3 := Lib.hid c3; clear c3
            go_wp2_with (at_builtin; refine wpList_append_own _ rfl _ _ 22 rfl w.heap.size 5 i0 (.int .u8 0) 1 1 Tryd.underlying22 hi hz0 hz1 hz2 rfl (by decide) _ (scanF (s.data.toList.take k)).2.length _ rfl (h5.alloc _) ⟨wr.heap.size, 0, none⟩ 1 1 [.int .u8 (s[k].toNat : Int)] rfl rfl ?c1 ?c2 ?c3 ?c4 ?c5 ?_)
            case c1 => first | exact World.news_of_block (heap_alloc_new wr _) | exact fun _ _ h => h
            case c2 => first | (simp [Value.oneCell']; done) | simp [Value.oneCell', strV]
            case c3 => unfold maxLen; omega
            case c4 => omega
            case c5 => have := hbr.size; simp; omega
            intro v' w1 hown hgrow _
            obtain ⟨n1, n2, n3⟩ := split_byte hlt HC3.out hbr h4 h5 hgrow hown
            clear hown hgrow hbr
            go_wp2
            go_roundw
            case rel => exact ⟨k + 1, by omega, by go_num, rfl, n1, n2, n3, HA1.out⟩
            case measure => simp [intOf]; omega
    · obtain rfl : k = s.size := by omega
      have hfull : s.data.toList.take s.size = s.data.toList := List.take_of_length_le (by simp)
      have HF := Lib.hid hfull; clear hfull
      have hok : ∀ k (h : k < s.size), okB s[k] := fun k h => HA.out k h h
      have HO := Lib.hid hok; clear hok
      by_cases h0 : (scanF (s.data.toList.take s.size)).2.length = 0
      · have hfin : finF (scanF s.data.toList) = (scanF (s.data.toList.take s.size)).1 := by
          rw [HF.out] at h0 ⊢; unfold finF; rw [if_pos (List.length_eq_zero_iff.1 h0)]
        have HFI := Lib.hid hfin; clear hfin
        by_cases h24 : (scanF (s.data.toList.take s.size)).1.length ≤ 24
        · go_wp2
          go_ret2
          exact split_good ⟨h1, HO.out, by rw [HFI.out]; exact h24⟩ rfl HFI.out.symm h4 hbr
        · go_wp2
          go_ret2
          exact split_bad (fun h => h24 (by have := h.2.2; rw [HFI.out] at this; exact this)) rfl (own_nil _ _ _) hbr
      · have hfin : finF (scanF s.data.toList) = (scanF (s.data.toList.take s.size)).1 ++ [(scanF (s.data.toList.take s.size)).2] := by
          rw [HF.out] at h0 ⊢; unfold finF; rw [if_neg (fun e => h0 (by rw [e]; rfl))]
        have HFI := Lib.hid hfin; clear hfin
        have hcv := convert_byteV (P := Tryd.prog) Tryd.underlying22 Tryd.underlying5 h5 9 Tryd.underlying9
        go_wp2_with (at_builtin; refine wpList_append_own _ rfl _ _ 31 rfl w.heap.size 9 j0 (.string ByteArray.empty) 1 16 Tryd.underlying31 hj hy0 hy1 hy2 rfl (by decide) _ (scanF (s.data.toList.take s.size)).1.length _ rfl (h4.alloc _) ⟨wr.heap.size, 0, none⟩ 1 1 [strV (scanF (s.data.toList.take s.size)).2] rfl rfl ?c1 ?c2 ?c3 ?c4 ?c5 ?_)
        case c1 => first | exact World.news_of_block (heap_alloc_new wr _) | exact fun _ _ h => h
        case c2 => first | (simp [Value.oneCell']; done) | simp [Value.oneCell', strV]
        case c3 => unfold maxLen; omega
        case c4 => omega
        case c5 => have := hbr.size; simp; omega
        intro v' w1 hown hgrow _
        have hb1 := (hbr.alloc hbr.size _).grown hgrow (by have := hbr.size; simp; omega) (fun j hj => (h4.lt j hj).1)
        obtain ⟨a6, cap6, rfl⟩ := own_slice hown
        clear hgrow hcv
        by_cases h24 : (scanF (s.data.toList.take s.size)).1.length + 1 ≤ 24
        · go_wp2
          go_ret2
          refine split_good ⟨h1, HO.out, by rw [HFI.out]; simpa using h24⟩ rfl HFI.out.symm (n := (scanF (s.data.toList.take s.size)).1.length + 1) ?_ hb1
          rw [List.map_append]; exact hown
        · go_wp2
          go_ret2
          exact split_bad (fun h => h24 (by have := h.2.2; rw [HFI.out] at this; simpa using this)) rfl (own_nil _ _ _) hb1

theorem impsplit_no (s : ByteArray) (w : World) (h1 : 600 < s.size) (hm : s.size ≤ 9223372036854775807) :
    Calls Tryd.prog 16 #[.string s] w (SplitPost s w) := by
  go_enter Tryd.func16, Tryd.ntmps16
  go_wp2
  go_step3
  go_wp2
  go_ret2
  exact split_bad (fun h => by omega) rfl (own_nil _ _ _) (Below.refl _ _)

theorem impsplit_any (s : ByteArray) (w : World) (hm : s.size ≤ 9223372036854775807) :
    Calls Tryd.prog 16 #[.string s] w (SplitPost s w) := by
  by_cases h : s.size ≤ 600
  · exact impsplit_yes s w h
  · exact impsplit_no s w (by omega) hm
end Go.Proofs.YtidfeffpfcnnlaaDoor
