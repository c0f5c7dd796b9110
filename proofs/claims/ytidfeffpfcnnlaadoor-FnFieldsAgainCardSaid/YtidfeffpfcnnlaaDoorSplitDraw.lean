/- The contract of the draw of a line: a string of at most 2000 bytes. No condition. -/
import Derived.Test.YtidfeffpfcnnlaaDoorText
import Derived.Deep.DeepCutAuto
namespace Go.Proofs.YtidfeffpfcnnlaaDoor
open Go.ChangeShapes Go.WideShapes Go.ChangeAt Go.RowKit

set_option maxHeartbeats 400000 in
theorem pick_any {B c : Nat} {w : World} (b off n cap : Nat) (z : Nat → ByteArray) (m : Nat) (h1 : 1 ≤ n) (h2 : n ≤ 4294967296) (hb : b < w.heap.size) (hbc : b ≠ c)
    (hz : ∀ k, k < n → w.cell? ⟨b, off + k, none⟩ = some (.string (z k)) ∧ (z k).size ≤ m) (hC : Cur 54 B w c) :
    Calls Tryd.prog 30 #[.pointer (some ⟨c, 0, none⟩), .slice (some ⟨b, off, none⟩) n cap] w (Texted 54 B c w m) := by
  go_enter Tryd.func30, Tryd.ntmps30
  have HZ := Lib.hid hz; clear hz
  go_wp2_with (go_at_call 24; refine (below_any n (by omega) (by omega) hC).mono ?_; rintro e w1 ⟨x, hx0, hx1, rfl, hg1, hC1⟩; obtain ⟨k, rfl⟩ := Int.eq_ofNat_of_zero_le hx0; obtain ⟨hk, hm⟩ := HZ.out k (by omega); have hk1 : w1.cell? ⟨b, off + k, none⟩ = some (.string (z k)) := by (rw [← hk]; exact World.cell?_of_block (hg1.block b hb (by intro e; injection e; omega))))
  go_ret
  exact ⟨_, by assumption, rfl, by assumption, by assumption⟩

theorem pick_new {B c : Nat} {w : World} (xs : List ByteArray) (cs : Array Value) (hcs : cs = (xs.map Value.string).toArray) (n : Nat) (hn : n = xs.length) (h1 : 1 ≤ n) (h2 : n ≤ 4294967296) (t : TypeId) (m : Nat)
    (hx : ∀ x ∈ xs, x.size ≤ m) (hC : Cur 54 B w c) :
    Calls Tryd.prog 30 #[.pointer (some ⟨c, 0, none⟩), .slice (some ⟨w.heap.size, 0, none⟩) n n] (w.alloc (.cells cs t)) (Texted 54 B c w m) := by
  have hlt := hC.lt
  refine (pick_any w.heap.size 0 n n (fun k => xs.getD k ByteArray.empty) m h1 h2 (by simp) (by omega) ?_ (hC.kept (World.grownBy_alloc w _ none) (by intro r hr; cases hr))).mono ?_
  · intro k hk
    have hk' : k < xs.length := by omega
    have e : xs.getD k ByteArray.empty = xs[k] := by simp [List.getD, hk']
    refine ⟨?_, ?_⟩
    · have e1 : (w.alloc (.cells cs t)).heap[w.heap.size]? = some (.cells cs t (0, 0)) := (MapKept.heap_alloc w _).1
      unfold World.cell?
      rw [show (⟨w.heap.size, 0 + k, none⟩ : Addr).block = w.heap.size from rfl, e1]
      simp [hcs, hk']
    · simp only [e]; exact hx _ (List.getElem_mem _)
  · rintro e w' ⟨x, h1, he, hg, hc⟩
    exact ⟨x, h1, he, only_trans (only_alloc (World.grownBy.refl _ _) _) hg, hc⟩

/-- A line of at most 2000 bytes. -/
def LineDrawn (w : World) (e : Ending) (w' : World) : Prop := ∃ s : ByteArray, s.size ≤ 2000 ∧ e = .returned (.string s) ∧ Below w.heap.size w w'

/-- The state of the draw: a string so far, the cursor. -/
def LineSt (B c : Nat) (w : World) (m : Nat) (v : Value) (wr : World) : Prop := ∃ s : ByteArray, s.size ≤ m ∧ v = .string s ∧ Below B w wr ∧ Cur 54 B wr c
theorem append_size (a b : ByteArray) : (a ++ b).size = a.size + b.size := by simp [ByteArray.size_append]

theorem long_int {w : World} (x : Int) (h0 : 0 ≤ x) (h1 : x ≤ 8000000) (b : Int) :
    Calls Tryd.prog 23 #[.int .i64 x, .int .u8 b] w (Longed w x.toNat) := by
  obtain ⟨m, rfl⟩ := Int.eq_ofNat_of_zero_le h0
  exact long_any m (by omega) b
theorem bstep' {w a b : World} {B : Nat} (h : Below B w a) (hB : B ≤ a.heap.size) (k : Below a.heap.size a b) : Below B w b := h.trans (k.mono hB)
theorem line_long {B c : Nat} {w a b : World} {m n : Nat} {s t : ByteArray} (h : s.size ≤ m) (hb : Below B w a) (hB : B ≤ a.heap.size) (hC : Cur 54 B a c) (ht : t.size = n) (hb2 : Below a.heap.size a b) :
    LineSt B c w (m + n) (.string (s ++ t)) b :=
  ⟨s ++ t, by rw [append_size]; omega, rfl, hb.trans (hb2.mono hB), hC.kept (only_of_below hb2 none) (by intro r hr; cases hr)⟩

set_option maxHeartbeats 8000000 in
set_option maxRecDepth 100000 in
theorem drawsplit_any {w : World} {v : Value} {n : Nat} (hC : Code w w.heap.size v n) :
    Calls Tryd.prog 15 #[v] w (LineDrawn w) := by
  go_enter Tryd.func15, Tryd.ntmps15
  go_wp2_with fail
  refine (new_any hC).mono ?_
  rintro e w1 ⟨c, rfl, hb0, hC1⟩
  go_wp2_with fail
  refine (below_any 9 (by omega) (by omega) hC1).mono ?_
  rintro e w2 ⟨x, hx0, hx1, rfl, hg1, hC2⟩
  have hb2 := hb0.trans (below_of_only hg1 hC2.1 hb0.size)
  clear hb0 hg1 hC1
  go_wp2_with fail
  refine (once_any 15 (by omega) (by omega) hC2).mono ?_
  rintro e w3 ⟨y, rfl, hg1, hC3⟩
  have hb3 := hb2.trans (below_of_only hg1 hC3.1 hb2.size)
  clear hb2 hg1 hC2
  cases y
  · obtain ⟨N, rfl⟩ := Int.eq_ofNat_of_zero_le hx0
    have hN : N ≤ 25 := by omega
    clear hx0 hx1
    go_wp2_with fail
    go_loopw [5, 6] (fun v5 v6 wr => ∃ i : Nat, i ≤ N ∧ v6 = .int .i64 i ∧ LineSt w.heap.size c w (8 * i) v5 wr) (fun _ v6 _ => N - (intOf v6).toNat)
    case atStart => exact ⟨0, Nat.zero_le _, rfl, ByteArray.empty, Nat.le_refl _, rfl, hb3, hC3⟩
    case round =>
      obtain ⟨i, hi, rfl, s, hs, rfl, hbr, hCr⟩ := hrel
      clear hb3 hC3
      obtain ⟨wo, rfl⟩ : ∃ wo : World, wo = wr := ⟨_, rfl⟩
      by_cases hlt : i < N
      · by_cases hi0 : i = 0
        · subst hi0
          go_wp2_with fail
          refine (once_any 5 (by omega) (by omega) hCr).mono ?_
          rintro e wy ⟨y, rfl, hgy, hCy⟩
          have hby := hbr.trans (below_of_only hgy hCy.1 hbr.size)
          clear hbr hgy hCr
          cases y
          · go_wp2_with fail
            have hsz0 : (s).size ≤ 8 * 0 + 3 + 0 := by omega
            have hbz := hby
            have hCz := hCy
            go_loopw [5, 7] (fun v5 v7 wr => ∃ k : Nat, k ≤ 5 ∧ v7 = .int .i64 k ∧ LineSt w.heap.size c w (8 * 0 + 3 + k) v5 wr) (fun _ v7 _ => 6 - (intOf v7).toNat)
            case atStart => exact ⟨0, by omega, rfl, _, hsz0, rfl, hbz, hCz⟩
            case round =>
              obtain ⟨k, hk, rfl, s2, hs2, rfl, hbr2, hCr2⟩ := hrel
              clear hsz0 hbz hCz
              go_wp2_with fail
              refine (below_any 5 (by omega) (by omega) hCr2).mono ?_
              rintro e wd ⟨x, hx0, hx1, rfl, hgd, hCd⟩
              have hbd := hbr2.trans (below_of_only hgd hCd.1 hbr2.size)
              clear hbr2 hgd hCr2
              by_cases hkx : (k : Int) ≤ x
              · go_wp2_with fail
                refine (below_any 94 (by omega) (by omega) hCd).mono ?_
                rintro e we ⟨y, hy0, hy1, rfl, hge, hCe⟩
                have hbe := hbd.trans (below_of_only hge hCe.1 hbd.size)
                have hbf := hbe.alloc hbe.size (.cells #[.int .u8 (33 + y)] 5)
                have hCf := hCe.kept (World.grownBy_alloc we (.cells #[.int .u8 (33 + y)] 5) none) (by intro r hr; cases hr)
                clear hbd hge hCd hbe hCe
                have hcv := run_convert_bytes_arg (P := Tryd.prog) (we.alloc (.cells #[.int .u8 (33 + y)] 5)) 22 5 Tryd.underlying22 Tryd.underlying5 we.heap.size 0 1 1 [33 + y] rfl
                  (fun q hq => by obtain rfl : q = 0 := (by omega); exact World.news_of_block (heap_alloc_new we (.cells #[.int .u8 (33 + y)] 5)) 0 _ rfl) 9 Tryd.underlying9
                have hs1 : (strOfNums [33 + y]).size ≤ 1 := by rw [strOfNums_size]; exact Nat.le_refl _
                have hs3 : (s2 ++ strOfNums [33 + y]).size ≤ 8 * 0 + 3 + (k + 1) := by rw [append_size]; omega
                have HS3 := Lib.hid hs3; clear hs3
                go_wp2
                go_roundw
                case rel => exact ⟨k + 1, by omega, by go_num, _, HS3.out, rfl, hbf, hCf⟩
                case measure => simp [intOf]; omega
              · go_wp2
                go_roundw
                case rel => exact ⟨0 + 1, by omega, by go_num, s2, by omega, rfl, hbd, hCd⟩
                case measure => simp [intOf]; omega
          · skip
            go_wp2_with fail
            refine (below_any 2 (by omega) (by omega) hCy).mono ?_
            rintro e wa ⟨x, hx0, hx1, rfl, hga, hCa⟩
            have hba := (hby).trans (below_of_only hga hCa.1 (hby).size)
            go_wp2_with fail
            refine (below_any 3 (by omega) (by omega) hCa).mono ?_
            rintro e wb ⟨y, hy0, hy1, rfl, hgb, hCb⟩
            have hbb := hba.trans (below_of_only hgb hCb.1 hba.size)
            clear hba hga hCa hgb
            have hx01 : x = 0 ∨ x = 1 := by omega
            clear hx0 hx1
            rcases hx01 with rfl | rfl
            all_goals
              go_wp2_with fail
              refine (long_int _ (by omega) (by omega) _).mono ?_
              rintro e wc ⟨t, ht, rfl, hbc⟩
              have ht3 : t.size ≤ 3 := by omega
              have hbcc := bstep' hbb hbb.size hbc
              have hCc := hCb.kept (only_of_below hbc none) (by intro r hr; cases hr)
              clear ht hbb hbc hCb
              go_wp2_with fail
              have hsz0 : (s ++ t).size ≤ 8 * 0 + 3 + 0 := by rw [append_size]; omega
              have hbz := hbcc
              have hCz := hCc
              go_loopw [5, 7] (fun v5 v7 wr => ∃ k : Nat, k ≤ 5 ∧ v7 = .int .i64 k ∧ LineSt w.heap.size c w (8 * 0 + 3 + k) v5 wr) (fun _ v7 _ => 6 - (intOf v7).toNat)
              case atStart => exact ⟨0, by omega, rfl, _, hsz0, rfl, hbz, hCz⟩
              case round =>
                obtain ⟨k, hk, rfl, s2, hs2, rfl, hbr2, hCr2⟩ := hrel
                clear hsz0 hbz hCz
                go_wp2_with fail
                refine (below_any 5 (by omega) (by omega) hCr2).mono ?_
                rintro e wd ⟨x, hx0, hx1, rfl, hgd, hCd⟩
                have hbd := hbr2.trans (below_of_only hgd hCd.1 hbr2.size)
                clear hbr2 hgd hCr2
                by_cases hkx : (k : Int) ≤ x
                · go_wp2_with fail
                  refine (below_any 94 (by omega) (by omega) hCd).mono ?_
                  rintro e we ⟨y, hy0, hy1, rfl, hge, hCe⟩
                  have hbe := hbd.trans (below_of_only hge hCe.1 hbd.size)
                  have hbf := hbe.alloc hbe.size (.cells #[.int .u8 (33 + y)] 5)
                  have hCf := hCe.kept (World.grownBy_alloc we (.cells #[.int .u8 (33 + y)] 5) none) (by intro r hr; cases hr)
                  clear hbd hge hCd hbe hCe
                  have hcv := run_convert_bytes_arg (P := Tryd.prog) (we.alloc (.cells #[.int .u8 (33 + y)] 5)) 22 5 Tryd.underlying22 Tryd.underlying5 we.heap.size 0 1 1 [33 + y] rfl
                    (fun q hq => by obtain rfl : q = 0 := (by omega); exact World.news_of_block (heap_alloc_new we (.cells #[.int .u8 (33 + y)] 5)) 0 _ rfl) 9 Tryd.underlying9
                  have hs1 : (strOfNums [33 + y]).size ≤ 1 := by rw [strOfNums_size]; exact Nat.le_refl _
                  have hs3 : (s2 ++ strOfNums [33 + y]).size ≤ 8 * 0 + 3 + (k + 1) := by rw [append_size]; omega
                  have HS3 := Lib.hid hs3; clear hs3
                  go_wp2
                  go_roundw
                  case rel => exact ⟨k + 1, by omega, by go_num, _, HS3.out, rfl, hbf, hCf⟩
                  case measure => simp [intOf]; omega
                · go_wp2
                  go_roundw
                  case rel => exact ⟨0 + 1, by omega, by go_num, s2, by omega, rfl, hbd, hCd⟩
                  case measure => simp [intOf]; omega
        · have hi1 : 0 < i := by omega
          go_wp2_with fail
          refine (below_any 2 (by omega) (by omega) hCr).mono ?_
          rintro e wa ⟨x, hx0, hx1, rfl, hga, hCa⟩
          have hba := (hbr).trans (below_of_only hga hCa.1 (hbr).size)
          go_wp2_with fail
          refine (below_any 3 (by omega) (by omega) hCa).mono ?_
          rintro e wb ⟨y, hy0, hy1, rfl, hgb, hCb⟩
          have hbb := hba.trans (below_of_only hgb hCb.1 hba.size)
          clear hba hga hCa hgb
          have hx01 : x = 0 ∨ x = 1 := by omega
          clear hx0 hx1
          rcases hx01 with rfl | rfl
          all_goals
            go_wp2_with fail
            refine (long_int _ (by omega) (by omega) _).mono ?_
            rintro e wc ⟨t, ht, rfl, hbc⟩
            have ht3 : t.size ≤ 3 := by omega
            have hbcc := bstep' hbb hbb.size hbc
            have hCc := hCb.kept (only_of_below hbc none) (by intro r hr; cases hr)
            clear ht hbb hbc hCb
            go_wp2_with fail
            have hsz0 : (s ++ t).size ≤ 8 * i + 3 + 0 := by rw [append_size]; omega
            have hbz := hbcc
            have hCz := hCc
            go_loopw [5, 7] (fun v5 v7 wr => ∃ k : Nat, k ≤ 5 ∧ v7 = .int .i64 k ∧ LineSt w.heap.size c w (8 * i + 3 + k) v5 wr) (fun _ v7 _ => 6 - (intOf v7).toNat)
            case atStart => exact ⟨0, by omega, rfl, _, hsz0, rfl, hbz, hCz⟩
            case round =>
              obtain ⟨k, hk, rfl, s2, hs2, rfl, hbr2, hCr2⟩ := hrel
              clear hsz0 hbz hCz
              go_wp2_with fail
              refine (below_any 5 (by omega) (by omega) hCr2).mono ?_
              rintro e wd ⟨x, hx0, hx1, rfl, hgd, hCd⟩
              have hbd := hbr2.trans (below_of_only hgd hCd.1 hbr2.size)
              clear hbr2 hgd hCr2
              by_cases hkx : (k : Int) ≤ x
              · go_wp2_with fail
                refine (below_any 94 (by omega) (by omega) hCd).mono ?_
                rintro e we ⟨y, hy0, hy1, rfl, hge, hCe⟩
                have hbe := hbd.trans (below_of_only hge hCe.1 hbd.size)
                have hbf := hbe.alloc hbe.size (.cells #[.int .u8 (33 + y)] 5)
                have hCf := hCe.kept (World.grownBy_alloc we (.cells #[.int .u8 (33 + y)] 5) none) (by intro r hr; cases hr)
                clear hbd hge hCd hbe hCe
                have hcv := run_convert_bytes_arg (P := Tryd.prog) (we.alloc (.cells #[.int .u8 (33 + y)] 5)) 22 5 Tryd.underlying22 Tryd.underlying5 we.heap.size 0 1 1 [33 + y] rfl
                  (fun q hq => by obtain rfl : q = 0 := (by omega); exact World.news_of_block (heap_alloc_new we (.cells #[.int .u8 (33 + y)] 5)) 0 _ rfl) 9 Tryd.underlying9
                have hs1 : (strOfNums [33 + y]).size ≤ 1 := by rw [strOfNums_size]; exact Nat.le_refl _
                have hs3 : (s2 ++ strOfNums [33 + y]).size ≤ 8 * i + 3 + (k + 1) := by rw [append_size]; omega
                have HS3 := Lib.hid hs3; clear hs3
                go_wp2
                go_roundw
                case rel => exact ⟨k + 1, by omega, by go_num, _, HS3.out, rfl, hbf, hCf⟩
                case measure => simp [intOf]; omega
              · go_wp2
                go_roundw
                case rel => exact ⟨i + 1, by omega, by go_num, s2, by omega, rfl, hbd, hCd⟩
                case measure => simp [intOf]; omega
      · obtain rfl : i = N := by omega
        have hs200 : s.size ≤ 200 := by omega
        go_wp2_with fail
        refine (below_any 12 (by omega) (by omega) hCr).mono ?_
        rintro e wa ⟨x, hx0, hx1, rfl, hga, hCa⟩
        have hba := hbr.trans (below_of_only hga hCa.1 hbr.size)
        clear hbr hga hCr
        by_cases ht0 : x = 0
        · subst ht0
          go_wp2_with fail
          refine (pick_new [⟨#[32]⟩, ⟨#[32, 32]⟩, ⟨#[9]⟩, ⟨#[10]⟩, ⟨#[127]⟩, ⟨#[233]⟩] _ rfl 6 rfl (by omega) (by omega) _ 2 (by decide) hCa).mono ?_
          rintro e wb ⟨t, ht, rfl, hgb, hCb⟩
          have hbb := hba.trans (below_of_only hgb hCb.1 hba.size)
          clear hba hgb hCa hCb
          have hst : (s ++ t).size ≤ 2000 := by rw [append_size]; omega
          have HST := Lib.hid hst; clear hst
          go_wp2
          go_ret
          exact ⟨_, HST.out, rfl, hbb⟩
        · have ht0' : (x == 0) = false := by simpa using ht0
          by_cases ht1 : x = 1
          · subst ht1
            go_wp2_with fail
            refine (below_any 2 (by omega) (by omega) hCa).mono ?_
            rintro e wb ⟨z, hz0, hz1, rfl, hgb, hCb⟩
            have hbb := hba.trans (below_of_only hgb hCb.1 hba.size)
            clear hba hgb hCa
            go_wp2_with fail
            refine (long_int _ (by omega) (by omega) _).mono ?_
            rintro e wc ⟨t, ht, rfl, hbc⟩
            have hbcc := bstep' hbb hbb.size hbc
            have ht3 : t.size ≤ 700 := by omega
            clear ht hbb hbc hCb
            have hst : (s ++ t).size ≤ 2000 := by rw [append_size]; omega
            have HST := Lib.hid hst; clear hst
            go_wp2
            go_ret
            exact ⟨_, HST.out, rfl, hbcc⟩
          · have ht1' : (x == 1) = false := by simpa using ht1
            go_wp2
            go_ret
            exact ⟨s, by omega, rfl, hba⟩
  · go_wp2_with fail
    refine (below_any 2 (by omega) (by omega) hC3).mono ?_
    rintro e w4 ⟨z, hz0, hz1, rfl, hg1, hC4⟩
    have hb4 := hb3.trans (below_of_only hg1 hC4.1 hb3.size)
    clear hb3 hg1 hC3 hx0 hx1
    obtain ⟨N, hN0⟩ : ∃ N : Nat, 24 + z = (N : Int) := ⟨(24 + z).toNat, by omega⟩
    have hN : N ≤ 25 := by omega
    go_wp2_with fail
    clear hN0 hz0 hz1
    have hb3 := hb4
    have hC3 := hC4
    clear hb4 hC4
    go_loopw [5, 6] (fun v5 v6 wr => ∃ i : Nat, i ≤ N ∧ v6 = .int .i64 i ∧ LineSt w.heap.size c w (8 * i) v5 wr) (fun _ v6 _ => N - (intOf v6).toNat)
    case atStart => exact ⟨0, Nat.zero_le _, rfl, ByteArray.empty, Nat.le_refl _, rfl, hb3, hC3⟩
    case round =>
      obtain ⟨i, hi, rfl, s, hs, rfl, hbr, hCr⟩ := hrel
      clear hb3 hC3
      obtain ⟨wo, rfl⟩ : ∃ wo : World, wo = wr := ⟨_, rfl⟩
      by_cases hlt : i < N
      · by_cases hi0 : i = 0
        · subst hi0
          go_wp2_with fail
          refine (once_any 5 (by omega) (by omega) hCr).mono ?_
          rintro e wy ⟨y, rfl, hgy, hCy⟩
          have hby := hbr.trans (below_of_only hgy hCy.1 hbr.size)
          clear hbr hgy hCr
          cases y
          · go_wp2_with fail
            have hsz0 : (s).size ≤ 8 * 0 + 3 + 0 := by omega
            have hbz := hby
            have hCz := hCy
            go_loopw [5, 7] (fun v5 v7 wr => ∃ k : Nat, k ≤ 5 ∧ v7 = .int .i64 k ∧ LineSt w.heap.size c w (8 * 0 + 3 + k) v5 wr) (fun _ v7 _ => 6 - (intOf v7).toNat)
            case atStart => exact ⟨0, by omega, rfl, _, hsz0, rfl, hbz, hCz⟩
            case round =>
              obtain ⟨k, hk, rfl, s2, hs2, rfl, hbr2, hCr2⟩ := hrel
              clear hsz0 hbz hCz
              go_wp2_with fail
              refine (below_any 5 (by omega) (by omega) hCr2).mono ?_
              rintro e wd ⟨x, hx0, hx1, rfl, hgd, hCd⟩
              have hbd := hbr2.trans (below_of_only hgd hCd.1 hbr2.size)
              clear hbr2 hgd hCr2
              by_cases hkx : (k : Int) ≤ x
              · go_wp2_with fail
                refine (below_any 94 (by omega) (by omega) hCd).mono ?_
                rintro e we ⟨y, hy0, hy1, rfl, hge, hCe⟩
                have hbe := hbd.trans (below_of_only hge hCe.1 hbd.size)
                have hbf := hbe.alloc hbe.size (.cells #[.int .u8 (33 + y)] 5)
                have hCf := hCe.kept (World.grownBy_alloc we (.cells #[.int .u8 (33 + y)] 5) none) (by intro r hr; cases hr)
                clear hbd hge hCd hbe hCe
                have hcv := run_convert_bytes_arg (P := Tryd.prog) (we.alloc (.cells #[.int .u8 (33 + y)] 5)) 22 5 Tryd.underlying22 Tryd.underlying5 we.heap.size 0 1 1 [33 + y] rfl
                  (fun q hq => by obtain rfl : q = 0 := (by omega); exact World.news_of_block (heap_alloc_new we (.cells #[.int .u8 (33 + y)] 5)) 0 _ rfl) 9 Tryd.underlying9
                have hs1 : (strOfNums [33 + y]).size ≤ 1 := by rw [strOfNums_size]; exact Nat.le_refl _
                have hs3 : (s2 ++ strOfNums [33 + y]).size ≤ 8 * 0 + 3 + (k + 1) := by rw [append_size]; omega
                have HS3 := Lib.hid hs3; clear hs3
                go_wp2
                go_roundw
                case rel => exact ⟨k + 1, by omega, by go_num, _, HS3.out, rfl, hbf, hCf⟩
                case measure => simp [intOf]; omega
              · go_wp2
                go_roundw
                case rel => exact ⟨0 + 1, by omega, by go_num, s2, by omega, rfl, hbd, hCd⟩
                case measure => simp [intOf]; omega
          · skip
            go_wp2_with fail
            refine (below_any 2 (by omega) (by omega) hCy).mono ?_
            rintro e wa ⟨x, hx0, hx1, rfl, hga, hCa⟩
            have hba := (hby).trans (below_of_only hga hCa.1 (hby).size)
            go_wp2_with fail
            refine (below_any 3 (by omega) (by omega) hCa).mono ?_
            rintro e wb ⟨y, hy0, hy1, rfl, hgb, hCb⟩
            have hbb := hba.trans (below_of_only hgb hCb.1 hba.size)
            clear hba hga hCa hgb
            have hx01 : x = 0 ∨ x = 1 := by omega
            clear hx0 hx1
            rcases hx01 with rfl | rfl
            all_goals
              go_wp2_with fail
              refine (long_int _ (by omega) (by omega) _).mono ?_
              rintro e wc ⟨t, ht, rfl, hbc⟩
              have ht3 : t.size ≤ 3 := by omega
              have hbcc := bstep' hbb hbb.size hbc
              have hCc := hCb.kept (only_of_below hbc none) (by intro r hr; cases hr)
              clear ht hbb hbc hCb
              go_wp2_with fail
              have hsz0 : (s ++ t).size ≤ 8 * 0 + 3 + 0 := by rw [append_size]; omega
              have hbz := hbcc
              have hCz := hCc
              go_loopw [5, 7] (fun v5 v7 wr => ∃ k : Nat, k ≤ 5 ∧ v7 = .int .i64 k ∧ LineSt w.heap.size c w (8 * 0 + 3 + k) v5 wr) (fun _ v7 _ => 6 - (intOf v7).toNat)
              case atStart => exact ⟨0, by omega, rfl, _, hsz0, rfl, hbz, hCz⟩
              case round =>
                obtain ⟨k, hk, rfl, s2, hs2, rfl, hbr2, hCr2⟩ := hrel
                clear hsz0 hbz hCz
                go_wp2_with fail
                refine (below_any 5 (by omega) (by omega) hCr2).mono ?_
                rintro e wd ⟨x, hx0, hx1, rfl, hgd, hCd⟩
                have hbd := hbr2.trans (below_of_only hgd hCd.1 hbr2.size)
                clear hbr2 hgd hCr2
                by_cases hkx : (k : Int) ≤ x
                · go_wp2_with fail
                  refine (below_any 94 (by omega) (by omega) hCd).mono ?_
                  rintro e we ⟨y, hy0, hy1, rfl, hge, hCe⟩
                  have hbe := hbd.trans (below_of_only hge hCe.1 hbd.size)
                  have hbf := hbe.alloc hbe.size (.cells #[.int .u8 (33 + y)] 5)
                  have hCf := hCe.kept (World.grownBy_alloc we (.cells #[.int .u8 (33 + y)] 5) none) (by intro r hr; cases hr)
                  clear hbd hge hCd hbe hCe
                  have hcv := run_convert_bytes_arg (P := Tryd.prog) (we.alloc (.cells #[.int .u8 (33 + y)] 5)) 22 5 Tryd.underlying22 Tryd.underlying5 we.heap.size 0 1 1 [33 + y] rfl
                    (fun q hq => by obtain rfl : q = 0 := (by omega); exact World.news_of_block (heap_alloc_new we (.cells #[.int .u8 (33 + y)] 5)) 0 _ rfl) 9 Tryd.underlying9
                  have hs1 : (strOfNums [33 + y]).size ≤ 1 := by rw [strOfNums_size]; exact Nat.le_refl _
                  have hs3 : (s2 ++ strOfNums [33 + y]).size ≤ 8 * 0 + 3 + (k + 1) := by rw [append_size]; omega
                  have HS3 := Lib.hid hs3; clear hs3
                  go_wp2
                  go_roundw
                  case rel => exact ⟨k + 1, by omega, by go_num, _, HS3.out, rfl, hbf, hCf⟩
                  case measure => simp [intOf]; omega
                · go_wp2
                  go_roundw
                  case rel => exact ⟨0 + 1, by omega, by go_num, s2, by omega, rfl, hbd, hCd⟩
                  case measure => simp [intOf]; omega
        · have hi1 : 0 < i := by omega
          go_wp2_with fail
          refine (below_any 2 (by omega) (by omega) hCr).mono ?_
          rintro e wa ⟨x, hx0, hx1, rfl, hga, hCa⟩
          have hba := (hbr).trans (below_of_only hga hCa.1 (hbr).size)
          go_wp2_with fail
          refine (below_any 3 (by omega) (by omega) hCa).mono ?_
          rintro e wb ⟨y, hy0, hy1, rfl, hgb, hCb⟩
          have hbb := hba.trans (below_of_only hgb hCb.1 hba.size)
          clear hba hga hCa hgb
          have hx01 : x = 0 ∨ x = 1 := by omega
          clear hx0 hx1
          rcases hx01 with rfl | rfl
          all_goals
            go_wp2_with fail
            refine (long_int _ (by omega) (by omega) _).mono ?_
            rintro e wc ⟨t, ht, rfl, hbc⟩
            have ht3 : t.size ≤ 3 := by omega
            have hbcc := bstep' hbb hbb.size hbc
            have hCc := hCb.kept (only_of_below hbc none) (by intro r hr; cases hr)
            clear ht hbb hbc hCb
            go_wp2_with fail
            have hsz0 : (s ++ t).size ≤ 8 * i + 3 + 0 := by rw [append_size]; omega
            have hbz := hbcc
            have hCz := hCc
            go_loopw [5, 7] (fun v5 v7 wr => ∃ k : Nat, k ≤ 5 ∧ v7 = .int .i64 k ∧ LineSt w.heap.size c w (8 * i + 3 + k) v5 wr) (fun _ v7 _ => 6 - (intOf v7).toNat)
            case atStart => exact ⟨0, by omega, rfl, _, hsz0, rfl, hbz, hCz⟩
            case round =>
              obtain ⟨k, hk, rfl, s2, hs2, rfl, hbr2, hCr2⟩ := hrel
              clear hsz0 hbz hCz
              go_wp2_with fail
              refine (below_any 5 (by omega) (by omega) hCr2).mono ?_
              rintro e wd ⟨x, hx0, hx1, rfl, hgd, hCd⟩
              have hbd := hbr2.trans (below_of_only hgd hCd.1 hbr2.size)
              clear hbr2 hgd hCr2
              by_cases hkx : (k : Int) ≤ x
              · go_wp2_with fail
                refine (below_any 94 (by omega) (by omega) hCd).mono ?_
                rintro e we ⟨y, hy0, hy1, rfl, hge, hCe⟩
                have hbe := hbd.trans (below_of_only hge hCe.1 hbd.size)
                have hbf := hbe.alloc hbe.size (.cells #[.int .u8 (33 + y)] 5)
                have hCf := hCe.kept (World.grownBy_alloc we (.cells #[.int .u8 (33 + y)] 5) none) (by intro r hr; cases hr)
                clear hbd hge hCd hbe hCe
                have hcv := run_convert_bytes_arg (P := Tryd.prog) (we.alloc (.cells #[.int .u8 (33 + y)] 5)) 22 5 Tryd.underlying22 Tryd.underlying5 we.heap.size 0 1 1 [33 + y] rfl
                  (fun q hq => by obtain rfl : q = 0 := (by omega); exact World.news_of_block (heap_alloc_new we (.cells #[.int .u8 (33 + y)] 5)) 0 _ rfl) 9 Tryd.underlying9
                have hs1 : (strOfNums [33 + y]).size ≤ 1 := by rw [strOfNums_size]; exact Nat.le_refl _
                have hs3 : (s2 ++ strOfNums [33 + y]).size ≤ 8 * i + 3 + (k + 1) := by rw [append_size]; omega
                have HS3 := Lib.hid hs3; clear hs3
                go_wp2
                go_roundw
                case rel => exact ⟨k + 1, by omega, by go_num, _, HS3.out, rfl, hbf, hCf⟩
                case measure => simp [intOf]; omega
              · go_wp2
                go_roundw
                case rel => exact ⟨i + 1, by omega, by go_num, s2, by omega, rfl, hbd, hCd⟩
                case measure => simp [intOf]; omega
      · obtain rfl : i = N := by omega
        have hs200 : s.size ≤ 200 := by omega
        go_wp2_with fail
        refine (below_any 12 (by omega) (by omega) hCr).mono ?_
        rintro e wa ⟨x, hx0, hx1, rfl, hga, hCa⟩
        have hba := hbr.trans (below_of_only hga hCa.1 hbr.size)
        clear hbr hga hCr
        by_cases ht0 : x = 0
        · subst ht0
          go_wp2_with fail
          refine (pick_new [⟨#[32]⟩, ⟨#[32, 32]⟩, ⟨#[9]⟩, ⟨#[10]⟩, ⟨#[127]⟩, ⟨#[233]⟩] _ rfl 6 rfl (by omega) (by omega) _ 2 (by decide) hCa).mono ?_
          rintro e wb ⟨t, ht, rfl, hgb, hCb⟩
          have hbb := hba.trans (below_of_only hgb hCb.1 hba.size)
          clear hba hgb hCa hCb
          have hst : (s ++ t).size ≤ 2000 := by rw [append_size]; omega
          have HST := Lib.hid hst; clear hst
          go_wp2
          go_ret
          exact ⟨_, HST.out, rfl, hbb⟩
        · have ht0' : (x == 0) = false := by simpa using ht0
          by_cases ht1 : x = 1
          · subst ht1
            go_wp2_with fail
            refine (below_any 2 (by omega) (by omega) hCa).mono ?_
            rintro e wb ⟨z, hz0, hz1, rfl, hgb, hCb⟩
            have hbb := hba.trans (below_of_only hgb hCb.1 hba.size)
            clear hba hgb hCa
            go_wp2_with fail
            refine (long_int _ (by omega) (by omega) _).mono ?_
            rintro e wc ⟨t, ht, rfl, hbc⟩
            have hbcc := bstep' hbb hbb.size hbc
            have ht3 : t.size ≤ 700 := by omega
            clear ht hbb hbc hCb
            have hst : (s ++ t).size ≤ 2000 := by rw [append_size]; omega
            have HST := Lib.hid hst; clear hst
            go_wp2
            go_ret
            exact ⟨_, HST.out, rfl, hbcc⟩
          · have ht1' : (x == 1) = false := by simpa using ht1
            go_wp2
            go_ret
            exact ⟨s, by omega, rfl, hba⟩
end Go.Proofs.YtidfeffpfcnnlaaDoor
