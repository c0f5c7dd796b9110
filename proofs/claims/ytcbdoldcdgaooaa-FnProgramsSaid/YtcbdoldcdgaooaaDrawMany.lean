/- The contract of the draw of a list of tunes: l09List, DrawTunes. No condition. Made by gen_many.py. -/
import Derived.Test.YtcbdoldcdgaooaaTuneDraw
import Derived.Test.YtcbdoldcdgaooaaRdCapN
import Derived.Maps.AppendAt
namespace Go.Proofs.Ytcbdoldcdgaooaa
open Go.ChangeShapes Go.WideShapes Go.ChangeAt Go.RowKit

set_option maxHeartbeats 2000000 in
theorem l02tuneC_any {B c : Nat} {w : World} (hC : Cur 120 B w c) :
    Calls Try.prog 95 #[.pointer (some ⟨c, 0, none⟩)] w fun e w' => ∃ t v, TuneDrawn t ∧ e = .returned v ∧ w'.ownsRow w.heap.size 41 2 v t.length (flat2 t) ∧ w.grownBy w' (some c) ∧ Cur 120 B w' c := by
  obtain ⟨i0, hi, hz0, hz1, hz2⟩ := info_parts infoNote
  have hcl := hC.lt
  go_enter Try.func95, Try.ntmps95
  go_wp2_with fail
  have hCa : Cur 120 B (w.alloc (.cells #[] 41)) c := hC.kept (only_alloc (World.grownBy.refl _ _) _) (row := none) (by intro r hr; cases hr)
  have hoa : (w.alloc (.cells #[] 41)).ownsRow w.heap.size 41 2 (.slice (some ⟨w.heap.size, 0, none⟩) 0 0) 0 (flat2 []) := World.ownsRow_made w #[] 0 (Nat.le_refl _) (by simp) rfl
  have hga : w.grownBy (w.alloc (.cells #[] 41)) (some c) := only_alloc (World.grownBy.refl _ _) _
  refine (below_any 12 (by omega) (by omega) hCa).mono ?_
  rintro e w1 ⟨n, hn0, hn1, rfl, hg1, hC1⟩
  obtain ⟨m, rfl⟩ := Int.eq_ofNat_of_zero_le hn0
  have hne : w.heap.size ≠ c := by omega
  have ho1 := hoa.kept hg1 (Or.inr (by simp [Value.ownBlock]; exact hne))
  have hgt := only_trans hga hg1
  clear hCa hoa hga hg1
  go_wp2_with fail
  go_loopw [3, 5] (fun v3 v5 wr => ∃ (k : Nat) (l : List (Int × Int)), k ≤ m ∧ l.length = k ∧ Hid (DrawnNotes l) ∧ v5 = .int .i64 k ∧ wr.ownsRow w.heap.size 41 2 v3 k (flat2 l) ∧ Cur 120 B wr c ∧ w.grownBy wr (some c)) (fun _ v5 _ => m - (intOf v5).toNat)
  case atStart => exact ⟨0, [], Nat.zero_le _, rfl, Lib.hid (fun p hp => by cases hp), rfl, ho1, hC1, hgt⟩
  case round =>
    obtain ⟨k, l, hk, hlk, HD, rfl, hown, hCr, hgr⟩ := hrel
    have HLK := Lib.hid hlk; clear hlk ho1 hC1 hgt
    by_cases hlt : k < m
    · go_wp2_with fail
      refine (below_any 16 (by omega) (by omega) hCr).mono ?_
      rintro e w2 ⟨x, hx0, hx1, rfl, hg2, hC2⟩
      have ho2 := hown.kept hg2 (apartC hown hcl)
      have hgr2 := only_trans hgr hg2
      clear hCr hown hgr hg2
      go_wp2_with fail
      refine (below_any 10 (by omega) (by omega) hC2).mono ?_
      rintro e w3 ⟨y, hy0, hy1, rfl, hg3, hC3⟩
      have ho3 := ho2.kept hg3 (apartC ho2 hcl)
      have hgr3 := only_trans hgr2 hg3
      clear hC2 ho2 hgr2 hg3
      have hls : Hid (DrawnNotes (l ++ [(x, 10 + y)])) := Lib.hid (fun p hp => by
        rcases List.mem_append.1 hp with h | h
        · exact HD.out p h
        · obtain rfl : p = (x, 10 + y) := by simpa using h
          exact ⟨⟨hx0, by simp only; omega⟩, by simp only; omega⟩)
      have hsz : w.heap.size ≤ w3.heap.size := hgr3.size
      go_wp2_with (at_builtin; refine wpList_append_own _ rfl _ _ 42 rfl w.heap.size 41 i0 _ 2 16 Try.underlying42 hi hz0 hz1 hz2 rfl (by decide) _ k (flat2 l) rfl (ho3.alloc _) ⟨w3.heap.size, 0, none⟩ 1 1 (flat2 [(x, 10 + y)]) rfl rfl ?c2 (flat2_one _) ?c3 ?c4 ?c5 ?_)
      case c2 => exact World.news_of_block (heap_alloc_new w3 _)
      case c3 => unfold maxLen; omega
      case c4 => omega
      case c5 => simp; omega
      intro v' w4 hown4 hgrow _
      have hgr4 : w.grownBy w4 (some c) := grow_own (only_alloc hgr3 _) hgrow (fun j hj => (ho3.lt j hj).1)
      have hC4 : Cur 120 B w4 c := by
        have h1 : Cur 120 B (w3.alloc (.cells #[.int .i64 x, .int .i64 (10 + y)] 41)) c := hC3.kept (only_alloc (World.grownBy.refl _ _) _) (row := none) (by intro r hr; cases hr)
        exact h1.kept hgrow (fun r hr => by
          have h2 := (ho3.lt r hr).1
          have h3 := hC3.1
          exact ⟨by omega, by omega⟩)
      have hown5 : w4.ownsRow w.heap.size 41 2 v' (k + 1) (flat2 (l ++ [(x, 10 + y)])) := by rw [flat2_append]; exact hown4
      have HL1 : Hid ((l ++ [(x, 10 + y)]).length = k + 1) := Lib.hid (by rw [List.length_append, HLK.out]; rfl)
      clear ho3 hC3 hgr3 hown4 hgrow
      go_wp2
      go_roundw
      case rel => exact ⟨k + 1, _, by omega, HL1.out, hls, by go_num, hown5, hC4, hgr4⟩
      case measure => simp [intOf]; omega
    · have hkm : k = m := by omega
      have hr : Rd2 wr u3 l := by unfold Rd2; rw [HLK.out]; exact Rd.of_own hown
      have HT := Lib.hid (tuneDrawn_of (by rw [HLK.out]; omega) HD.out)
      go_wp2_with fail
      refine (sort_any hr).mono ?_
      rintro e w5 ⟨v5, rfl, ho5, hb5⟩
      have hg5 : w.grownBy w5 (some c) := only_trans hgr (only_of_below hb5 _)
      have ho6 := ownS_mono ho5 hgr.size
      have hC6 : Cur 120 B w5 c := hCr.kept (only_of_below hb5 none) (row := none) (by intro r hr; cases hr)
      clear hr hown hCr hgr ho5 hb5
      go_wp2
      go_ret
      exact ⟨_, _, HT.out, rfl, ho6, hg5, hC6⟩


/-- A list of tunes that a call owns, no tune in the list's own block. -/
def OwW (lo : Nat) (w : World) (v : Value) (us : List Value) (ll : List (List (Int × Int))) : Prop :=
  us.length = ll.length ∧ w.ownsRow lo 42 1 v us.length us ∧ ∀ (i : Nat) (u : Value) (l : List (Int × Int)), us[i]? = some u → ll[i]? = some l → w.ownsRow lo 41 2 u l.length (flat2 l) ∧ ∀ g, v.ownBlock = some g → u.ownBlock ≠ some g
theorem OwW.rc {lo : Nat} {w : World} {v : Value} {us : List Value} {ll : List (List (Int × Int))} (h : OwW lo w v us ll) : RcN w v us ll :=
  ⟨⟨h.1, Rd.of_own h.2.1, fun i u l hu hl => Rd.of_own (h.2.2 i u l hu hl).1⟩, fun i u hu => by
    obtain ⟨l, hl⟩ : ∃ l, ll[i]? = some l := ⟨_, List.getElem?_eq_getElem (by rw [← h.1]; exact (List.getElem?_eq_some_iff.1 hu).1)⟩
    exact capOk_of_own (h.2.2 i u l hu hl).1⟩
theorem OwW.nil {lo : Nat} {w : World} {v : Value} (h : w.ownsRow lo 42 1 v 0 []) : OwW lo w v [] [] := ⟨rfl, h, fun i u l hu => by simp at hu⟩
theorem apart_low {a : World} {c lo e s n : Nat} {v : Value} {xs : List Value} (h : a.ownsRow lo e s v n xs) (hc : c < lo) : v.ownBlock = none ∨ v.ownBlock ≠ some c := by
  cases h1 : v.ownBlock with
  | none => exact Or.inl rfl
  | some k => exact Or.inr fun e => by have := (h.lt k h1).1; injection e; omega
theorem OwW.kept {lo c : Nat} {a b : World} {v : Value} {us : List Value} {ll : List (List (Int × Int))} (h : OwW lo a v us ll) (k : a.grownBy b (some c)) (hc : c < lo) : OwW lo b v us ll :=
  ⟨h.1, h.2.1.kept k (apart_low h.2.1 hc), fun i u l hu hl => ⟨(h.2.2 i u l hu hl).1.kept k (apart_low (h.2.2 i u l hu hl).1 hc), (h.2.2 i u l hu hl).2⟩⟩
/-- One tune more. -/
theorem OwW.push {lo A : Nat} {b c : World} {v v' u : Value} {us : List Value} {ll : List (List (Int × Int))} {l : List (Int × Int)} (h : OwW lo b v us ll) (hv : ∀ g, v.ownBlock = some g → g < A)
    (hold : ∀ (i : Nat) (t : Value), us[i]? = some t → ∀ g, t.ownBlock = some g → g < A) (hlo : lo ≤ A) (hA : A ≤ b.heap.size)
    (hu : b.ownsRow A 41 2 u l.length (flat2 l)) (ho : c.ownsRow lo 42 1 v' (us.length + 1) (us ++ [u])) (hg : b.grownBy c v.ownBlock) (hat : v'.ownBlock = v.ownBlock ∨ v'.ownBlock = some b.heap.size) :
    OwW lo c v' (us ++ [u]) (ll ++ [l]) := by
  have hul : ∀ g, u.ownBlock = some g → A ≤ g ∧ g < b.heap.size := fun g hg => World.ownsRow.lt hu g hg
  have apart : ∀ {t : Value}, (∀ g, v.ownBlock = some g → t.ownBlock ≠ some g) → t.ownBlock = none ∨ t.ownBlock ≠ v.ownBlock := fun {t} q => by
    cases ht : t.ownBlock with
    | none => exact Or.inl rfl
    | some g => exact Or.inr fun e => q g e.symm ht
  refine ⟨by rw [List.length_append, List.length_append, h.1]; rfl, by rw [List.length_append]; exact ho, fun i t l' ht hl' => ?_⟩
  by_cases hi : i < us.length
  · rw [List.getElem?_append_left hi] at ht
    rw [List.getElem?_append_left (by rw [← h.1]; exact hi)] at hl'
    obtain ⟨k1, k2⟩ := h.2.2 i t l' ht hl'
    refine ⟨World.ownsRow.kept k1 hg (apart k2), fun g hg' e => ?_⟩
    rcases hat with e2 | e2
    · rw [e2] at hg'; exact k2 g hg' e
    · rw [e2] at hg'
      obtain rfl := Option.some.inj hg'
      have := hold i t ht _ e
      omega
  · rw [List.getElem?_append_right (by omega)] at ht
    have hlt := (List.getElem?_eq_some_iff.1 ht).1
    rw [List.length_singleton] at hlt
    obtain rfl : i = us.length := by omega
    rw [Nat.sub_self] at ht
    obtain rfl : u = t := Option.some.inj ht
    rw [h.1, List.getElem?_append_right (Nat.le_refl _), Nat.sub_self] at hl'
    obtain rfl : l = l' := Option.some.inj hl'
    refine ⟨ownS_mono (World.ownsRow.kept hu hg (apart fun g hgv e => by have := hv g hgv; have := (hul g e).1; omega)) hlo, fun g hg' e => ?_⟩
    rcases hat with e2 | e2
    · rw [e2] at hg'; have := hv g hg'; have := (hul g e).1; omega
    · rw [e2] at hg'
      obtain rfl := Option.some.inj hg'
      have := (hul _ e).2
      omega
theorem infoTS : (Try.prog.info? 42).map (fun i => (i.zero, i.size, i.bytes)) = some (some (.slice none 0 0), 1, 24) := by kernel_rfl

set_option maxHeartbeats 4000000 in
set_option maxRecDepth 100000 in
theorem l09list_any {B c : Nat} {w : World} (hC : Cur 120 B w c) :
    Calls Try.prog 81 #[.pointer (some ⟨c, 0, none⟩)] w fun e w' => ∃ v us ll, e = .returned v ∧ RcN w' v us ll ∧ ll.length ≤ 4 ∧ (∀ t ∈ ll, TuneDrawn t) ∧ w.grownBy w' (some c) := by
  obtain ⟨i0, hi, hz0, hz1, hz2⟩ := info_parts infoTS
  have hcl := hC.lt
  go_enter Try.func81, Try.ntmps81
  go_wp2_with fail
  have hCa : Cur 120 B (w.alloc (.cells #[] 42)) c := hC.kept (only_alloc (World.grownBy.refl _ _) _) (row := none) (by intro r hr; cases hr)
  have hoa : (w.alloc (.cells #[] 42)).ownsRow w.heap.size 42 1 (.slice (some ⟨w.heap.size, 0, none⟩) 0 0) 0 [] := World.ownsRow_made w #[] 0 (Nat.le_refl _) (by simp) rfl
  have hga : w.grownBy (w.alloc (.cells #[] 42)) (some c) := only_alloc (World.grownBy.refl _ _) _
  refine (below_any 5 (by omega) (by omega) hCa).mono ?_
  rintro e w1 ⟨n, hn0, hn1, rfl, hg1, hC1⟩
  obtain ⟨m, rfl⟩ := Int.eq_ofNat_of_zero_le hn0
  have hW1 := (OwW.nil hoa).kept hg1 hcl
  have hgt := only_trans hga hg1
  clear hCa hoa hga hg1
  go_wp2_with fail
  go_loopw [3, 5] (fun v3 v5 wr => ∃ (k : Nat) (us : List Value) (ll : List (List (Int × Int))), k ≤ m ∧ ll.length = k ∧ Hid (∀ t ∈ ll, TuneDrawn t) ∧ v5 = .int .i64 k ∧ OwW w.heap.size wr v3 us ll ∧ Cur 120 B wr c ∧ w.grownBy wr (some c)) (fun _ v5 _ => m - (intOf v5).toNat)
  case atStart => exact ⟨0, [], [], Nat.zero_le _, rfl, Lib.hid (fun t ht => by cases ht), rfl, hW1, hC1, hgt⟩
  case round =>
    obtain ⟨k, us, ll, hk, hlk, HD, rfl, hW, hCr, hgr⟩ := hrel
    have HLK := Lib.hid hlk
    clear hlk hW1 hC1 hgt
    by_cases hlt : k < m
    · go_wp2_with fail
      refine (l02tuneC_any hCr).mono ?_
      rintro e w2 ⟨t, v2, htd, rfl, ho2, hg2, hC2⟩
      have hW2 := hW.kept hg2 hcl
      have hgr2 := only_trans hgr hg2
      have hsz : w.heap.size ≤ wr.heap.size := hgr.size
      have hsz2 : wr.heap.size ≤ w2.heap.size := hg2.size
      have HV : Hid (∀ g, u3.ownBlock = some g → g < wr.heap.size) := Lib.hid fun g hg => (hW.2.1.lt g hg).2
      have HU : Hid (∀ (i : Nat) (t : Value), us[i]? = some t → ∀ g, t.ownBlock = some g → g < wr.heap.size) := Lib.hid fun i t ht g hg => by
        obtain ⟨l, hl⟩ : ∃ l, ll[i]? = some l := ⟨_, List.getElem?_eq_getElem (by rw [← hW.1]; exact (List.getElem?_eq_some_iff.1 ht).1)⟩
        exact ((hW.2.2 i t l ht hl).1.lt g hg).2
      have HT := Lib.hid htd
      have hul : us.length ≤ 4 := by have := hW.1; have := HLK.out; omega
      obtain ⟨a2, c2, rfl⟩ := ownS_slice ho2
      clear hW hCr hgr hg2 htd
      go_wp2_with (at_builtin; refine wpList_append_own_at _ rfl _ _ 54 rfl w.heap.size 42 i0 (.slice none 0 0) 1 24 Try.underlying54 hi hz0 hz1 hz2 rfl (by decide) _ us.length _ rfl (hW2.2.1.alloc _) ⟨w2.heap.size, 0, none⟩ 1 1 [.slice a2 t.length c2] rfl rfl ?c1 ?c2 ?c3 ?c4 ?c5 ?_)
      case c1 => exact cell_one_new _ _ _
      case c2 => simp [Value.oneCell']
      case c3 => unfold maxLen; omega
      case c4 => omega
      case c5 => simp; omega
      intro v' w4 hown4 hgrow _ hat
      have hW2a : OwW w.heap.size (w2.alloc (.cells #[.slice a2 t.length c2] 42)) u3 us ll := ⟨hW2.1, hW2.2.1.alloc _, fun i u l hu hl => ⟨(hW2.2.2 i u l hu hl).1.alloc _, (hW2.2.2 i u l hu hl).2⟩⟩
      have hW4 := hW2a.push HV.out HU.out hsz (by rw [size_alloc]; omega) (ho2.alloc _) hown4 hgrow (by rw [size_alloc]; exact hat)
      have hgr4 : w.grownBy w4 (some c) := grow_own (only_alloc hgr2 _) hgrow (fun j hj => (hW2.2.1.lt j hj).1)
      have hC4 : Cur 120 B w4 c := by
        have h1 : Cur 120 B (w2.alloc (.cells #[.slice a2 t.length c2] 42)) c := hC2.kept (only_alloc (World.grownBy.refl _ _) _) (row := none) (by intro r hr; cases hr)
        exact h1.kept hgrow (fun r hr => by
          have h2 := (hW2.2.1.lt r hr).1
          have h3 := hC2.1
          exact ⟨by omega, by omega⟩)
      have HL1 : Hid ((ll ++ [t]).length = k + 1) := Lib.hid (by rw [List.length_append, HLK.out]; rfl)
      have HD1 : Hid (∀ u ∈ ll ++ [t], TuneDrawn u) := Lib.hid fun u hu => by
        rcases List.mem_append.1 hu with h | h
        · exact HD.out u h
        · rw [List.mem_singleton] at h; rw [h]; exact HT.out
      clear ho2 hC2 hgr2 hown4 hgrow hat hW2 hW2a
      go_wp2
      go_roundw
      case rel => exact ⟨k + 1, _, _, by omega, HL1.out, HD1, by go_num, hW4, hC4, hgr4⟩
      case measure => simp [intOf]; omega
    · have hk4 : Hid (ll.length ≤ 4) := Lib.hid (by have := HLK.out; omega)
      go_wp2
      go_ret
      exact ⟨_, us, ll, rfl, hW.rc, hk4.out, HD.out, hgr⟩

theorem drawtunes_any {w : World} {v : Value} {n : Nat} (hC : Code w w.heap.size v n) :
    Calls Try.prog 33 #[v] w fun e w' => ∃ v us ll, e = .returned v ∧ RcN w' v us ll ∧ ll.length ≤ 4 ∧ (∀ t ∈ ll, TuneDrawn t) ∧ Below w.heap.size w w' := by
  go_enter Try.func33, Try.ntmps33
  go_wp2_with fail
  refine (new_any hC).mono ?_
  rintro e w1 ⟨c, rfl, hb1, hC1⟩
  go_wp2_with fail
  refine (l09list_any hC1).mono ?_
  rintro e w2 ⟨v2, us, ll, rfl, hr, hl, hd, hg2⟩
  have hb2 := hb1.grown hg2 hb1.size (fun k hk => by injection hk with e; rw [← e]; exact hC1.1)
  go_wp2
  go_ret
  exact ⟨v2, us, ll, rfl, hr, hl, hd, hb2⟩
end Go.Proofs.Ytcbdoldcdgaooaa
