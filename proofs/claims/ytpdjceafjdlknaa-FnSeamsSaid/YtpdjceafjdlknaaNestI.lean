/- Rows of rows of ints: what is read, what a call owns, eqIntSS, markIntSS, heldIntSS, one row more. No condition. Made by mk_nesti.py. -/
import Derived.Test.YtpdjceafjdlknaaNestKit
import Derived.Test.YtpdjceafjdlknaaInts
import Derived.Test.YtpdjceafjdlknaaCylOps
import Derived.Test.YtpdjceafjdlknaaCylSpec
namespace Go.Proofs.Ytpdjceafjdlknaa
open Go.ChangeShapes Go.WideShapes Go.ChangeAt Go.RowKit

/-- v is a slice of slices of notes: its cells are us, the i-th one reads as the i-th of ll. -/
def RdI (w : World) (v : Value) (us : List Value) (ll : List (List Int)) : Prop :=
  us.length = ll.length ∧ Rd 1 w v us.length us ∧ ∀ (i : Nat) (u : Value) (l : List Int), us[i]? = some u → ll[i]? = some l → Rd1 w u l
theorem RdI.below {w w' : World} {v : Value} {us : List Value} {ll : List (List Int)} (h : RdI w v us ll) (hb : Below w.heap.size w w') : RdI w' v us ll :=
  ⟨h.1, Rd.below h.2.1 hb, fun i u l hu hl => Rd.below (h.2.2 i u l hu hl) hb⟩
theorem RdI.slice {w : World} {v : Value} {us : List Value} {ll : List (List Int)} (h : RdI w v us ll) : ∃ a cap, v = .slice a ll.length cap := by
  rw [← h.1]; exact Rd.slice h.2.1
theorem RdI.len {w : World} {v : Value} {us : List Value} {ll : List (List Int)} (h : RdI w v us ll) : ll.length ≤ maxLen := by rw [← h.1]; exact h.2.1.2.1
theorem RdI.cell {w : World} {v : Value} {us : List Value} {ll : List (List Int)} (h : RdI w v us ll) {i : Nat} {l : List Int} (hi : ll[i]? = some l) :
    ∃ b off cap u, us[i]? = some u ∧ v = .slice (some ⟨b, off, none⟩) ll.length cap ∧ w.cell? ⟨b, off + i, none⟩ = some u ∧ Rd1 w u l := by
  have hlt : i < ll.length := (List.getElem?_eq_some_iff.1 hi).1
  have hlt' : i < us.length := by rw [h.1]; exact hlt
  obtain ⟨b, off, cap, rfl, hc⟩ := Rd.pos h.2.1 (by omega)
  have hu : us[i]? = some us[i] := List.getElem?_eq_getElem hlt'
  exact ⟨b, off, cap, us[i], hu, by rw [h.1], by rw [hc i (by omega)]; exact hu, h.2.2 i _ l hu hi⟩
/-- An own slice of own rows, all in the blocks from lo to hi, no two in one block. -/
def OwI (lo hi : Nat) (w : World) (v : Value) (us : List Value) (ll : List (List Int)) : Prop :=
  us.length = ll.length ∧ w.ownsRow lo 34 1 v us.length us ∧ (∀ (g : Nat), v.ownBlock = some g → g < hi) ∧
    (∀ (i : Nat) (u : Value) (l : List Int), us[i]? = some u → ll[i]? = some l → w.ownsRow lo 3 1 u l.length (l.map intV) ∧ (∀ (g : Nat), u.ownBlock = some g → g < hi ∧ v.ownBlock ≠ some g)) ∧
    (∀ (i j : Nat) (u t : Value) (g : Nat), us[i]? = some u → us[j]? = some t → i ≠ j → u.ownBlock = some g → t.ownBlock ≠ some g)
theorem OwI.rd {lo hi : Nat} {w : World} {v : Value} {us : List Value} {ll : List (List Int)} (h : OwI lo hi w v us ll) : RdI w v us ll :=
  ⟨h.1, Rd.of_own h.2.1, fun i u l hu hl => Rd.of_own (h.2.2.2.1 i u l hu hl).1⟩
theorem OwI.band {lo hi lo' hi' : Nat} {a b : World} {v : Value} {us : List Value} {ll : List (List Int)} (h : OwI lo hi a v us ll) (k : Band lo' hi' a b) (hd : hi ≤ lo' ∨ hi' ≤ lo) : OwI lo hi b v us ll := by
  refine ⟨h.1, own_band h.2.1 k fun g hg => ?_, h.2.2.1, fun i u l hu hl => ⟨own_band (h.2.2.2.1 i u l hu hl).1 k fun g hg => ?_, (h.2.2.2.1 i u l hu hl).2⟩, h.2.2.2.2⟩
  · have h1 := h.2.2.1 g hg
    have h2 := (World.ownsRow.lt h.2.1 g hg).1
    omega
  · have h1 := ((h.2.2.2.1 i u l hu hl).2 g hg).1
    have h2 := (World.ownsRow.lt (h.2.2.2.1 i u l hu hl).1 g hg).1
    omega
theorem OwI.below {lo hi : Nat} {a b : World} {v : Value} {us : List Value} {ll : List (List Int)} (h : OwI lo hi a v us ll) (k : Below a.heap.size a b) : OwI lo hi b v us ll := by
  refine ⟨h.1, ownS_below h.2.1 k, h.2.2.1, fun i u l hu hl => ⟨ownS_below (h.2.2.2.1 i u l hu hl).1 k, (h.2.2.2.1 i u l hu hl).2⟩, h.2.2.2.2⟩
def lensI (ll : List (List Int)) : Nat := (ll.map List.length).sum
theorem lensI_succ {ll : List (List Int)} {k : Nat} {l : List Int} (h : ll[k]? = some l) : lensI (ll.take (k + 1)) = lensI (ll.take k) + l.length := by
  unfold lensI; rw [List.take_add_one, h]; simp
theorem lensI_le (ll : List (List Int)) (k : Nat) : lensI (ll.take k) ≤ lensI ll := by
  have h : ll = ll.take k ++ ll.drop k := (List.take_append_drop k ll).symm
  have e : lensI ll = lensI (ll.take k) + lensI (ll.drop k) := by
    conv => lhs; rw [h]
    unfold lensI; rw [List.map_append, List.sum_append]
  omega


set_option maxHeartbeats 1000000 in
theorem eqII_same {w : World} {v1 v2 : Value} {us ts : List Value} {ll : List (List Int)} (h1 : RdI w v1 us ll) (h2 : RdI w v2 ts ll) :
    Calls Try.prog 28 #[v1, v2] w fun e w' => e = .returned (.bool true) ∧ Below w.heap.size w w' := by
  obtain ⟨a1, cap1, rfl⟩ := h1.slice
  obtain ⟨a2, cap2, rfl⟩ := h2.slice
  have hm := h1.len
  unfold maxLen at hm
  go_enter Try.func28, Try.ntmps28
  go_wp2
  go_loopw [5] (fun v5 wr => ∃ j : Nat, j ≤ ll.length ∧ v5 = .int .i64 (j : Int) ∧ Below w.heap.size w wr) (fun v5 _ => ll.length - (intOf v5).toNat)
  case atStart => exact ⟨0, Nat.zero_le _, rfl, Below.refl _ _⟩
  case round =>
    obtain ⟨j, hj, rfl, hbr⟩ := hrel
    by_cases hlt : j < ll.length
    · obtain ⟨l, hl⟩ : ∃ l, ll[j]? = some l := ⟨_, List.getElem?_eq_getElem hlt⟩
      obtain ⟨b1, o1, c1, u1, -, hv1, x1, hr1⟩ := (h1.below hbr).cell hl
      obtain ⟨b2, o2, c2, u2, -, hv2, x2, hr2⟩ := (h2.below hbr).cell hl
      simp only [Value.slice.injEq, true_and] at hv1 hv2
      obtain ⟨rfl, rfl⟩ := hv1
      obtain ⟨rfl, rfl⟩ := hv2
      clear hl
      go_wp2_with fail
      go_region_held3 (fun w' => w'.cell? ⟨b1, o1 + j, none⟩ = some u1 ∧ w'.cell? ⟨b2, o2 + j, none⟩ = some u2) (go_keep)
        ((go_at_call 54; refine (eqInts_same (Rd.below hr1 (Below.drew (Below.refl _ _))) (Rd.below hr2 (Below.drew (Below.refl _ _)))).mono ?_; rintro e w1 ⟨rfl, hb1⟩; have q1 := kept_cell hb1 x1; have q2 := kept_cell hb1 x2))
      all_goals
        have hb2 := bstep hbr (below_undrew hb1)
        clear hb1 q1 q2 x1 x2 hbr
        go_wp2
        go_roundw
        case rel => exact ⟨j + 1, by omega, by go_num, hb2⟩
        case measure => simp [intOf]; omega
    · obtain rfl : j = ll.length := by omega
      go_wp2
      go_ret
      exact ⟨rfl, hbr⟩

theorem rowcellI {w : World} {v : Value} {us : List Value} {ll : List (List Int)} (h1 : us.length = ll.length) (h2 : Rd 1 w v us.length us) {i : Nat} {l : List Int} (hi : ll[i]? = some l) :
    ∃ b off cap u, us[i]? = some u ∧ v = .slice (some ⟨b, off, none⟩) ll.length cap ∧ w.cell? ⟨b, off + i, none⟩ = some u ∧ True := by
  have hlt : i < ll.length := (List.getElem?_eq_some_iff.1 hi).1
  have hlt' : i < us.length := by omega
  obtain ⟨b, off, cap, rfl, hc⟩ := Rd.pos h2 (by omega)
  have hu : us[i]? = some us[i] := List.getElem?_eq_getElem hlt'
  exact ⟨b, off, cap, us[i], hu, by rw [h1], by rw [hc i (by omega)]; exact hu, trivial⟩
/-- Rows ahead of j bear their marks, the rest is as it was. -/
def MarkI (lo j k0 : Nat) (w : World) (v : Value) (us : List Value) (ll : List (List Int)) : Prop :=
  w.ownsRow lo 34 1 v us.length us ∧ (∀ (i : Nat) (u : Value) (l : List Int), j ≤ i → us[i]? = some u → ll[i]? = some l → w.ownsRow lo 3 1 u l.length (l.map intV)) ∧
    ∀ (i : Nat) (u : Value) (l : List Int), i < j → us[i]? = some u → ll[i]? = some l → ∃ ys, w.ownsRow lo 3 1 u l.length ys ∧ Mk (k0 + lensI (ll.take i)) l.length ys
/-- All rows bear their marks. -/
def MkI (k0 : Nat) (w : World) (v : Value) (ll : List (List Int)) : Prop :=
  ∃ us : List Value, us.length = ll.length ∧ Rd 1 w v us.length us ∧ ∀ (i : Nat) (u : Value) (l : List Int), us[i]? = some u → ll[i]? = some l → ∃ ys, Rd 1 w u l.length ys ∧ Mk (k0 + lensI (ll.take i)) l.length ys
theorem MkI.below {k0 : Nat} {w w' : World} {v : Value} {ll : List (List Int)} (h : MkI k0 w v ll) (hb : Below w.heap.size w w') : MkI k0 w' v ll := by
  obtain ⟨us, h1, h2, h3⟩ := h
  exact ⟨us, h1, Rd.below h2 hb, fun i u l hu hl => by obtain ⟨ys, k1, k2⟩ := h3 i u l hu hl; exact ⟨ys, Rd.below k1 hb, k2⟩⟩
theorem apart_of {u t : Value} (h : ∀ g, u.ownBlock = some g → t.ownBlock ≠ some g) : t.ownBlock = none ∨ t.ownBlock ≠ u.ownBlock := by
  cases ht : t.ownBlock with
  | none => exact Or.inl rfl
  | some g => exact Or.inr fun e => h g e.symm ht

set_option maxHeartbeats 2000000 in
set_option maxRecDepth 100000 in
theorem markII_any {lo hi : Nat} {w : World} {v : Value} {us : List Value} {ll : List (List Int)} (k0 : Nat) (hk : k0 + lensI ll ≤ 8000000) (h : OwI lo hi w v us ll) (hm : ll.length ≤ 1048576) :
    Calls Try.prog 30 #[v, .int .i64 (k0 : Int)] w fun e w' => e = .returned (.int .i64 ((k0 + lensI ll : Nat) : Int)) ∧ Band lo hi w w' ∧ MkI k0 w' v ll := by
  obtain ⟨a1, cap1, rfl⟩ := h.rd.slice
  have HH := Lib.hid h
  go_enter Try.func30, Try.ntmps30
  go_wp2
  go_loopw [1, 5] (fun v1 v5 wr => ∃ j K : Nat, j ≤ ll.length ∧ v5 = .int .i64 (j : Int) ∧ v1 = .int .i64 (K : Int) ∧ Hid (K = k0 + lensI (ll.take j)) ∧ Hid (Band lo hi w wr) ∧ Hid (MarkI lo j k0 wr (.slice a1 ll.length cap1) us ll)) (fun _ v5 _ => ll.length - (intOf v5).toNat)
  case atStart => exact ⟨0, k0, Nat.zero_le _, rfl, rfl, Lib.hid (by simp [lensI]), Lib.hid (Band.refl _ _ _), Lib.hid ⟨h.2.1, fun i u l _ hu hl => (h.2.2.2.1 i u l hu hl).1, fun i u l hi => by omega⟩⟩
  case round =>
    obtain ⟨j, K, hj, rfl, rfl, HK, HB, HM⟩ := hrel
    by_cases hlt : j < ll.length
    · obtain ⟨l, hl⟩ : ∃ l, ll[j]? = some l := ⟨_, List.getElem?_eq_getElem hlt⟩
      obtain ⟨b1, o1, c1, u, hu, hv1, x1, -⟩ := rowcellI HH.out.1 (Rd.of_own HM.out.1) hl
      simp only [Value.slice.injEq, true_and] at hv1
      obtain ⟨rfl, rfl⟩ := hv1
      have hown := HM.out.2.1 j u l (Nat.le_refl _) hu hl
      have HS := Lib.hid (lensI_succ hl)
      have HE := Lib.hid (lensI_le ll (j + 1))
      have hKb : K + l.length ≤ 8000000 := by have := HK.out; have := HS.out; have := HE.out; omega
      have HU := Lib.hid (h.2.2.2.1 j u l hu hl).2
      have HU2 := Lib.hid hu
      have HL2 := Lib.hid hl
      clear hl hu
      go_wp2_with fail
      refine (markInts_any K hKb hown).mono ?_
      rintro e w1 ⟨rfl, hg, zs, hz, hmz⟩
      have HB2 : Hid (Band lo hi w w1) := Lib.hid (HB.out.trans (band_of_grown hg fun g hgu => ⟨(World.ownsRow.lt hown g hgu).1, (HU.out g hgu).1⟩))
      have HK2 : Hid (K + l.length = k0 + lensI (ll.take (j + 1))) := Lib.hid (by have := HK.out; have := HS.out; omega)
      have hkeep : ∀ (i : Nat) (t : Value), us[i]? = some t → i ≠ j → t.ownBlock = none ∨ t.ownBlock ≠ u.ownBlock := fun i t ht hij => apart_of fun g hgu => HH.out.2.2.2.2 j i u t g HU2.out ht (by omega) hgu
      have hkeep' : ∀ (i : Nat) (t : Value), us[i]? = some t → i ≠ j → t.ownBlock = none ∨ t.ownBlock ≠ u.ownBlock := hkeep
      have HM2 : Hid (MarkI lo (j + 1) k0 w1 (.slice (some ⟨b1, o1, none⟩) ll.length cap1) us ll) := Lib.hid (by
        refine ⟨World.ownsRow.kept HM.out.1 hg (apart_of fun g hgu => (HU.out g hgu).2), fun i t l' hi' ht hl' => World.ownsRow.kept (HM.out.2.1 i t l' (by omega) ht hl') hg (hkeep i t ht (by omega)), fun i t l' hi' ht hl' => ?_⟩
        by_cases hij : i = j
        · subst hij
          rw [HU2.out] at ht
          obtain rfl := Option.some.inj ht
          rw [HL2.out] at hl'
          obtain rfl := Option.some.inj hl'
          exact ⟨zs, hz, by rw [← HK.out]; exact hmz⟩
        · obtain ⟨ys, k1, k2⟩ := HM.out.2.2 i t l' (by omega) ht hl'
          exact ⟨ys, World.ownsRow.kept k1 hg (hkeep' i t ht hij), k2⟩)
      clear hown hg x1 hz hmz hkeep hkeep'
      generalize K + l.length = K2 at *
      go_wp2
      go_roundw
      case rel => exact ⟨j + 1, K2, by omega, by go_num, rfl, HK2, HB2, HM2⟩
      case measure => simp [intOf]; omega
    · obtain rfl : j = ll.length := by omega
      have hfull : ll.take ll.length = ll := List.take_length
      have HK2 := Lib.hid (show K = k0 + lensI ll by have := HK.out; rw [hfull] at this; exact this)
      have HMK : Hid (MkI k0 wr (.slice a1 ll.length cap1) ll) := Lib.hid ⟨us, HH.out.1, Rd.of_own HM.out.1, fun i u l hu hl => by
        obtain ⟨ys, k1, k2⟩ := HM.out.2.2 i u l (List.getElem?_eq_some_iff.1 hl).1 hu hl
        exact ⟨ys, Rd.of_own k1, k2⟩⟩
      clear hfull
      go_wp2
      go_ret
      exact ⟨by rw [← HK2.out]; rfl, HB.out, HMK.out⟩

set_option maxHeartbeats 1000000 in
theorem heldII_any {w : World} {v : Value} {ll : List (List Int)} (k0 : Nat) (hk : k0 + lensI ll ≤ 8000000) (h : MkI k0 w v ll) (hm : ll.length ≤ 1048576) :
    Calls Try.prog 31 #[v, .int .i64 (k0 : Int)] w fun e w' => e = .returned (.int .i64 ((k0 + lensI ll : Nat) : Int)) ∧ Below w.heap.size w w' := by
  obtain ⟨us, h1, h2, h3⟩ := id h
  obtain ⟨a1, cap1, rfl⟩ : ∃ a cap, v = .slice a ll.length cap := by rw [← h1]; exact Rd.slice h2
  have HH := Lib.hid h3
  clear h3
  go_enter Try.func31, Try.ntmps31
  go_wp2
  go_loopw [1, 5] (fun v1 v5 wr => ∃ j K : Nat, j ≤ ll.length ∧ v5 = .int .i64 (j : Int) ∧ v1 = .int .i64 (K : Int) ∧ Hid (K = k0 + lensI (ll.take j)) ∧ Below w.heap.size w wr) (fun _ v5 _ => ll.length - (intOf v5).toNat)
  case atStart => exact ⟨0, k0, Nat.zero_le _, rfl, rfl, Lib.hid (by simp [lensI]), Below.refl _ _⟩
  case round =>
    obtain ⟨j, K, hj, rfl, rfl, HK, hbr⟩ := hrel
    by_cases hlt : j < ll.length
    · obtain ⟨l, hl⟩ : ∃ l, ll[j]? = some l := ⟨_, List.getElem?_eq_getElem hlt⟩
      obtain ⟨b1, o1, c1, u, hu, hv1, x1, -⟩ := rowcellI h1 (Rd.below h2 hbr) hl
      simp only [Value.slice.injEq, true_and] at hv1
      obtain ⟨rfl, rfl⟩ := hv1
      obtain ⟨ys, k1, k2⟩ := HH.out j u l hu hl
      have hr := Rd.below k1 hbr
      have HS := Lib.hid (lensI_succ hl)
      have HE := Lib.hid (lensI_le ll (j + 1))
      have hKb : K + l.length ≤ 8000000 := by have := HK.out; have := HS.out; have := HE.out; omega
      have HK2 : Hid (K + l.length = k0 + lensI (ll.take (j + 1))) := Lib.hid (by have := HK.out; have := HS.out; omega)
      have hpos : ¬ ((K + l.length : Nat) : Int) < 0 := by omega
      rw [← HK.out] at k2
      clear hl hu k1
      go_wp2_with fail
      refine (heldInts_any K hKb hr k2).mono ?_
      rintro e w1 ⟨rfl, hb1⟩
      have hb2 := bstep hbr hb1
      clear hr k2 hb1 x1
      generalize K + l.length = K2 at *
      go_wp2
      go_roundw
      case rel => exact ⟨j + 1, K2, by omega, by go_num, rfl, HK2, hb2⟩
      case measure => simp [intOf]; omega
    · obtain rfl : j = ll.length := by omega
      have hfull : ll.take ll.length = ll := List.take_length
      have HK2 := Lib.hid (show K = k0 + lensI ll by have := HK.out; rw [hfull] at this; exact this)
      clear hfull
      go_wp2
      go_ret
      exact ⟨by rw [← HK2.out]; rfl, hbr⟩

/-- One row more. -/
theorem OwI.push {lo hi : Nat} {a b c : World} {v v' u : Value} {us : List Value} {ll : List (List Int)} {l : List Int} (h : OwI lo hi a v us ll) (hhi : hi ≤ a.heap.size) (hlo : lo ≤ a.heap.size) (hb : Below a.heap.size a b)
    (hu : b.ownsRow a.heap.size 3 1 u l.length (l.map intV)) (hne : u.ownBlock ≠ none) (ho : c.ownsRow lo 34 1 v' (us.length + 1) (us ++ [u])) (hg : b.grownBy c v.ownBlock) (hat : v'.ownBlock = v.ownBlock ∨ v'.ownBlock = some b.heap.size) :
    OwI lo c.heap.size c v' (us ++ [u]) (ll ++ [l]) := by
  have hul : ∀ g, u.ownBlock = some g → a.heap.size ≤ g ∧ g < b.heap.size := fun g hg => World.ownsRow.lt hu g hg
  have hold : ∀ (i : Nat) (t : Value) (l' : List Int), us[i]? = some t → ll[i]? = some l' → ∀ g, t.ownBlock = some g → g < a.heap.size := fun i t l' ht hl' g hgt => (World.ownsRow.lt (h.2.2.2.1 i t l' ht hl').1 g hgt).2
  have hvb : ∀ g, v.ownBlock = some g → g < a.heap.size := fun g hg => (World.ownsRow.lt h.2.1 g hg).2
  have hll : ∀ i, i < us.length → ∃ l', ll[i]? = some l' := fun i hi => ⟨_, List.getElem?_eq_getElem (by rw [← h.1]; exact hi)⟩
  have cases_ : ∀ (i : Nat) (t : Value), (us ++ [u])[i]? = some t → (i < us.length ∧ us[i]? = some t) ∨ (i = us.length ∧ t = u) := fun i t ht => by
    by_cases hi : i < us.length
    · rw [List.getElem?_append_left hi] at ht; exact Or.inl ⟨hi, ht⟩
    · rw [List.getElem?_append_right (by omega)] at ht
      have hlt := (List.getElem?_eq_some_iff.1 ht).1
      rw [List.length_singleton] at hlt
      have e : i - us.length = 0 := by omega
      rw [e] at ht
      exact Or.inr ⟨by omega, (Option.some.inj ht).symm⟩
  refine ⟨by rw [List.length_append, List.length_append, h.1]; rfl, by rw [List.length_append]; exact ho, fun g hg' => (World.ownsRow.lt ho g hg').2, fun i t l' ht hl' => ?_, fun i j t s g ht hs hij hgt => ?_⟩
  · rcases cases_ i t ht with ⟨hi, ht'⟩ | ⟨rfl, rfl⟩
    · rw [List.getElem?_append_left (by rw [← h.1]; exact hi)] at hl'
      obtain ⟨k1, k2⟩ := h.2.2.2.1 i t l' ht' hl'
      refine ⟨World.ownsRow.kept (ownS_below k1 hb) hg (apart_of fun g hgv e => (k2 g e).2 hgv), fun g hgt => ⟨?_, fun e => ?_⟩⟩
      · have := hold i t l' ht' hl' g hgt; have := hb.size; have := hg.size; omega
      · rcases hat with e2 | e2
        · rw [e2] at e; exact (k2 g hgt).2 e
        · rw [e2] at e; injection e with e; have := hold i t l' ht' hl' g hgt; have := hb.size; omega
    · rw [h.1, List.getElem?_append_right (Nat.le_refl _), Nat.sub_self] at hl'
      obtain rfl : l = l' := Option.some.inj hl'
      refine ⟨own_low (World.ownsRow.kept hu hg (apart_of fun g hgv e => ?_)) hlo, fun g hgt => ⟨?_, fun e => ?_⟩⟩
      · have := hvb g hgv; have := (hul g e).1; omega
      · have := (hul g hgt).2; have := hg.size; omega
      · rcases hat with e2 | e2
        · rw [e2] at e; have := hvb g e; have := (hul g hgt).1; omega
        · rw [e2] at e; injection e with e; have := (hul g hgt).2; omega
  · rcases cases_ i t ht with ⟨hi, ht'⟩ | ⟨rfl, rfl⟩
    · rcases cases_ j s hs with ⟨hj, hs'⟩ | ⟨rfl, rfl⟩
      · exact h.2.2.2.2 i j t s g ht' hs' hij hgt
      · obtain ⟨l', hl'⟩ := hll i hi
        intro e
        have := hold i t l' ht' hl' g hgt
        have := (hul g e).1
        omega
    · rcases cases_ j s hs with ⟨hj, hs'⟩ | ⟨rfl, rfl⟩
      · obtain ⟨l', hl'⟩ := hll j hj
        intro e
        have := hold j s l' hs' hl' g e
        have := (hul g hgt).1
        omega
      · exact absurd rfl hij

theorem Box.band {lo hi : Nat} {w w' : World} {b : Nat} {s t : Int} {u : Value} (h : Box w b s t u) (k : Band lo hi w w') (hb : b < lo ∨ hi ≤ b) : Box w' b s t u := by
  have e : ∀ o, w'.cell? ⟨b, o, none⟩ = w.cell? ⟨b, o, none⟩ := fun o => by unfold World.cell?; rw [k.2.2.2.2 b h.1 hb]
  exact ⟨Nat.lt_of_lt_of_le h.1 k.2.2.2.1, (e 0).trans h.2.1, (e 1).trans h.2.2.1, (e 2).trans h.2.2.2⟩
def NewNest (w : World) (ll : List (List Int)) (e : Ending) (w' : World) : Prop :=
  ∃ v us, e = .returned v ∧ OwI w.heap.size w'.heap.size w' v us ll ∧ Below w.heap.size w w'
end Go.Proofs.Ytpdjceafjdlknaa
