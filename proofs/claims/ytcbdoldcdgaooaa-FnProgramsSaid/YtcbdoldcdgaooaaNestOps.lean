/- The contracts of the laws' helpers on rows of rows of notes: szNoteSS, toNoteSS, eqNoteSS, markNoteSS. No condition. -/
import Derived.Test.YtcbdoldcdgaooaaNestKit
namespace Go.Proofs.Ytcbdoldcdgaooaa
open Go.ChangeShapes Go.WideShapes Go.ChangeAt Go.RowKit

def lensN (ll : List (List (Int × Int))) : Nat := (ll.map List.length).sum
def bulkN (ll : List (List (Int × Int))) : Nat := ll.length + lensN ll
theorem lensN_succ {ll : List (List (Int × Int))} {k : Nat} {l : List (Int × Int)} (h : ll[k]? = some l) : lensN (ll.take (k + 1)) = lensN (ll.take k) + l.length := by
  unfold lensN; rw [List.take_add_one, h]; simp
theorem lensN_le (ll : List (List (Int × Int))) (k : Nat) : lensN (ll.take k) ≤ lensN ll := by
  have h : ll = ll.take k ++ ll.drop k := (List.take_append_drop k ll).symm
  have e : lensN ll = lensN (ll.take k) + lensN (ll.drop k) := by
    conv => lhs; rw [h]
    unfold lensN; rw [List.map_append, List.sum_append]
  omega
theorem lensN_at {ll : List (List (Int × Int))} {k : Nat} {l : List (Int × Int)} (h : ll[k]? = some l) : l.length ≤ lensN ll := by
  have h1 := lensN_succ h
  have h2 := lensN_le ll (k + 1)
  omega

/-- What szNoteSS leaves. -/
def leftN (L : Nat) (ll : List (List (Int × Int))) : Int := if bulkN ll ≤ L then ((L - bulkN ll : Nat) : Int) else -1
theorem leftN_no {L : Nat} {ll : List (List (Int × Int))} (h : L < bulkN ll) : leftN L ll = -1 := if_neg (by omega)
theorem leftN_yes {L : Nat} {ll : List (List (Int × Int))} (h : bulkN ll ≤ L) : leftN L ll = ((L - bulkN ll : Nat) : Int) := if_pos h

set_option maxHeartbeats 1000000 in
theorem szNN_any {w : World} {v : Value} {us : List Value} {ll : List (List (Int × Int))} (L : Nat) (hL : L ≤ 1048576) (h : RdN w v us ll) :
    Calls Try.prog 39 #[v, .int .i64 (L : Int)] w fun e w' => e = .returned (.int .i64 (leftN L ll)) ∧ w = w' := by
  obtain ⟨a1, cap1, rfl⟩ := h.slice
  have hm := h.len
  unfold maxLen at hm
  by_cases h0 : ll.length ≤ L
  · have e0 : ((L - ll.length : Nat) : Int) = (L : Int) - (ll.length : Int) := by omega
    have e1 : ¬ (L : Int) - (ll.length : Int) < 0 := by omega
    go_enter Try.func39, Try.ntmps39
    go_wp2_with fail
    go_loopw [1, 5] (fun v1 v5 wr => ∃ k X : Nat, k ≤ ll.length ∧ v5 = .int .i64 (k : Int) ∧ v1 = .int .i64 (X : Int) ∧ wr = w ∧ Hid (X + lensN (ll.take k) + ll.length = L) ∧ X ≤ 1048576) (fun _ v5 _ => ll.length - (intOf v5).toNat)
    case atStart => exact ⟨0, L - ll.length, Nat.zero_le _, rfl, by rw [e0], rfl, Lib.hid (by simp [lensN]; omega), by omega⟩
    case round =>
      obtain ⟨k, X, hk, rfl, rfl, rfl, HX, hX⟩ := hrel
      clear e0 e1
      by_cases hlt : k < ll.length
      · obtain ⟨l, hl⟩ : ∃ l, ll[k]? = some l := ⟨_, List.getElem?_eq_getElem hlt⟩
        obtain ⟨b1, o1, c1, u, -, hv1, x1, hu⟩ := h.cell hl
        simp only [Value.slice.injEq, true_and] at hv1
        obtain ⟨rfl, rfl⟩ := hv1
        have HS := Lib.hid (lensN_succ hl)
        have HE := Lib.hid (lensN_le ll (k + 1))
        have hul := hu.2.1
        unfold maxLen at hul
        obtain ⟨a2, cap2, rfl⟩ := Rd.slice hu
        clear hl
        by_cases hle : l.length ≤ X
        · have HX2 : Hid ((X - l.length) + lensN (ll.take (k + 1)) + ll.length = L) := Lib.hid (by have := HX.out; have := HS.out; omega)
          have hX2 : X - l.length ≤ 1048576 := by omega
          have hpos : ¬ ((X - l.length : Nat) : Int) < 0 := by omega
          go_wp2_with fail
          refine (szNote_yes X hX hle).mono ?_
          rintro e w1 ⟨rfl, rfl⟩
          generalize X - l.length = Y at *
          go_wp2
          go_roundw
          case rel => exact ⟨k + 1, Y, by omega, by go_num, rfl, trivial, HX2, hX2⟩
          case measure => simp [intOf]; omega
        · have HF := Lib.hid (leftN_no (L := L) (ll := ll) (by unfold bulkN; have := HX.out; have := HS.out; have := HE.out; omega))
          go_wp2_with fail
          refine (szNote_no X hX (by omega) (by omega)).mono ?_
          rintro e w1 ⟨rfl, rfl⟩
          go_wp2
          go_ret
          exact ⟨by rw [HF.out]; rfl, rfl⟩
      · obtain rfl : k = ll.length := by omega
        have hfull : ll.take ll.length = ll := List.take_length
        have HF := Lib.hid (show leftN L ll = (X : Int) by
          have h1 := HX.out
          rw [hfull] at h1
          rw [leftN_yes (by unfold bulkN; omega)]; unfold bulkN; omega)
        clear hfull
        go_wp2
        go_ret
        exact ⟨by rw [HF.out]; rfl, rfl⟩
  · have HF := Lib.hid (leftN_no (L := L) (ll := ll) (by unfold bulkN; omega))
    have e1 : IntKind.i64.wrap ((L : Int) - (ll.length : Int)) = (L : Int) - (ll.length : Int) := IntWalk.i64_in _ (by omega)
    have e2 : (L : Int) - (ll.length : Int) < 0 := by omega
    go_enter Try.func39, Try.ntmps39
    go_wp2
    go_ret
    exact ⟨by rw [HF.out]; rfl, rfl⟩

set_option maxHeartbeats 1000000 in
theorem eqNN_same {w : World} {v1 v2 : Value} {us ts : List Value} {ll : List (List (Int × Int))} (h1 : RdN w v1 us ll) (h2 : RdN w v2 ts ll) :
    Calls Try.prog 42 #[v1, v2] w fun e w' => e = .returned (.bool true) ∧ Below w.heap.size w w' := by
  obtain ⟨a1, cap1, rfl⟩ := h1.slice
  obtain ⟨a2, cap2, rfl⟩ := h2.slice
  have hm := h1.len
  unfold maxLen at hm
  go_enter Try.func42, Try.ntmps42
  go_wp2
  go_loopw [5] (fun v5 wr => ∃ j : Nat, j ≤ ll.length ∧ v5 = .int .i64 (j : Int) ∧ Below w.heap.size w wr) (fun v5 _ => ll.length - (intOf v5).toNat)
  case atStart => exact ⟨0, Nat.zero_le _, rfl, Below.refl _ _⟩
  case round =>
    obtain ⟨j, hj, rfl, hbr⟩ := hrel
    by_cases hlt : j < ll.length
    · obtain ⟨l, hl⟩ : ∃ l, ll[j]? = some l := ⟨_, List.getElem?_eq_getElem hlt⟩
      obtain ⟨b1, o1, c1, u1, -, hv1, x1, hr1⟩ := (h1.below hbr).cell hl
      obtain ⟨b2, o2, c2, u2, -, hv2, x2, hr2⟩ := (h2.below hbr).cell hl
      simp only [Value.slice.injEq, true_and] at hv1 hv2
      obtain ⟨rfl, rfl⟩ := hv1
      obtain ⟨rfl, rfl⟩ := hv2
      clear hl
      go_wp2_with fail
      go_region_held3 (fun w' => w'.cell? ⟨b1, o1 + j, none⟩ = some u1 ∧ w'.cell? ⟨b2, o2 + j, none⟩ = some u2) (go_keep)
        ((go_at_call 27; refine (eqNotes_same (Rd.below hr1 (Below.drew (Below.refl _ _))) (Rd.below hr2 (Below.drew (Below.refl _ _)))).mono ?_; rintro e w1 ⟨rfl, hb1⟩; have q1 := kept_cell hb1 x1; have q2 := kept_cell hb1 x2))
      all_goals
        have hb2 := bstep hbr (below_undrew hb1)
        clear hb1 q1 q2 x1 x2 hbr
        go_wp2
        go_roundw
        case rel => exact ⟨j + 1, by omega, by go_num, hb2⟩
        case measure => simp [intOf]; omega
    · obtain rfl : j = ll.length := by omega
      go_wp2
      go_ret
      exact ⟨rfl, hbr⟩

theorem infoSl : (Try.prog.info? 42).map (fun i => (i.zero, i.size, i.bytes)) = some (some (.slice none 0 0), 1, 24) := by kernel_rfl
theorem ap_of {u v : Value} {g : Nat} (hv : v.ownBlock = some g) (h : u.ownBlock ≠ some g) : u.ownBlock = none ∨ u.ownBlock ≠ v.ownBlock := Or.inr (by rw [hv]; exact h)
/-- What holds of the first j rows of a copy. -/
def CopyInv (B j : Nat) (w : World) (ys : List Value) (ll : List (List (Int × Int))) : Prop :=
  (∀ (i : Nat) (u : Value) (l : List (Int × Int)), i < j → ys[i]? = some u → ll[i]? = some l → w.ownsRow B 41 2 u l.length (flat2 l) ∧ u.ownBlock ≠ some B) ∧
    (∀ (i k : Nat) (u t : Value) (g : Nat), i < j → k < j → ys[i]? = some u → ys[k]? = some t → i ≠ k → u.ownBlock = some g → t.ownBlock ≠ some g)
theorem copy_next {B j : Nat} {w w2 w3 : World} {ys : List Value} {ll : List (List (Int × Int))} {u : Value} {l : List (Int × Int)} (h : CopyInv B j w ys ll) (hj : j < ys.length) (hl : ll[j]? = some l) (hB : B < w.heap.size)
    (hu : w2.ownsRow w.heap.size 41 2 u l.length (flat2 l)) (hb : Below w.heap.size w w2) (hg : w2.grownBy w3 (some B)) : CopyInv B (j + 1) w3 (ys.set j u) ll := by
  have hub : ∀ g, u.ownBlock = some g → w.heap.size ≤ g := fun g hgu => (World.ownsRow.lt hu g hgu).1
  have hne : u.ownBlock ≠ some B := fun e => by have := hub B e; omega
  have old : ∀ (i : Nat) (t : Value) (l' : List (Int × Int)), i < j → ys[i]? = some t → ll[i]? = some l' → ∀ g, t.ownBlock = some g → g < w.heap.size := fun i t l' hi ht hl' g hgt => (World.ownsRow.lt (h.1 i t l' hi ht hl').1 g hgt).2
  have hll : ∀ i, i < j → ∃ l', ll[i]? = some l' := fun i hi => ⟨_, List.getElem?_eq_getElem (by have := (List.getElem?_eq_some_iff.1 hl).1; omega)⟩
  refine ⟨fun i t l' hi ht hl' => ?_, fun i k t r g hi hk ht hr hik hgt => ?_⟩
  · by_cases hij : i = j
    · subst hij
      rw [List.getElem?_set_self hj] at ht
      obtain rfl := Option.some.inj ht
      rw [hl] at hl'
      obtain rfl := Option.some.inj hl'
      exact ⟨ownS_mono (World.ownsRow.kept hu hg (Or.inr hne)) (by omega), hne⟩
    · rw [List.getElem?_set_ne (by omega)] at ht
      obtain ⟨h1, h2⟩ := h.1 i t l' (by omega) ht hl'
      exact ⟨World.ownsRow.kept (ownS_below h1 hb) hg (Or.inr h2), h2⟩
  · by_cases hij : i = j
    · subst hij
      rw [List.getElem?_set_self hj] at ht
      obtain rfl := Option.some.inj ht
      rw [List.getElem?_set_ne (by omega)] at hr
      intro e
      obtain ⟨l', hl'⟩ := hll k (by omega)
      have := old k r l' (by omega) hr hl' g e
      have := hub g hgt
      omega
    · rw [List.getElem?_set_ne (by omega)] at ht
      by_cases hkj : k = j
      · subst hkj
        rw [List.getElem?_set_self hj] at hr
        obtain rfl := Option.some.inj hr
        intro e
        obtain ⟨l', hl'⟩ := hll i (by omega)
        have := old i t l' (by omega) ht hl' g hgt
        have := hub g e
        omega
      · rw [List.getElem?_set_ne (by omega)] at hr
        exact h.2 i k t r g (by omega) (by omega) ht hr hik hgt

set_option maxHeartbeats 2000000 in
set_option maxRecDepth 100000 in
theorem toNN_any {w : World} {v : Value} {us : List Value} {ll : List (List (Int × Int))} (h : RdN w v us ll) (hl : bulkN ll ≤ 1048576) :
    Calls Try.prog 41 #[v] w fun e w' => ∃ v' ts, e = .returned v' ∧ OwN w.heap.size w'.heap.size w' v' ts ll ∧ Below w.heap.size w w' := by
  obtain ⟨i0, hi, hz0, hz1, hz2⟩ := info_parts infoSl
  obtain ⟨a1, cap1, rfl⟩ := h.slice
  have hll : ll.length ≤ 1048576 := by unfold bulkN at hl; omega
  have HLE : Hid (∀ (k : Nat) (l : List (Int × Int)), ll[k]? = some l → l.length ≤ 1048576) := Lib.hid fun k l hk => by have := lensN_at hk; unfold bulkN at hl; omega
  go_enter Try.func41, Try.ntmps41
  go_wp2_with (at_make; refine wpList_make_full _ rfl _ _ 54 rfl w.heap.size 42 i0 (.slice none 0 0) 1 Try.underlying54 hi hz0 hz1 _ _ _ _ ll.length rfl rfl (by omega) (by omega) (by rw [hz2]; omega) (by unfold maxLen; omega) (Nat.le_refl _) ?_)
  intro w1 hown hgrow
  have hb1 : Below w.heap.size w w1 := (Below.refl _ _).grown hgrow (Nat.le_refl _) (by intro k hk; cases hk)
  have hsz1 : w.heap.size < w1.heap.size := (World.ownsRow.lt hown w.heap.size rfl).2
  go_wp2_with fail
  go_loopw [4] (fun v4 wr => ∃ (j : Nat) (ys : List Value), j ≤ ll.length ∧ v4 = .int .i64 (j : Int) ∧ wr.ownsRow w.heap.size 42 1 (.slice (some ⟨w.heap.size, 0, none⟩) ll.length ll.length) ll.length ys ∧ Below w.heap.size w wr ∧ Hid (CopyInv w.heap.size j wr ys ll))
    (fun v4 _ => ll.length - (intOf v4).toNat)
  case atStart => exact ⟨0, _, Nat.zero_le _, rfl, hown, hb1, Lib.hid ⟨fun i u l hi => by omega, fun i k u t g hi => by omega⟩⟩
  case round =>
    obtain ⟨j, ys, hj, rfl, hys, hbr, HI⟩ := hrel
    clear hown hgrow hb1 hsz1
    by_cases hlt : j < ll.length
    · obtain ⟨l, hl'⟩ : ∃ l, ll[j]? = some l := ⟨_, List.getElem?_eq_getElem hlt⟩
      have HL := Lib.hid hl'
      obtain ⟨b1, o1, c1, u1, -, hv1, x1, hr1⟩ := (h.below hbr).cell hl'
      simp only [Value.slice.injEq, true_and] at hv1
      obtain ⟨rfl, rfl⟩ := hv1
      have hl1 := HLE.out j l hl'
      clear hl'
      have hsz : w.heap.size < wr.heap.size := (World.ownsRow.lt hys w.heap.size rfl).2
      go_wp2_with fail
      refine (toNotes_any hr1 hl1).mono ?_
      rintro e w2 ⟨v2, rfl, ho2, hb2⟩
      obtain ⟨a2, cap2, rfl⟩ := ownS_slice ho2
      have hys2 := ownS_below hys hb2
      have hb3 := bstep hbr hb2
      have hyl : ys.length = ll.length := by simpa using hys.1
      obtain ⟨u0, hu0⟩ : ∃ u, ys[j]? = some u := ⟨_, List.getElem?_eq_getElem (by omega)⟩
      have hc0 : w2.cell? ⟨w.heap.size, j, none⟩ = some u0 := by rw [hys2.cellAt _ (by omega)]; exact hu0
      have hf0 := hys2.frozenAt j
      have hst := hys2.stored j (.slice a2 l.length cap2)
      have HST := Lib.hid hst.1
      have HI2 := Lib.hid (copy_next HI.out (by omega) HL.out hsz ho2 hb2 hst.2)
      have hb4 : Below w.heap.size w (w2.setCell ⟨w.heap.size, j, none⟩ (.slice a2 l.length cap2)) := hb3.setCell (Nat.le_refl _) _
      clear hst hys hys2 ho2 hb2 hb3 hyl hu0 hsz x1 hr1
      go_wp2
      go_roundw
      case rel => exact ⟨j + 1, _, by omega, by go_num, HST.out, hb4, HI2⟩
      case measure => simp [intOf]; omega
    · obtain rfl : j = ll.length := by omega
      have hyl : ys.length = ll.length := by simpa using hys.1
      have hsz : w.heap.size < wr.heap.size := (World.ownsRow.lt hys w.heap.size rfl).2
      have HO : Hid (OwN w.heap.size wr.heap.size wr (.slice (some ⟨w.heap.size, 0, none⟩) ll.length ll.length) ys ll) := Lib.hid (by
        refine ⟨hyl, by rw [hyl]; exact hys, fun g hg => ?_, fun i u l hu hl' => ?_, fun i k u t g hu ht hik hgu => ?_⟩
        · exact (World.ownsRow.lt hys g hg).2
        · have hi := (List.getElem?_eq_some_iff.1 hl').1
          obtain ⟨h1, h2⟩ := HI.out.1 i u l hi hu hl'
          exact ⟨h1, fun g hg => ⟨(World.ownsRow.lt h1 g hg).2, fun e => h2 (by rw [hg]; exact e.symm ▸ rfl)⟩⟩
        · have hi := (List.getElem?_eq_some_iff.1 hu).1
          have hk := (List.getElem?_eq_some_iff.1 ht).1
          exact HI.out.2 i k u t g (by omega) (by omega) hu ht hik hgu)
      clear hyl hsz
      go_wp2
      go_ret
      exact ⟨_, ys, rfl, HO.out, hbr⟩

theorem rowcell {w : World} {v : Value} {us : List Value} {ll : List (List (Int × Int))} (h1 : us.length = ll.length) (h2 : Rd 1 w v us.length us) {i : Nat} {l : List (Int × Int)} (hi : ll[i]? = some l) :
    ∃ b off cap u, us[i]? = some u ∧ v = .slice (some ⟨b, off, none⟩) ll.length cap ∧ w.cell? ⟨b, off + i, none⟩ = some u ∧ True := by
  have hlt : i < ll.length := (List.getElem?_eq_some_iff.1 hi).1
  have hlt' : i < us.length := by omega
  obtain ⟨b, off, cap, rfl, hc⟩ := Rd.pos h2 (by omega)
  have hu : us[i]? = some us[i] := List.getElem?_eq_getElem hlt'
  exact ⟨b, off, cap, us[i], hu, by rw [h1], by rw [hc i (by omega)]; exact hu, trivial⟩
/-- What is left to be marked behind j rows. -/
def MarkInv (lo j : Nat) (w : World) (v : Value) (us : List Value) (ll : List (List (Int × Int))) : Prop :=
  w.ownsRow lo 42 1 v us.length us ∧ ∀ (i : Nat) (u : Value) (l : List (Int × Int)), j ≤ i → us[i]? = some u → ll[i]? = some l → w.ownsRow lo 41 2 u l.length (flat2 l)

/-! The same, the cells unnamed. -/
def RdT (w : World) (v : Value) (ll : List (List (Int × Int))) : Prop := ∃ us, RdN w v us ll
def OwT (lo hi : Nat) (w : World) (v : Value) (ll : List (List (Int × Int))) : Prop := ∃ us, OwN lo hi w v us ll
theorem RdT.below {w w' : World} {v : Value} {ll : List (List (Int × Int))} (h : RdT w v ll) (hb : Below w.heap.size w w') : RdT w' v ll := h.imp fun _ k => k.below hb
theorem RdT.slice {w : World} {v : Value} {ll : List (List (Int × Int))} (h : RdT w v ll) : ∃ a cap, v = .slice a ll.length cap := by obtain ⟨us, k⟩ := h; exact k.slice
theorem RdT.len {w : World} {v : Value} {ll : List (List (Int × Int))} (h : RdT w v ll) : ll.length ≤ maxLen := by obtain ⟨us, k⟩ := h; exact k.len
theorem OwT.rd {lo hi : Nat} {w : World} {v : Value} {ll : List (List (Int × Int))} (h : OwT lo hi w v ll) : RdT w v ll := h.imp fun _ k => k.rd
theorem OwT.below {lo hi : Nat} {a b : World} {v : Value} {ll : List (List (Int × Int))} (h : OwT lo hi a v ll) (k : Below a.heap.size a b) : OwT lo hi b v ll := h.imp fun _ q => q.below k
theorem szT_any {w : World} {v : Value} {ll : List (List (Int × Int))} (L : Nat) (hL : L ≤ 1048576) (h : RdT w v ll) :
    Calls Try.prog 39 #[v, .int .i64 (L : Int)] w fun e w' => e = .returned (.int .i64 (leftN L ll)) ∧ w = w' := by
  obtain ⟨us, k⟩ := h; exact szNN_any L hL k
theorem szT_yes {w : World} {v : Value} {ll : List (List (Int × Int))} (hs : bulkN ll ≤ 1048576) (h : RdT w v ll) :
    Calls Try.prog 39 #[v, .int .i64 1048576] w fun e w' => ∃ x : Int, 0 ≤ x ∧ e = .returned (.int .i64 x) ∧ w = w' :=
  (szT_any 1048576 (Nat.le_refl _) h).mono fun _ _ ⟨he, hw⟩ => ⟨_, by rw [leftN_yes hs]; omega, he, hw⟩
theorem szT_no {w : World} {v : Value} {ll : List (List (Int × Int))} (hs : ¬ bulkN ll ≤ 1048576) (h : RdT w v ll) :
    Calls Try.prog 39 #[v, .int .i64 1048576] w fun e w' => e = .returned (.int .i64 (-1)) ∧ w = w' :=
  (szT_any 1048576 (Nat.le_refl _) h).mono fun _ _ ⟨he, hw⟩ => ⟨by rw [he, leftN_no (by omega)], hw⟩
theorem toT_any {w : World} {v : Value} {ll : List (List (Int × Int))} (h : RdT w v ll) (hl : bulkN ll ≤ 1048576) :
    Calls Try.prog 41 #[v] w fun e w' => ∃ v', e = .returned v' ∧ OwT w.heap.size w'.heap.size w' v' ll ∧ Below w.heap.size w w' := by
  obtain ⟨us, k⟩ := h
  exact (toNN_any k hl).mono fun _ _ ⟨v', ts, he, ho, hb⟩ => ⟨v', he, ⟨ts, ho⟩, hb⟩
theorem eqT_same {w : World} {v1 v2 : Value} {ll : List (List (Int × Int))} (h1 : RdT w v1 ll) (h2 : RdT w v2 ll) :
    Calls Try.prog 42 #[v1, v2] w fun e w' => e = .returned (.bool true) ∧ Below w.heap.size w w' := by
  obtain ⟨us, k1⟩ := h1
  obtain ⟨ts, k2⟩ := h2
  exact eqNN_same k1 k2
theorem bulk_parts {ll : List (List (Int × Int))} (h : bulkN ll ≤ 1048576) : lensN ll ≤ 1048576 ∧ ll.length ≤ 1048576 := by unfold bulkN at h; omega
end Go.Proofs.Ytcbdoldcdgaooaa
