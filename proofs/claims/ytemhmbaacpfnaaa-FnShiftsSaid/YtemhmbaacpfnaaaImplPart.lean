/- The program's part: placeOk, gatheredTracks, spread, gathered. No condition. -/
import Derived.Test.YtemhmbaacpfnaaaShiftSpec
import Derived.Deep.CutRange
namespace Go.Proofs.Ytemhmbaacpfnaaa
open Go.ChangeShapes Go.WideShapes Go.ChangeAt Go.RowKit

abbrev partV (s t : Int) (u : Value) (d h : Int) : Value := .agg #[.int .i64 s, .int .i64 t, u, .int .i64 d, .int .i64 h]
/-- A boxed part. -/
def BoxP (w : World) (b : Nat) (s t : Int) (u : Value) (d h : Int) : Prop := b < w.heap.size ∧ w.cell? ⟨b, 0, none⟩ = some (.int .i64 s) ∧ w.cell? ⟨b, 1, none⟩ = some (.int .i64 t) ∧ w.cell? ⟨b, 2, none⟩ = some u ∧ w.cell? ⟨b, 3, none⟩ = some (.int .i64 d) ∧ w.cell? ⟨b, 4, none⟩ = some (.int .i64 h)
theorem boxp_new (w : World) (s t : Int) (u : Value) (d h : Int) (ty : TypeId) : BoxP (w.alloc (.cells #[.int .i64 s, .int .i64 t, u, .int .i64 d, .int .i64 h] ty)) w.heap.size s t u d h := ⟨by simp, cell0 _ _ _ _, cell0 _ _ _ _, cell0 _ _ _ _, cell0 _ _ _ _, cell0 _ _ _ _⟩
theorem BoxP.below {w w' : World} {b : Nat} {s t : Int} {u : Value} {d h : Int} (k : BoxP w b s t u d h) (hb : Below w.heap.size w w') : BoxP w' b s t u d h :=
  ⟨Nat.lt_of_lt_of_le k.1 hb.size, old_cell hb k.2.1, old_cell hb k.2.2.1, old_cell hb k.2.2.2.1, old_cell hb k.2.2.2.2.1, old_cell hb k.2.2.2.2.2⟩
theorem BoxP.grown {w w' : World} {b : Nat} {s t : Int} {u : Value} {d h : Int} {row : Option Nat} (k : BoxP w b s t u d h) (hg : w.grownBy w' row) (hr : some b ≠ row) : BoxP w' b s t u d h :=
  ⟨Nat.lt_of_lt_of_le k.1 hg.size, (cell_grown_by hg (a := ⟨b, 0, none⟩) k.1 hr).trans k.2.1, (cell_grown_by hg (a := ⟨b, 1, none⟩) k.1 hr).trans k.2.2.1, (cell_grown_by hg (a := ⟨b, 2, none⟩) k.1 hr).trans k.2.2.2.1, (cell_grown_by hg (a := ⟨b, 3, none⟩) k.1 hr).trans k.2.2.2.2.1, (cell_grown_by hg (a := ⟨b, 4, none⟩) k.1 hr).trans k.2.2.2.2.2⟩

def placeB (d h : Int) : Bool := decide ((1 ≤ d ∧ d ≤ 20) ∧ (0 ≤ h ∧ h < d))
theorem placeB_true {d h : Int} : placeB d h = true ↔ ((1 ≤ d ∧ d ≤ 20) ∧ (0 ≤ h ∧ h ≤ d - 1)) := by unfold placeB; rw [decide_eq_true_eq]; omega
theorem place_any (s t : Int) (a : Option Addr) (n c : Nat) (d h : Int) (w : World) :
    Calls Try.prog 35 #[partV s t (.slice a n c) d h] w fun e w' => e = .returned (.bool (placeB d h)) ∧ Below w.heap.size w w' := by
  have hb : ∀ x : Obj, Below w.heap.size w (w.alloc x) := fun x => (Below.refl _ _).alloc (Nat.le_refl _) _
  have HB := Lib.hid hb; clear hb
  by_cases h1 : 1 ≤ d <;> by_cases h2 : d ≤ 20 <;> by_cases h3 : 0 ≤ h <;> by_cases h4 : h < d
  all_goals try (exfalso; omega)
  all_goals
    have e := (rfl : placeB d h = placeB d h)
    conv at e => rhs; unfold placeB
    simp only [h1, h2, h3, h4, and_true, and_false, true_and, false_and, and_self, decide_true, decide_false] at e
    have HE := Lib.hid e; clear e
    go_enter Try.func35, Try.ntmps35
    go_wp2
    go_ret
    exact ⟨by rw [HE.out]; rfl, HB.out _⟩
theorem place_yes {d h : Int} (k : placeB d h = true) (s t : Int) (a : Option Addr) (n c : Nat) (w : World) :
    Calls Try.prog 35 #[partV s t (.slice a n c) d h] w fun e w' => e = .returned (.bool true) ∧ Below w.heap.size w w' := (place_any s t a n c d h w).mono fun _ _ ⟨he, hb⟩ => ⟨by rw [he, k], hb⟩
theorem place_no {d h : Int} (k : placeB d h = false) (s t : Int) (a : Option Addr) (n c : Nat) (w : World) :
    Calls Try.prog 35 #[partV s t (.slice a n c) d h] w fun e w' => e = .returned (.bool false) ∧ Below w.heap.size w w' := (place_any s t a n c d h w).mono fun _ _ ⟨he, hb⟩ => ⟨by rw [he, k], hb⟩

theorem tracks_any {s t d h : Int} {a : Option Addr} {n c : Nat} (ht : 1 ≤ t ∧ t ≤ 100) (hd : 1 ≤ d ∧ d ≤ 20) (w : World) :
    Calls Try.prog 36 #[partV s t (.slice a n c) d h] w fun e w' => e = .returned (.int .i64 ((t + d - 1) / d)) ∧ Below w.heap.size w w' := by
  have hb : ∀ x : Obj, Below w.heap.size w (w.alloc x) := fun x => (Below.refl _ _).alloc (Nat.le_refl _) _
  have HB := Lib.hid hb; clear hb
  have hz : (d == 0) = false := by rw [beq_eq_false_iff_ne]; omega
  have hdz : ¬ d = 0 := by omega
  have ea : IntKind.i64.wrap (t + d) = t + d := IntWalk.i64_in _ (by omega)
  have eb : IntKind.i64.wrap (t + d - 1) = t + d - 1 := IntWalk.i64_in _ (by omega)
  have hT1 : 0 ≤ (t + d - 1) / d := Int.ediv_nonneg (by omega) (by omega)
  have hT2 : (t + d - 1) / d ≤ t + d - 1 := Int.ediv_le_self _ (by omega)
  have eq : IntKind.i64.wrap ((t + d - 1).tdiv d) = (t + d - 1) / d := by rw [Int.tdiv_eq_ediv_of_nonneg (by omega)]; exact IntWalk.i64_in _ (by omega)
  obtain ⟨T, hT⟩ : ∃ T, T = (t + d - 1) / d := ⟨_, rfl⟩
  rw [← hT] at eq ⊢
  clear hT hT1 hT2
  go_enter Try.func36, Try.ntmps36
  go_wp2
  go_ret
  exact ⟨rfl, HB.out _⟩

theorem pin_news2 (W : World) (o : Obj) (x y : Int) : ∀ j u, ([.int .i64 x, .int .i64 y] : List Value)[j]? = some u → ((W.alloc o).alloc (.cells #[.int .i64 x, .int .i64 y] 34)).cell? ((⟨W.heap.size + 1, 0, none⟩ : Addr).add j) = some u := by
  have := World.news_of_block (heap_alloc_new (W.alloc o) (.cells #[.int .i64 x, .int .i64 y] 34))
  rw [size_alloc] at this; exact this
/-- An own row of pins beside a boxed part. -/
def Gather (w : World) (bx : Nat) (s t d h : Int) (z u : Value) (L : List (Int × Int)) (wr : World) : Prop :=
  wr.ownsRow (bx + 1) 34 2 u L.length (flat2 L) ∧ Below w.heap.size w wr ∧ BoxP wr bx s t z d h
theorem Gather.below {w wr w' : World} {bx : Nat} {s t d h : Int} {z u : Value} {L : List (Int × Int)} (k : Gather w bx s t d h z u L wr) (hb : Below wr.heap.size wr w') : Gather w bx s t d h z u L w' :=
  ⟨ownS_below k.1 hb, bstep k.2.1 hb, k.2.2.below hb⟩
theorem Gather.push {w wr W w4 : World} {bx : Nat} {s t d h : Int} {z u v' : Value} {L : List (Int × Int)} (k : Gather w bx s t d h z u L wr) (hle : w.heap.size ≤ bx) (q : Int × Int) (hW : Below wr.heap.size wr W)
    (hown : w4.ownsRow (bx + 1) 34 2 v' (L.length + 1) (flat2 L ++ [.int .i64 q.1, .int .i64 q.2])) (hg : W.grownBy w4 u.ownBlock) : Gather w bx s t d h z v' (L ++ [q]) w4 := by
  have k' := k.below hW
  have ne : some bx ≠ u.ownBlock := fun e => by have := (k.1.lt bx e.symm).1; omega
  exact ⟨by rw [flat2_append, List.length_append]; exact hown, k'.2.1.grown hg k'.2.1.size (fun j hj => by have := (k.1.lt j hj).1; omega), k'.2.2.grown hg ne⟩

set_option maxHeartbeats 2000000 in
set_option maxRecDepth 100000 in
theorem spread_any {w : World} {v : Value} {l : List (Int × Int)} {s t d h : Int} (hc : Rd2 w v l) (CC : CylP s t l) (td : 1 ≤ d ∧ d ≤ 20) (th : 0 ≤ h ∧ h ≤ d - 1) :
    Calls Try.prog 44 #[partV s t v d h] w (NewPins w (shiftL d h l)) := by
  obtain ⟨i0, hi, hz0, hz1, hz2⟩ := info_parts infoPin
  obtain ⟨a1, cap1, rfl⟩ := Rd.slice hc
  have hl := CC.2.2.1
  have ht := CC.2.1
  have CCH := Lib.hid CC
  clear CC
  obtain ⟨W, hW⟩ : ∃ W, W = w.alloc (.cells #[.int .i64 s, .int .i64 t, .slice a1 l.length cap1, .int .i64 d, .int .i64 h] 61) := ⟨_, rfl⟩
  have hX : BoxP W w.heap.size s t (.slice a1 l.length cap1) d h := by rw [hW]; exact boxp_new _ _ _ _ _ _ _
  have hB : Below w.heap.size w W := by rw [hW]; exact (Below.refl _ _).alloc (Nat.le_refl _) _
  obtain ⟨kx, k0, k1, k2, k3, k4⟩ := id hX
  rw [hW] at kx k0 k1 k2 k3 k4
  go_enter Try.func44, Try.ntmps44
  go_wp2_with (at_make; refine wpList_make_own _ rfl _ _ 24 rfl (w.heap.size + 1) 34 i0 (.agg #[.int .i64 0, .int .i64 0]) 2 Try.underlying24 hi hz0 hz1 _ _ _ l.length rfl rfl (by omega) (by rw [hz2]; omega) (by unfold maxLen; omega) (by simp) ?_)
  rw [← hW]
  intro w1 hown hgrow
  have hb1 : Below W.heap.size W w1 := (Below.refl _ _).grown hgrow (Nat.le_refl _) (by intro k hk; cases hk)
  have hX1 := hX.below hb1
  have g1 := bstep hB hb1
  have hsz1 := hX1.1
  clear hX hB hb1 hgrow kx k0 k1 k2 k3 k4 hW
  obtain ⟨bx, hbx⟩ : ∃ b, b = w.heap.size := ⟨_, rfl⟩
  have hle : w.heap.size ≤ bx := by omega
  rw [← hbx] at hX1 hown hsz1
  simp only [← hbx]
  clear hbx
  have hG1 : Gather w bx s t d h (.slice a1 l.length cap1) (.slice (some ⟨bx + 1, 0, none⟩) 0 l.length) [] w1 := ⟨hown, g1, hX1⟩
  obtain ⟨-, k0, k1, k2, k3, k4⟩ := id hX1
  clear hown g1 hX1
  go_wp2_with fail
  clear k0 k1 k2 k3 k4
  go_loopw [3, 15] (fun v3 v15 wr => ∃ k : Nat, k ≤ l.length ∧ v15 = .int .i64 k ∧ Gather w bx s t d h (.slice a1 l.length cap1) v3 (shiftL d h (l.take k)) wr) (fun _ v15 _ => l.length - (intOf v15).toNat)
  case atStart => exact ⟨0, Nat.zero_le _, rfl, hG1⟩
  case round =>
    clear hG1 hsz1
    obtain ⟨k, hk, rfl, hG⟩ := hrel
    have hsl : (shiftL d h (l.take k)).length ≤ 100 := by rw [shift_len, List.length_take]; omega
    by_cases hlt : k < l.length
    · obtain ⟨p, hp⟩ : ∃ p, l[k]? = some p := ⟨_, List.getElem?_eq_getElem hlt⟩
      have HA := Lib.hid (shift_succ (d := d) (h := h) hp)
      have hpb := cyl_bd CCH.out (List.mem_of_getElem? hp)
      obtain ⟨b1, o1, cc1, hv1, x0, y0⟩ := Rd2.cells hc hp
      simp only [Value.slice.injEq, true_and] at hv1
      obtain ⟨rfl, rfl⟩ := hv1
      have x1 := old_cell hG.2.1 x0
      have y1 := old_cell hG.2.1 y0
      have hmul1 : 0 ≤ p.1 * d := Int.mul_nonneg hpb.1.1 (by omega)
      have hmul2 : p.1 * d ≤ 99 * 20 := Int.mul_le_mul (by omega) td.2 (by omega) (by omega)
      have ew1 : IntKind.i64.wrap (p.1 * d) = p.1 * d := IntWalk.i64_in _ (by omega)
      have ew2 : IntKind.i64.wrap (p.1 * d + h) = p.1 * d + h := IntWalk.i64_in _ (by omega)
      have hbl : bx + 1 ≤ wr.heap.size := hG.2.2.1
      obtain ⟨kx, k0, k1, k2, k3, k4⟩ := id hG.2.2
      have z3 := old_cell ((Below.refl wr.heap.size wr).alloc (Nat.le_refl _) (.cells #[.int .i64 p.1, .int .i64 p.2] 34)) k3
      have z4 := old_cell ((Below.refl wr.heap.size wr).alloc (Nat.le_refl _) (.cells #[.int .i64 p.1, .int .i64 p.2] 34)) k4
      clear hp x0 y0
      have hown2 := (hG.1.alloc (.cells #[.int .i64 p.1, .int .i64 p.2] 34))
      have hnews := pin_news2 wr (.cells #[.int .i64 p.1, .int .i64 p.2] 34) (p.1 * d + h) p.2
      go_wp2_with (at_builtin; refine wpList_append_own _ rfl _ _ 24 rfl (bx + 1) 34 i0 (.agg #[.int .i64 0, .int .i64 0]) 2 16 Try.underlying24 hi hz0 hz1 hz2 rfl (by decide) _ (shiftL d h (l.take k)).length _ rfl (hown2.alloc _) ⟨wr.heap.size + 1, 0, none⟩ 1 1 [.int .i64 (p.1 * d + h), .int .i64 p.2] rfl rfl hnews ?c2 ?c3 ?c4 ?c5 ?_)
      case c2 => simp [Value.oneCell']
      case c3 => unfold maxLen; omega
      case c4 => omega
      case c5 => simp; omega
      intro v' w4 hown4 hgrow _
      have hG4 := hG.push hle (shP d h p) (((Below.refl _ _).alloc (Nat.le_refl _) _).alloc (by simp) _) hown4 hgrow
      rw [← HA.out] at hG4
      clear hG hown2 hown4 hgrow hnews x1 y1 z3 z4 kx k0 k1 k2 k3 k4
      go_wp2
      go_roundw
      case rel => exact ⟨k + 1, by omega, by go_num, hG4⟩
      case measure => simp [intOf]; omega
    · obtain rfl : k = l.length := by omega
      rw [List.take_length] at hG
      go_wp2
      go_ret
      exact ⟨_, rfl, own_low hG.1 (by omega), hG.2.1⟩

set_option maxHeartbeats 2000000 in
set_option maxRecDepth 100000 in
theorem gathered_any {w : World} {v : Value} {l : List (Int × Int)} {s t d h : Int} (hc : Rd2 w v l) (CC : CylP s t l) (td : 1 ≤ d ∧ d ≤ 20) (th : 0 ≤ h ∧ h ≤ d - 1) :
    Calls Try.prog 37 #[partV s t v d h] w (NewPins w (partL d h l)) := by
  obtain ⟨i0, hi, hz0, hz1, hz2⟩ := info_parts infoPin
  obtain ⟨a1, cap1, rfl⟩ := Rd.slice hc
  have hl := CC.2.2.1
  have ht := CC.2.1
  have CCH := Lib.hid CC
  clear CC
  obtain ⟨W, hW⟩ : ∃ W, W = w.alloc (.cells #[.int .i64 s, .int .i64 t, .slice a1 l.length cap1, .int .i64 d, .int .i64 h] 61) := ⟨_, rfl⟩
  have hX : BoxP W w.heap.size s t (.slice a1 l.length cap1) d h := by rw [hW]; exact boxp_new _ _ _ _ _ _ _
  have hB : Below w.heap.size w W := by rw [hW]; exact (Below.refl _ _).alloc (Nat.le_refl _) _
  obtain ⟨kx, k0, k1, k2, k3, k4⟩ := id hX
  rw [hW] at kx k0 k1 k2 k3 k4
  go_enter Try.func37, Try.ntmps37
  go_wp2_with fail
  rw [← hW]
  clear hW kx k0 k1 k2 k3 k4
  obtain ⟨bx, hbx⟩ : ∃ b, b = w.heap.size := ⟨_, rfl⟩
  have hle : w.heap.size ≤ bx := by omega
  rw [← hbx] at hX
  simp only [← hbx]
  clear hbx
  have hG1 : Gather w bx s t d h (.slice a1 l.length cap1) (.slice none 0 0) [] W := ⟨World.ownsRow_nil _ _ _ _, hB, hX⟩
  clear hX hB
  go_loopw [3, 10] (fun v3 v10 wr => ∃ k : Nat, k ≤ l.length ∧ v10 = .int .i64 k ∧ Gather w bx s t d h (.slice a1 l.length cap1) v3 (partL d h (l.take k)) wr) (fun _ v10 _ => l.length - (intOf v10).toNat)
  case atStart => exact ⟨0, Nat.zero_le _, rfl, hG1⟩
  case round =>
    clear hG1
    obtain ⟨k, hk, rfl, hG⟩ := hrel
    have hsl : (partL d h (l.take k)).length ≤ 100 := by have := partL_len d h (l.take k); rw [List.length_take] at this; omega
    by_cases hlt : k < l.length
    · obtain ⟨p, hp⟩ : ∃ p, l[k]? = some p := ⟨_, List.getElem?_eq_getElem hlt⟩
      have HP := Lib.hid hp
      have hpb := cyl_bd CCH.out (List.mem_of_getElem? hp)
      obtain ⟨b1, o1, cc1, hv1, x0, y0⟩ := Rd2.cells hc hp
      simp only [Value.slice.injEq, true_and] at hv1
      obtain ⟨rfl, rfl⟩ := hv1
      have x1 := old_cell hG.2.1 x0
      have y1 := old_cell hG.2.1 y0
      have hz : (d == 0) = false := by rw [beq_eq_false_iff_ne]; omega
      have hdz : ¬ d = 0 := by omega
      have hm1 := Int.emod_nonneg p.1 (show d ≠ 0 by omega)
      have hm2 := Int.emod_lt_of_pos p.1 (show 0 < d by omega)
      have er : IntKind.i64.wrap (p.1.tmod d) = p.1 % d := by rw [Int.tmod_eq_emod_of_nonneg hpb.1.1]; exact IntWalk.i64_in _ (by omega)
      have hq1 : 0 ≤ p.1 / d := Int.ediv_nonneg hpb.1.1 (by omega)
      have hq2 : p.1 / d ≤ p.1 := Int.ediv_le_self _ hpb.1.1
      have eq : IntKind.i64.wrap (p.1.tdiv d) = p.1 / d := by rw [Int.tdiv_eq_ediv_of_nonneg hpb.1.1]; exact IntWalk.i64_in _ (by omega)
      obtain ⟨q, hq⟩ : ∃ q, q = p.1 / d := ⟨_, rfl⟩
      rw [← hq] at eq
      have HQ := Lib.hid hq
      have hbl : bx + 1 ≤ wr.heap.size := hG.2.2.1
      obtain ⟨V, hV⟩ : ∃ V, V = wr.alloc (.cells #[.int .i64 p.1, .int .i64 p.2] 34) := ⟨_, rfl⟩
      have hbV : Below wr.heap.size wr V := by rw [hV]; exact (Below.refl _ _).alloc (Nat.le_refl _) _
      have z0 : V.cell? ⟨wr.heap.size, 0, none⟩ = some (.int .i64 p.1) := by rw [hV]; exact cell0 _ _ _ _
      have z1 : V.cell? ⟨wr.heap.size, 1, none⟩ = some (.int .i64 p.2) := by rw [hV]; exact cell0 _ _ _ _
      have hblV : bx + 1 ≤ V.heap.size := Nat.le_trans hbl hbV.size
      have hGV := hG.below hbV
      have hnq : some wr.heap.size ≠ u3.ownBlock := fun e => Nat.lt_irrefl _ (hG.1.lt _ e.symm).2
      obtain ⟨kx, k0, k1, k2, k3, k4⟩ := id hGV.2.2
      clear hp hq hq1 hq2 hm1 hm2 x0 y0
      go_upto_region 5 with fail
      rw [← hV]
      clear hV hG hbV x1 y1
      by_cases hph : p.1 % d = h
      · have HA := Lib.hid (show partL d h (l.take (k + 1)) = partL d h (l.take k) ++ [(q, p.2)] by rw [HQ.out]; exact partL_yes HP.out hph)
        have hphb : (p.1 % d == h) = true := by simpa using hph
        clear hph
        go_quiet (fail)
        obtain ⟨W2, hW2⟩ : ∃ W : World, W = V.drewN nq := ⟨_, rfl⟩
        have hb2 : Below V.heap.size V W2 := by rw [hW2]; exact below_drewN (Below.refl _ _) _
        rw [← hW2]
        clear hW2
        have hG2 := hGV.below hb2
        have y0 := old_cell hb2 z0
        have y1 := old_cell hb2 z1
        have hbl2 : bx + 1 ≤ W2.heap.size := Nat.le_trans hblV hb2.size
        clear hb2 hGV z0 z1 kx k0 k1 k2 k3 k4
        obtain ⟨-, k0, k1, k2, k3, k4⟩ := id hG2.2.2
        have hown2 := (hG2.1.alloc (.cells #[.int .i64 q, .int .i64 p.2] 34)).drew
        have hnews := pin_news W2 q p.2
        have y0' := old_cell (below_a W2 (.cells #[.int .i64 q, .int .i64 p.2] 34)) y0
        have y1' := old_cell (below_a W2 (.cells #[.int .i64 q, .int .i64 p.2] 34)) y1
        generalize wr.heap.size = bq at *
        go_wp2_with fail
        go_region_held3 (fun w' => w'.cell? ⟨bq, 0, none⟩ = some (.int .i64 p.1) ∧ w'.cell? ⟨bq, 1, none⟩ = some (.int .i64 p.2) ∧ w'.cell? ⟨bx, 3, none⟩ = some (.int .i64 d)) (go_keep)
          ((first
            | (refine step_append_lies _ rfl _ _ 24 rfl (bx + 1) 34 i0 (.agg #[.int .i64 0, .int .i64 0]) 2 16 Try.underlying24 hi hz0 hz1 hz2 rfl (by decide) u3 (partL d h (l.take k)).length _ rfl hown2 ⟨W2.heap.size, 0, none⟩ 1 1 [.int .i64 q, .int .i64 p.2] rfl rfl hnews (by simp [Value.oneCell']) (by decide) (by unfold maxLen; omega) (by omega) (by simp; omega) _ rfl ?_
               intro g4 c4 w4 hown4 hgrow _ _
               have hG4 := hG2.push hle (q, p.2) (below_a W2 _) hown4 hgrow
               have r0 := (cell_grown_by hgrow (World.block_lt_of_cell? _ _ y0') hnq).trans y0'
               have r1 := (cell_grown_by hgrow (World.block_lt_of_cell? _ _ y1') hnq).trans y1'
               obtain ⟨-, r2, r3, r4, r5, r6⟩ := id hG4.2.2)))
        rw [← HA.out] at hG4
        clear hG2 hown2 hown4 hgrow hnews y0 y1 y0' y1' k0 k1 k2 k3 k4 r0 r1 r2 r3 r4 r5 r6 hnq
        go_wp2
        go_roundw
        case rel => exact ⟨k + 1, by omega, by go_num, hG4⟩
        case measure => simp [intOf]; omega
      · have HA := Lib.hid (partL_no HP.out hph)
        have hphb : (p.1 % d == h) = false := by simpa using hph
        rw [← HA.out] at hGV
        clear hph
        go_quiet (fail)
        obtain ⟨W2, hW2⟩ : ∃ W : World, W = V.drewN nq := ⟨_, rfl⟩
        have hb2 : Below V.heap.size V W2 := by rw [hW2]; exact below_drewN (Below.refl _ _) _
        rw [← hW2]
        clear hW2
        have hG2 := hGV.below hb2
        clear hGV hb2
        go_wp2
        go_roundw
        case rel => exact ⟨k + 1, by omega, by go_num, hG2⟩
        case measure => simp [intOf]; omega
    · obtain rfl : k = l.length := by omega
      rw [List.take_length] at hG
      go_wp2
      go_ret
      exact ⟨_, rfl, own_low hG.1 (by omega), hG.2.1⟩
end Go.Proofs.Ytemhmbaacpfnaaa
