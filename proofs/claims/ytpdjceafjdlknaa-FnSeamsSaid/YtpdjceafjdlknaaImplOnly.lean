/- The program's OnlyAtSeam, its closure, slices.ContainsFunc and slices.IndexFunc at rows of ints: it answers as the model's. No condition. -/
import Derived.Test.YtpdjceafjdlknaaImplToo
namespace Go.Proofs.Ytpdjceafjdlknaa
open Go.ChangeShapes Go.WideShapes Go.ChangeAt Go.RowKit

def withB (l : List (Int × Int)) (r : Int) : List Int → Bool
  | [i, k] => match l[i.toNat]?, l[k.toNat]? with
    | some p, some q => decide (q.2 - p.2 < r)
    | _, _ => false
  | _ => false
theorem withB_at {l : List (Int × Int)} {r : Int} {i k : Nat} {p q : Int × Int} (hp : l[i]? = some p) (hq : l[k]? = some q) : withB l r [(i : Int), (k : Int)] = decide (q.2 - p.2 < r) := by
  show (match l[(i : Int).toNat]?, l[(k : Int).toNat]? with | some p, some q => decide (q.2 - p.2 < r) | _, _ => false) = _
  rw [Int.toNat_natCast, Int.toNat_natCast, hp, hq]
theorem onlyM_any {s t r : Int} {l : List (Int × Int)} (h : tooM s t l r ≠ []) : onlyM s t l r = !((tooM s t l r).any (withB l r)) := by
  by_cases ha : (tooM s t l r).any (withB l r) = true
  · rw [ha]
    refine onlyM_bad fun ho => ?_
    obtain ⟨x, hx, hb⟩ := List.any_eq_true.1 ha
    obtain ⟨i, k, p, q, rfl, -, -, hp, hq, -, -⟩ := tooM_two hx
    rw [show [i, k].map (fun n : Nat => (n : Int)) = [(i : Int), (k : Int)] from rfl] at hx hb
    rw [withB_at hp hq] at hb
    have := ho i k p q hx hp hq
    have := of_decide_eq_true hb
    omega
  · have ha' : (tooM s t l r).any (withB l r) = false := by simpa using ha
    rw [ha']
    refine onlyM_true h fun i k p q hx hp hq => ?_
    have := List.any_eq_false.1 ha' _ hx
    rw [withB_at hp hq] at this
    have : ¬ q.2 - p.2 < r := by simpa using this
    omega

set_option maxHeartbeats 2000000 in
theorem within_any {W : World} {bc br : Nat} {v u : Value} {l : List (Int × Int)} {s t r : Int} {i k : Nat} {p q : Int × Int} (hX : Box W bc s t v) (hr : W.cell? ⟨br, 0, none⟩ = some (.int .i64 r)) (h : Rd2 W v l) (hu : Rd1 W u [(i : Int), (k : Int)]) (hp : l[i]? = some p) (hq : l[k]? = some q) (hpb : 0 ≤ p.2 ∧ p.2 ≤ 95) (hqb : 0 ≤ q.2 ∧ q.2 ≤ 95) :
    Calls Try.prog 49 (#[u] ++ #[.pointer (some ⟨bc, 0, none⟩), .pointer (some ⟨br, 0, none⟩)]) W fun e w' => e = .returned (.bool (withB l r [(i : Int), (k : Int)])) ∧ Below W.heap.size W w' := by
  have HB := Lib.hid (withB_at (r := r) hp hq)
  obtain ⟨a1, cap1, rfl⟩ := Rd.slice h
  have hm := h.2.1
  unfold maxLen at hm
  have hil := (List.getElem?_eq_some_iff.1 hp).1
  have hkl := (List.getElem?_eq_some_iff.1 hq).1
  obtain ⟨b4, o4, c5, rfl, z0, z1⟩ := Rd1.two hu
  obtain ⟨b1, o1, c1, hv1, x1, y1⟩ := Rd2.cells h hp
  simp only [Value.slice.injEq, true_and] at hv1
  obtain ⟨rfl, rfl⟩ := hv1
  obtain ⟨b2, o2, c2, hv2, x2, y2⟩ := Rd2.cells h hq
  simp only [Value.slice.injEq, true_and, Option.some.injEq, Addr.mk.injEq, and_true] at hv2
  obtain ⟨⟨rfl, rfl⟩, rfl⟩ := hv2
  obtain ⟨-, k0, k1, k2⟩ := id hX
  clear hp hq hu
  have ew : IntKind.i64.wrap (q.2 - p.2) = q.2 - p.2 := IntWalk.i64_in _ (by omega)
  show Calls Try.prog 49 #[.slice (some ⟨b4, o4, none⟩) 2 c5, .pointer (some ⟨bc, 0, none⟩), .pointer (some ⟨br, 0, none⟩)] W _
  go_enter Try.func49, Try.ntmps49
  by_cases hd : q.2 - p.2 < r
  · have hdd : decide (q.2 - p.2 < r) = true := decide_eq_true hd
    go_wp2_with fail
    go_quiet (fail)
    have hb2 := below_drewN (Below.refl W.heap.size W) nq
    generalize W.drewN nq = W2 at *
    clear x1 y1 x2 y2 z0 z1 k0 k1 k2
    go_wp2
    go_ret
    exact ⟨by rw [HB.out, hdd]; rfl, hb2⟩
  · have hdd : decide (q.2 - p.2 < r) = false := decide_eq_false hd
    go_wp2_with fail
    go_quiet (fail)
    have hb2 := below_drewN (Below.refl W.heap.size W) nq
    generalize W.drewN nq = W2 at *
    clear x1 y1 x2 y2 z0 z1 k0 k1 k2
    go_wp2
    go_ret
    exact ⟨by rw [HB.out, hdd]; rfl, hb2⟩

/-- What is asked of a test of rows. -/
def Tst (w : World) (g : FuncId) (caps : Array Value) (b : List Int → Bool) (us : List Value) (ll : List (List Int)) : Prop :=
  ∀ (j : Nat) (u : Value) (x : List Int), us[j]? = some u → ll[j]? = some x → ∀ W, Below w.heap.size w W → Calls Try.prog g (#[u] ++ caps) W fun e W' => e = .returned (.bool (b x)) ∧ Below W.heap.size W W'

set_option maxHeartbeats 2000000 in
theorem indexfn_any {w : World} {v : Value} {us : List Value} {ll : List (List Int)} {g : FuncId} {caps : Array Value} {b : List Int → Bool} (h : RdI w v us ll) (hm : ll.length ≤ 1048576) (eg : ∀ args w, (callFunc g args).run Try.prog w = .ok (.enter g args) w) (hc : Tst w g caps b us ll) :
    Calls Try.prog 62 #[v, .func (.func g) #[] caps] w fun e w' => (∃ z : Int, e = .returned (.int .i64 z) ∧ decide (0 ≤ z) = ll.any b) ∧ Below w.heap.size w w' := by
  obtain ⟨a1, cap1, rfl⟩ := h.slice
  have HC := Lib.hid hc; clear hc
  go_enter Try.func62, Try.ntmps62
  go_wp2_with fail
  go_loopw [8] (fun v8 wr => ∃ j : Nat, j ≤ ll.length ∧ v8 = .int .i64 (j : Int) ∧ Hid (∀ (m : Nat) (x : List Int), m < j → ll[m]? = some x → b x = false) ∧ Below w.heap.size w wr) (fun v8 _ => ll.length - (intOf v8).toNat)
  case atStart => exact ⟨0, Nat.zero_le _, rfl, Lib.hid fun m x hm => by omega, Below.refl _ _⟩
  case round =>
    obtain ⟨j, hj, rfl, HA, hbr⟩ := hrel
    by_cases hlt : j < ll.length
    · obtain ⟨x, hx⟩ : ∃ x, ll[j]? = some x := ⟨_, List.getElem?_eq_getElem hlt⟩
      obtain ⟨b3, o3, c4, u, hus, hv3, x3, -⟩ := (h.below hbr).cell hx
      simp only [Value.slice.injEq, true_and] at hv3
      obtain ⟨rfl, rfl⟩ := hv3
      have HX := Lib.hid hx
      have HU := Lib.hid hus
      clear hx hus
      go_wp2_with fail
      refine (HC.out j u x HU.out HX.out _ hbr).mono ?_
      rintro e w2 ⟨rfl, hb2⟩
      have hb3 := bstep hbr hb2
      clear hb2 x3 hbr
      cases hb : b x with
      | true =>
        have HE := Lib.hid (show ll.any b = true from List.any_eq_true.2 ⟨x, List.mem_of_getElem? HX.out, hb⟩)
        go_wp2
        go_ret
        exact ⟨⟨_, rfl, by rw [HE.out]; exact decide_eq_true (by omega)⟩, hb3⟩
      | false =>
        have HA2 : Hid (∀ (m : Nat) (x : List Int), m < j + 1 → ll[m]? = some x → b x = false) := Lib.hid fun m y hm' hy => by
          by_cases hmj : m < j
          · exact HA.out m y hmj hy
          · obtain rfl : m = j := by omega
            rw [HX.out] at hy
            obtain rfl := Option.some.inj hy
            exact hb
        go_wp2
        go_roundw
        case rel => exact ⟨j + 1, by omega, by go_num, HA2, hb3⟩
        case measure => simp [intOf]; omega
    · obtain rfl : j = ll.length := by omega
      have HE := Lib.hid (show ll.any b = false from List.any_eq_false.2 fun x hx => by
        obtain ⟨m, hm'⟩ := List.mem_iff_getElem?.1 hx
        rw [HA.out m x (List.getElem?_eq_some_iff.1 hm').1 hm']; simp)
      go_wp2
      go_ret
      exact ⟨⟨_, rfl, by rw [HE.out]; rfl⟩, hbr⟩
set_option maxHeartbeats 1000000 in
theorem contfn_any {w : World} {v : Value} {us : List Value} {ll : List (List Int)} {g : FuncId} {caps : Array Value} {b : List Int → Bool} (h : RdI w v us ll) (hm : ll.length ≤ 1048576) (eg : ∀ args w, (callFunc g args).run Try.prog w = .ok (.enter g args) w) (hc : Tst w g caps b us ll) :
    Calls Try.prog 50 #[v, .func (.func g) #[] caps] w fun e w' => e = .returned (.bool (ll.any b)) ∧ Below w.heap.size w w' := by
  have HI := Lib.hid (indexfn_any h hm eg hc)
  clear hc
  go_enter Try.func50, Try.ntmps50
  go_wp2_with fail
  refine HI.out.mono ?_
  rintro e w1 ⟨⟨z, rfl, hz⟩, hb⟩
  have HZ := Lib.hid hz
  clear hz HI
  by_cases h0 : 0 ≤ z
  · have hd : decide (0 ≤ z) = true := decide_eq_true h0
    have HE := Lib.hid (show ll.any b = true by rw [← HZ.out, hd])
    go_wp2
    go_ret
    exact ⟨by rw [HE.out]; rfl, hb⟩
  · have hd : decide (0 ≤ z) = false := decide_eq_false h0
    have HE := Lib.hid (show ll.any b = false by rw [← HZ.out, hd])
    go_wp2
    go_ret
    exact ⟨by rw [HE.out]; rfl, hb⟩

set_option maxHeartbeats 4000000 in
set_option maxRecDepth 100000 in
theorem ionly_any {w : World} {v : Value} {l : List (Int × Int)} (s t r : Int) (h : Rd2 w v l) :
    Calls Try.prog 21 #[.agg #[.int .i64 s, .int .i64 t, v], .int .i64 r] w fun e w' => e = .returned (.bool (onlyM s t l r)) ∧ Below w.heap.size w w' := by
  have hmf : ∀ (fn : Fn) (first cap : Array Value) (w : World), (Instr.makeFunc fn first cap).run Try.prog w = .ok (.func fn first cap) w := fun _ _ _ _ => rfl
  obtain ⟨a1, cap1, rfl⟩ := Rd.slice h
  obtain ⟨W, hW⟩ : ∃ W, W = (w.alloc (.cells #[.int .i64 s, .int .i64 t, .slice a1 l.length cap1] 26)).alloc (.cells #[.int .i64 r] 3) := ⟨_, rfl⟩
  have hb1 : Below (w.alloc (.cells #[.int .i64 s, .int .i64 t, .slice a1 l.length cap1] 26)).heap.size (w.alloc (.cells #[.int .i64 s, .int .i64 t, .slice a1 l.length cap1] 26)) W := by rw [hW]; exact (Below.refl _ _).alloc (Nat.le_refl _) _
  have hX : Box W w.heap.size s t (.slice a1 l.length cap1) := (box_new _ _ _ _ _).below hb1
  have hB : Below w.heap.size w W := bstep ((Below.refl _ _).alloc (Nat.le_refl _) _) hb1
  have hR0 : W.cell? ⟨w.heap.size + 1, 0, none⟩ = some (.int .i64 r) := by rw [hW]; simp [go_sem]
  have hm := tooM_len (s := s) (t := t) (r := r) (l := l)
  have HT : Hid (∀ {j : Nat}, j < (tooM s t l r).length → ∃ (i k : Nat) (p q : Int × Int), (tooM s t l r)[j]? = some [(i : Int), (k : Int)] ∧ i < k ∧ k < l.length ∧ l[i]? = some p ∧ l[k]? = some q ∧ (0 ≤ p.2 ∧ p.2 ≤ 95) ∧ (0 ≤ q.2 ∧ q.2 ≤ 95)) := Lib.hid too_at
  have H1 : Hid (tooM s t l r ≠ [] → onlyM s t l r = !((tooM s t l r).any (withB l r))) := Lib.hid onlyM_any
  have H2 : Hid (tooM s t l r = [] → onlyM s t l r = false) := Lib.hid onlyM_none
  obtain ⟨-, k0, k1, k2⟩ := id hX
  rw [hW] at k0 k1 k2
  have hR0' := hR0
  rw [hW] at hR0'
  go_enter Try.func21, Try.ntmps21
  go_wp2_with fail
  rw [← hW]
  clear hW k0 k1 k2 hR0' hb1
  obtain ⟨bx, hbx⟩ : ∃ b, b = w.heap.size := ⟨_, rfl⟩
  rw [show w.heap.size + 1 = bx + 1 by rw [hbx]] at hR0
  rw [← hbx] at hX
  simp only [← hbx]
  clear hbx
  refine (itoo_any s t r (Rd.below h hB)).mono ?_
  rintro e w1 ⟨v1, us, rfl, hO, hb1⟩
  have hR := hO.rd
  obtain ⟨a3, c3, rfl⟩ := hR.slice
  have g1 := bstep hB hb1
  have hX1 := hX.below hb1
  have hR1 := old_cell hb1 hR0
  clear hO hb1 hX hB hR0
  generalize tooM s t l r = ll at *
  by_cases hz : ll = []
  · have HE := Lib.hid (H2.out hz)
    subst hz
    clear H1 H2 HT
    go_wp2
    go_ret
    exact ⟨by rw [HE.out]; rfl, g1⟩
  · have HE := Lib.hid (H1.out hz)
    have hpos : 0 < ll.length := by
      cases ll with
      | nil => exact absurd rfl hz
      | cons a b => simp
    have hz0 : ¬ ll.length = 0 := by omega
    have HTST : Hid (Tst w1 49 #[.pointer (some ⟨bx, 0, none⟩), .pointer (some ⟨bx + 1, 0, none⟩)] (withB l r) us ll) := Lib.hid fun j u x hu hx W hb => by
      obtain ⟨i, k, p, q, hx', -, -, hp, hq, hpb, hqb⟩ := HT.out (List.getElem?_eq_some_iff.1 hx).1
      rw [hx] at hx'
      obtain rfl := Option.some.inj hx'
      exact within_any (hX1.below hb) (old_cell hb hR1) (Rd.below h (bstep g1 hb)) (Rd.below (hR.2.2 j u _ hu hx) hb) hp hq hpb hqb
    clear hz H1 H2 HT
    go_wp2_with fail
    refine (contfn_any hR (by omega) (fun args w => ?_) HTST.out).mono ?_
    · rfl
    rintro e w2 ⟨rfl, hb2⟩
    have g2 := bstep g1 hb2
    generalize ll.any (withB l r) = bb at *
    clear HTST hb2
    cases bb with
    | true =>
      go_wp2
      go_ret
      exact ⟨by rw [HE.out]; rfl, g2⟩
    | false =>
      go_wp2
      go_ret
      exact ⟨by rw [HE.out]; rfl, g2⟩
end Go.Proofs.Ytpdjceafjdlknaa
