/- Chapter 18, the program: from how many notes on two places of a tune are the same (repeatedNotes). No condition. Made by gen_implmotif.py. -/
import Derived.Test.YtglehmffmailkaaMotifMath
import Derived.Test.YtglehmffmailkaaRdCap
import Derived.Test.YtglehmffmailkaaOnto
import Derived.Test.YtglehmffmailkaaImplTune
namespace Go.Proofs.Ytglehmffmailkaa
open Go.ChangeShapes Go.WideShapes Go.ChangeAt Go.RowKit

/-- The first n notes from i and from k on are moved alike. -/
def MovP (l : List (Int × Int)) (a b : Int × Int) (i k n : Nat) : Prop := ∀ j p q, j < n → l[i + j]? = some p → l[k + j]? = some q → ((p.1 + (b.1 - a.1), p.2 + (b.2 - a.2)) : Int × Int) = q
theorem mov_zero (l : List (Int × Int)) (a b : Int × Int) (i k : Nat) : MovP l a b i k 0 := fun j p q hj => by omega
theorem mov_succ {l : List (Int × Int)} {a b : Int × Int} {i k n : Nat} {p q : Int × Int} (h : MovP l a b i k n) (hp : l[i + n]? = some p) (hq : l[k + n]? = some q) (he : ((p.1 + (b.1 - a.1), p.2 + (b.2 - a.2)) : Int × Int) = q) : MovP l a b i k (n + 1) := fun j x y hj hx hy => by
  by_cases hjn : j < n
  · exact h j x y hjn hx hy
  · obtain rfl : j = n := by omega
    rw [hp] at hx; rw [hq] at hy
    obtain rfl := Option.some.inj hx
    obtain rfl := Option.some.inj hy
    exact he
theorem mov_sam {l : List (Int × Int)} (ht : tuneB l = true) {i k n : Nat} {a b : Int × Int} (ha : l[i]? = some a) (hb : l[k]? = some b) (hi : i + n ≤ l.length) (hk : k + n ≤ l.length) : samT l i k n = true ↔ MovP l a b i k n := by
  rw [samT_is ht]
  by_cases h0 : n = 0
  · subst h0
    have e : ∀ m, sub18 l m 0 = [] := fun m => by unfold sub18; rfl
    rw [e, e]
    exact ⟨fun _ => mov_zero _ _ _ _ _, fun _ => rfl⟩
  have a0 : (sub18 l i n)[0]? = some a := by rw [sub_at (by omega)]; exact ha
  have b0 : (sub18 l k n)[0]? = some b := by rw [sub_at (by omega)]; exact hb
  constructor
  · intro h j p q hj hp hq
    have h1 := offL_at a0 (show (sub18 l i n)[j]? = some p by rw [sub_at hj]; exact hp)
    have h2 := offL_at b0 (show (sub18 l k n)[j]? = some q by rw [sub_at hj]; exact hq)
    rw [h, h2] at h1
    have h3 := Option.some.inj h1
    simp only [Prod.mk.injEq] at h3
    exact Prod.ext (by simp only; omega) (by simp only; omega)
  · intro h
    refine List.ext_getElem? fun j => ?_
    by_cases hj : j < n
    · obtain ⟨p, hp⟩ : ∃ p, l[i + j]? = some p := ⟨_, List.getElem?_eq_getElem (by omega)⟩
      obtain ⟨q, hq⟩ : ∃ q, l[k + j]? = some q := ⟨_, List.getElem?_eq_getElem (by omega)⟩
      rw [offL_at a0 (show (sub18 l i n)[j]? = some p by rw [sub_at hj]; exact hp), offL_at b0 (show (sub18 l k n)[j]? = some q by rw [sub_at hj]; exact hq)]
      have h3 := h j p q hj hp hq
      rw [← h3]
      exact congrArg some (Prod.ext (by simp only; omega) (by simp only; omega))
    · rw [List.getElem?_eq_none (by rw [offL_len, sub_len hi]; omega), List.getElem?_eq_none (by rw [offL_len, sub_len hk]; omega)]
/-- Exactly c notes from i and k on are the same. -/
def RepC (l : List (Int × Int)) (i k c : Nat) : Prop := k + c ≤ l.length ∧ ∀ n, k + n ≤ l.length → (samT l i k n = true ↔ n ≤ c)
theorem repC_of {l : List (Int × Int)} (ht : tuneB l = true) {i k c : Nat} {a b : Int × Int} (ha : l[i]? = some a) (hb : l[k]? = some b) (hik : i ≤ k) (hc : k + c ≤ l.length) (h : MovP l a b i k c) (hn : k + c < l.length → ¬ MovP l a b i k (c + 1)) : RepC l i k c := by
  refine ⟨hc, fun n hn' => ?_⟩
  rw [mov_sam ht ha hb (by omega) hn']
  constructor
  · intro hm
    by_cases hle : n ≤ c
    · exact hle
    · exact absurd (fun j p q hj => hm j p q (by omega)) (hn (by omega))
  · intro hle j p q hj
    exact h j p q (by omega)

set_option maxHeartbeats 2000000 in
set_option maxRecDepth 100000 in
theorem repnotes_any {w : World} {v : Value} {l : List (Int × Int)} {i k : Nat} (h : Rd2 w v l) (ht : tuneB l = true) (hik : i ≤ k) (hk : k < l.length) :
    Calls Try.prog 52 #[v, .int .i64 i, .int .i64 k] w fun e w' => ∃ c : Nat, e = .returned (.int .i64 (c : Int)) ∧ RepC l i k c ∧ Below w.heap.size w w' := by
  obtain ⟨a1, cap1, rfl⟩ := Rd.slice h
  have HT := Lib.hid ht
  have h40 := (tuneB_true.1 ht).1
  obtain ⟨a, ha⟩ : ∃ p, l[i]? = some p := ⟨_, List.getElem?_eq_getElem (by omega)⟩
  obtain ⟨b, hb⟩ : ∃ p, l[k]? = some p := ⟨_, List.getElem?_eq_getElem (by omega)⟩
  have ra := (tuneB_true.1 ht).2 _ _ ha
  have rb := (tuneB_true.1 ht).2 _ _ hb
  have ra1 := ra.1
  have ra2 := ra.2.1
  have rb1 := rb.1
  have rb2 := rb.2.1
  have e1 : IntKind.i64.wrap (b.1 - a.1) = b.1 - a.1 := IntWalk.i64_in _ (by omega)
  have e2 : IntKind.i64.wrap (b.2 - a.2) = b.2 - a.2 := IntWalk.i64_in _ (by omega)
  have HB : Hid (∀ (j : Nat) (p : Int × Int), l[j]? = some p → IntKind.i64.wrap (p.1 + (b.1 - a.1)) = p.1 + (b.1 - a.1) ∧ IntKind.i64.wrap (p.2 + (b.2 - a.2)) = p.2 + (b.2 - a.2)) := Lib.hid fun j p hp => by
    have rp := (tuneB_true.1 ht).2 _ _ hp
    have rp1 := rp.1
    have rp2 := rp.2.1
    exact ⟨IntWalk.i64_in _ (by omega), IntWalk.i64_in _ (by omega)⟩
  have HA := Lib.hid ha
  have HBB := Lib.hid hb
  obtain ⟨b1, o1, c1, hv1, x1, y1⟩ := Rd2.cells h ha
  obtain ⟨b2, o2, c2, hv2, x2, y2⟩ := Rd2.cells h hb
  simp only [Value.slice.injEq, true_and] at hv1
  obtain ⟨rfl, rfl⟩ := hv1
  simp only [Value.slice.injEq, true_and, Option.some.injEq, Addr.mk.injEq, and_true] at hv2
  obtain ⟨⟨rfl, rfl⟩, rfl⟩ := hv2
  have hil : i < l.length := by omega
  clear ht ha hb ra rb ra1 ra2 rb1 rb2
  go_enter Try.func52, Try.ntmps52
  go_wp2_with fail
  go_region_held3 (fun w' => w'.cell? ⟨b1, o1 + i * 2, none⟩ = some (.int .i64 a.1) ∧ w'.cell? ⟨b1, o1 + i * 2 + 1, none⟩ = some (.int .i64 a.2) ∧ w'.cell? ⟨b1, o1 + k * 2, none⟩ = some (.int .i64 b.1) ∧ w'.cell? ⟨b1, o1 + k * 2 + 1, none⟩ = some (.int .i64 b.2)) (go_keep)
    ((go_at_call 54; refine (moveonto_any a b e1 e2).mono ?_; rintro e w1 ⟨bt, bp, rfl, hmv, hb1⟩; have q1 := kept_cell hb1 x1; have q2 := kept_cell hb1 y1; have q3 := kept_cell hb1 x2; have q4 := kept_cell hb1 y2))
  have g1 := below_undrew hb1
  clear hb1 q1 q2 q3 q4 x1 y1 x2 y2 e1 e2
  go_wp2
  go_loopw [8] (fun v8 wr => ∃ c : Nat, k + c ≤ l.length ∧ v8 = .int .i64 (c : Int) ∧ Hid (MovP l a b i k c) ∧ Below w1.heap.size w1 wr) (fun v8 _ => l.length - (intOf v8).toNat)
  case atStart => exact ⟨0, by omega, rfl, Lib.hid (mov_zero _ _ _ _ _), Below.refl _ _⟩
  case round =>
    obtain ⟨c, hc, rfl, HM, hbr⟩ := hrel
    have gr := bstep g1 hbr
    have wk : IntKind.i64.wrap ((k : Int) + (c : Int)) = (k : Int) + (c : Int) := IntWalk.i64_in _ (by omega)
    have wi : IntKind.i64.wrap ((i : Int) + (c : Int)) = (i : Int) + (c : Int) := IntWalk.i64_in _ (by omega)
    by_cases hlt : k + c < l.length
    · obtain ⟨p, hp⟩ : ∃ p, l[i + c]? = some p := ⟨_, List.getElem?_eq_getElem (by omega)⟩
      obtain ⟨q, hq⟩ : ∃ q, l[k + c]? = some q := ⟨_, List.getElem?_eq_getElem hlt⟩
      obtain ⟨b3, o3, c3, hv3, x3, y3⟩ := Rd2.cells (Rd.below h gr) hp
      obtain ⟨b4, o4, c4, hv4, x4, y4⟩ := Rd2.cells (Rd.below h gr) hq
      simp only [Value.slice.injEq, true_and, Option.some.injEq, Addr.mk.injEq, and_true] at hv3 hv4
      obtain ⟨⟨rfl, rfl⟩, rfl⟩ := hv3
      obtain ⟨⟨rfl, rfl⟩, -⟩ := hv4
      have u3 := fun n os => cell_grown (World.block_lt_of_cell? _ _ x3) x3 n os
      have z3 := fun n os => cell_grown (World.block_lt_of_cell? _ _ y3) y3 n os
      have u4 := fun n os => cell_grown (World.block_lt_of_cell? _ _ x4) x4 n os
      have z4 := fun n os => cell_grown (World.block_lt_of_cell? _ _ y4) y4 n os
      have hmw := hmv.below hbr
      have HMV : Hid (∀ n os, MvAt (Sort.grow (wr.drewN n) os) bt bp (b.1 - a.1) (b.2 - a.2)) := Lib.hid fun n os => ⟨cell_grown (World.block_lt_of_cell? _ _ hmw.1) hmw.1 n os, cell_grown (World.block_lt_of_cell? _ _ hmw.2) hmw.2 n os⟩
      have HW := Lib.hid (HB.out _ _ hp)
      have HP := Lib.hid hp
      have HQ := Lib.hid hq
      have t1 : ((i : Int) + (c : Int)).toNat = i + c := by omega
      have t2 : ((k : Int) + (c : Int)).toNat = k + c := by omega
      have hlz : (k : Int) + (c : Int) < (l.length : Int) := by omega
      have hlz2 : (i : Int) + (c : Int) < (l.length : Int) := by omega
      have hlz3 : (0 : Int) ≤ (i : Int) + (c : Int) := by omega
      have hlz4 : (0 : Int) ≤ (k : Int) + (c : Int) := by omega
      have hlt2 : i + c < l.length := by omega
      have hdz : decide ((k : Int) + (c : Int) < (l.length : Int)) = true := decide_eq_true hlz
      clear x3 y3 x4 y4 hp hq hmw
      by_cases hqp : ((p.1 + (b.1 - a.1), p.2 + (b.2 - a.2)) : Int × Int) = q
      · have he : ∀ W, (binOp .eql 39 (.agg #[.int .i64 (p.1 + (b.1 - a.1)), .int .i64 (p.2 + (b.2 - a.2))]) (.agg #[.int .i64 q.1, .int .i64 q.2])).run Try.prog W = .ok (.bool true) W := fun W => eql_yes (q := (p.1 + (b.1 - a.1), p.2 + (b.2 - a.2))) hqp W
        have HM2 := Lib.hid (mov_succ HM.out HP.out HQ.out hqp)
        clear hqp
        go_wp2_with fail
        refine wp_region_quiet_grown (by kernel_rfl) (by kernel_rfl) ?_
        repeat (go_big_quiet_step ((go_at_call 80; exact grown_gr (mvcall_any p (HMV.out _ _) HW.out.1 HW.out.2))))
        refine wpQuiet_nil ?_
        intro _ hw'
        obtain ⟨⟨nq, osq⟩, hw''⟩ := hw'
        subst hw''
        have hbe := bstep hbr (Gr.below ⟨nq, osq, rfl⟩ : Below wr.heap.size wr (Sort.grow (wr.drewN nq) osq))
        generalize Sort.grow (wr.drewN nq) osq = W2 at *
        clear he u3 z3 u4 z4
        go_wp2
        go_roundw
        case rel => exact ⟨c + 1, by omega, by go_num, HM2, hbe⟩
        case measure => simp [intOf]; omega
      · have he : ∀ W, (binOp .eql 39 (.agg #[.int .i64 (p.1 + (b.1 - a.1)), .int .i64 (p.2 + (b.2 - a.2))]) (.agg #[.int .i64 q.1, .int .i64 q.2])).run Try.prog W = .ok (.bool false) W := fun W => eql_no (q := (p.1 + (b.1 - a.1), p.2 + (b.2 - a.2))) hqp W
        have HR := Lib.hid (repC_of HT.out HA.out HBB.out hik hc HM.out fun _ hm => hqp (hm c p q (by omega) HP.out HQ.out))
        clear hqp
        go_wp2_with fail
        refine wp_region_quiet_grown (by kernel_rfl) (by kernel_rfl) ?_
        repeat (go_big_quiet_step ((go_at_call 80; exact grown_gr (mvcall_any p (HMV.out _ _) HW.out.1 HW.out.2))))
        refine wpQuiet_nil ?_
        intro _ hw'
        obtain ⟨⟨nq, osq⟩, hw''⟩ := hw'
        subst hw''
        have hbe := bstep hbr (Gr.below ⟨nq, osq, rfl⟩ : Below wr.heap.size wr (Sort.grow (wr.drewN nq) osq))
        generalize Sort.grow (wr.drewN nq) osq = W2 at *
        clear he u3 z3 u4 z4
        go_wp2
        go_ret
        exact ⟨c, rfl, HR.out, bstep g1 hbe⟩
    · have hlz : ¬ (k : Int) + (c : Int) < (l.length : Int) := by omega
      have hdz : decide ((k : Int) + (c : Int) < (l.length : Int)) = false := decide_eq_false hlz
      have HR := Lib.hid (repC_of HT.out HA.out HBB.out hik hc HM.out fun hm => absurd hm hlt)
      go_wp2_with fail
      refine wp_region_quiet_grown (by kernel_rfl) (by kernel_rfl) ?_
      repeat (go_big_quiet_step (fail))
      refine wpQuiet_nil ?_
      intro _ hw'
      obtain ⟨⟨nq, osq⟩, hw''⟩ := hw'
      subst hw''
      have hbe := bstep hbr (Gr.below ⟨nq, osq, rfl⟩ : Below wr.heap.size wr (Sort.grow (wr.drewN nq) osq))
      generalize Sort.grow (wr.drewN nq) osq = W2 at *
      go_wp2
      go_ret
      exact ⟨c, rfl, HR.out, bstep g1 hbe⟩
end Go.Proofs.Ytglehmffmailkaa
