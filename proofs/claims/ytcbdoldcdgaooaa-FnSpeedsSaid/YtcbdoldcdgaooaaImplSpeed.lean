/- The contracts of the program's chapter 14: TurnTime, PlayTime, TurnsForTime, afterFirst, BeatsOf, Shortened, FitsTurn. No condition but that a row lies within its capacity. Made by gen_speed.py. -/
import Derived.Test.YtcbdoldcdgaooaaSpeedMath
import Derived.Test.YtcbdoldcdgaooaaImplGear
import Derived.Test.YtcbdoldcdgaooaaImplChg
import Derived.Test.YtcbdoldcdgaooaaImplTune2
import Derived.Test.YtcbdoldcdgaooaaRdCap
import Derived.Deep.RegionHeld3
import Derived.StillTailTactics
namespace Go.Proofs.Ytcbdoldcdgaooaa
open Go.ChangeShapes Go.WideShapes Go.ChangeAt Go.RowKit

theorem ttI_any {w : World} (a b : Int) :
    Calls Try.prog 44 #[.int .i64 a, .int .i64 b] w fun e w' => e = .returned (.int .i64 (ttM a b)) ∧ w = w' := by
  by_cases h1 : 1 ≤ a
  · by_cases h2 : a ≤ 96
    · by_cases h3 : 1 ≤ b
      · by_cases h4 : b ≤ 1000
        · have HT := Lib.hid (ttM_yes (a := a) (b := b) ⟨⟨h1, h2⟩, h3, h4⟩)
          have hp := turn_pos (a := a) (b := b) ⟨⟨h1, h2⟩, h3, h4⟩
          have ew : IntKind.i64.wrap (a * b) = a * b := IntWalk.i64_in _ (by omega)
          go_enter Try.func44, Try.ntmps44
          go_wp2
          go_ret
          exact ⟨by rw [HT.out]; rfl, rfl⟩
        · have HT := Lib.hid (ttM_no (a := a) (b := b) fun k => h4 k.2.2)
          go_enter Try.func44, Try.ntmps44
          go_wp2
          go_ret
          exact ⟨by rw [HT.out]; rfl, rfl⟩
      · have HT := Lib.hid (ttM_no (a := a) (b := b) fun k => h3 k.2.1)
        go_enter Try.func44, Try.ntmps44
        go_wp2
        go_ret
        exact ⟨by rw [HT.out]; rfl, rfl⟩
    · have HT := Lib.hid (ttM_no (a := a) (b := b) fun k => h2 k.1.2)
      go_enter Try.func44, Try.ntmps44
      go_wp2
      go_ret
      exact ⟨by rw [HT.out]; rfl, rfl⟩
  · have HT := Lib.hid (ttM_no (a := a) (b := b) fun k => h1 k.1.1)
    go_enter Try.func44, Try.ntmps44
    go_wp2
    go_ret
    exact ⟨by rw [HT.out]; rfl, rfl⟩

theorem plI_any {w : World} (a b n : Int) :
    Calls Try.prog 45 #[.int .i64 a, .int .i64 b, .int .i64 n] w fun e w' => e = .returned (.int .i64 (plM a b n)) ∧ w = w' := by
  by_cases hT : TurnP a b
  · have HT := Lib.hid (ttM_yes hT)
    have hp := turn_pos hT
    have hx0 : ¬ a * b < 0 := by omega
    by_cases hn : 0 ≤ n ∧ n ≤ 1000
    · have HM := Lib.hid (plM_yes hT hn)
      have hm0 := Int.mul_nonneg (show 0 ≤ a * b by omega) hn.1
      have hm1 := Int.mul_le_mul hp.2 hn.2 hn.1 (by omega : (0 : Int) ≤ 96000)
      have hn1 := hn.1
      have hn2 := hn.2
      go_enter Try.func45, Try.ntmps45
      go_wp2_with fail
      refine (ttI_any a b).mono ?_
      rintro e w1 ⟨rfl, rfl⟩
      rw [HT.out]
      clear hT
      generalize a * b = x at *
      have hd0 : 0 ≤ x * n / 1000 := Int.ediv_nonneg (by omega) (by omega)
      have hd1 : x * n / 1000 ≤ x * n := Int.ediv_le_self _ (by omega)
      have ew1 : IntKind.i64.wrap (x * n) = x * n := IntWalk.i64_in _ (by omega)
      have ed : (x * n).tdiv 1000 = x * n / 1000 := Int.tdiv_eq_ediv_of_nonneg (by omega)
      have ew2 : IntKind.i64.wrap (x * n / 1000) = x * n / 1000 := IntWalk.i64_in _ (by omega)

      go_wp2
      go_ret
      exact ⟨by rw [HM.out]; rfl, rfl⟩
    · have HM := Lib.hid (plM_no (a := a) (b := b) (n := n) fun k => hn k.2)
      by_cases hn1 : 0 ≤ n
      · have hn2 : ¬ n ≤ 1000 := fun k => hn ⟨hn1, k⟩
        go_enter Try.func45, Try.ntmps45
        go_wp2_with fail
        refine (ttI_any a b).mono ?_
        rintro e w1 ⟨rfl, rfl⟩
        rw [HT.out]
        clear hT
        generalize a * b = x at *
        go_wp2
        go_ret
        exact ⟨by rw [HM.out]; rfl, rfl⟩
      · go_enter Try.func45, Try.ntmps45
        go_wp2_with fail
        refine (ttI_any a b).mono ?_
        rintro e w1 ⟨rfl, rfl⟩
        rw [HT.out]
        clear hT
        generalize a * b = x at *
        go_wp2
        go_ret
        exact ⟨by rw [HM.out]; rfl, rfl⟩
  · have HT := Lib.hid (ttM_no hT)
    have HM := Lib.hid (plM_no (a := a) (b := b) (n := n) fun k => hT k.1)
    go_enter Try.func45, Try.ntmps45
    go_wp2_with fail
    refine (ttI_any a b).mono ?_
    rintro e w1 ⟨rfl, rfl⟩
    rw [HT.out]
    go_wp2
    go_ret
    exact ⟨by rw [HM.out]; rfl, rfl⟩

theorem tfI_any {w : World} (a b s : Int) :
    Calls Try.prog 43 #[.int .i64 a, .int .i64 b, .int .i64 s] w fun e w' => e = .returned (.int .i64 (tfM a b s)) ∧ w = w' := by
  by_cases hT : TurnP a b
  · have HT := Lib.hid (ttM_yes hT)
    have hp := turn_pos hT
    have hx0 : ¬ a * b < 0 := by omega
    by_cases hs : 0 ≤ s ∧ s ≤ 3600
    · have hs1 := hs.1
      have hs2 := hs.2
      have hq0 := tfQ_pos hp.1 hs.1
      have hq1 := tfQ_le hp.1 hs
      have hq2 : tfQ (a * b) s = (s * 1000 + a * b - 1) / (a * b) := rfl
      have hmul : 1000 * s = s * 1000 := Int.mul_comm _ _
      have ew1 : IntKind.i64.wrap (s * 1000) = s * 1000 := IntWalk.i64_in _ (by omega)
      have ew1' : IntKind.i64.wrap (1000 * s) = s * 1000 := by rw [hmul]; exact ew1
      have ew2 : IntKind.i64.wrap (s * 1000 + a * b) = s * 1000 + a * b := IntWalk.i64_in _ (by omega)
      have ew3 : IntKind.i64.wrap (s * 1000 + a * b - 1) = s * 1000 + a * b - 1 := IntWalk.i64_in _ (by omega)
      have ed : (s * 1000 + a * b - 1).tdiv (a * b) = tfQ (a * b) s := by rw [hq2]; exact Int.tdiv_eq_ediv_of_nonneg (by omega)
      have ew4 : IntKind.i64.wrap (tfQ (a * b) s) = tfQ (a * b) s := IntWalk.i64_in _ (by omega)
      have hz : (a * b == 0) = false := by rw [beq_eq_false_iff_ne]; omega
      have hz' : ¬ a * b = 0 := by omega
      clear hq2 hmul
      by_cases hq : tfQ (a * b) s ≤ 1000
      · have HM := Lib.hid (tfM_yes hT hs hq)
        go_enter Try.func43, Try.ntmps43
        go_wp2_with fail
        refine (ttI_any a b).mono ?_
        rintro e w1 ⟨rfl, rfl⟩
        rw [HT.out]
        clear hT
        generalize tfQ (a * b) s = q at *
        generalize a * b = x at *

        go_wp2
        go_ret
        exact ⟨by rw [HM.out]; rfl, rfl⟩
      · have HM := Lib.hid (tfM_no (a := a) (b := b) (s := s) fun k => hq k.2.2)
        have hq' : 1000 < tfQ (a * b) s := by omega
        go_enter Try.func43, Try.ntmps43
        go_wp2_with fail
        refine (ttI_any a b).mono ?_
        rintro e w1 ⟨rfl, rfl⟩
        rw [HT.out]
        clear hT
        generalize tfQ (a * b) s = q at *
        generalize a * b = x at *

        go_wp2
        go_ret
        exact ⟨by rw [HM.out]; rfl, rfl⟩
    · have HM := Lib.hid (tfM_no (a := a) (b := b) (s := s) fun k => hs k.2.1)
      by_cases hs1 : 0 ≤ s
      · have hs2 : ¬ s ≤ 3600 := fun k => hs ⟨hs1, k⟩
        go_enter Try.func43, Try.ntmps43
        go_wp2_with fail
        refine (ttI_any a b).mono ?_
        rintro e w1 ⟨rfl, rfl⟩
        rw [HT.out]
        clear hT
        generalize a * b = x at *
        go_wp2
        go_ret
        exact ⟨by rw [HM.out]; rfl, rfl⟩
      · go_enter Try.func43, Try.ntmps43
        go_wp2_with fail
        refine (ttI_any a b).mono ?_
        rintro e w1 ⟨rfl, rfl⟩
        rw [HT.out]
        clear hT
        generalize a * b = x at *
        go_wp2
        go_ret
        exact ⟨by rw [HM.out]; rfl, rfl⟩
  · have HT := Lib.hid (ttM_no hT)
    have HM := Lib.hid (tfM_no (a := a) (b := b) (s := s) fun k => hT k.1)
    go_enter Try.func43, Try.ntmps43
    go_wp2_with fail
    refine (ttI_any a b).mono ?_
    rintro e w1 ⟨rfl, rfl⟩
    rw [HT.out]
    go_wp2
    go_ret
    exact ⟨by rw [HM.out]; rfl, rfl⟩

theorem flat2_cons (a : Int × Int) (r : List (Int × Int)) : flat2 (a :: r) = [intV a.1, intV a.2] ++ flat2 r := rfl
/-- All notes but the first. -/
theorem rd2_tail {w : World} {b off cap c2 : Nat} {a : Int × Int} {r : List (Int × Int)} (h : Rd2 w (.slice (some ⟨b, off, none⟩) (r.length + 1) cap) (a :: r)) : Rd2 w (.slice (some ⟨b, off + 2, none⟩) r.length c2) r := by
  have hm := h.2.1
  rw [List.length_cons] at hm
  refine ⟨flat2_length _, by omega, ?_⟩
  by_cases h0 : r.length = 0
  · left
    exact ⟨h0, some ⟨b, off + 2, none⟩, c2, by rw [h0]⟩
  · right
    refine ⟨b, off + 2, c2, rfl, by omega, fun c hc => ?_⟩
    obtain ⟨b1, o1, cp, hv, hcs⟩ := Rd.pos h (by simp)
    rw [List.length_cons] at hv
    simp only [Value.slice.injEq, Option.some.injEq, Addr.mk.injEq, true_and, and_true] at hv
    obtain ⟨⟨rfl, rfl⟩, rfl⟩ := hv
    have := hcs (c + 2) (by rw [List.length_cons]; omega)
    rw [flat2_cons, show off + (c + 2) = off + 2 + c by omega] at this
    rw [this, show c + 2 = [intV a.1, intV a.2].length + c by simp; omega, List.getElem?_append_right (by omega)]
    congr 1; omega

theorem after_any {w : World} {v : Value} {l : List (Int × Int)} (h : Rc2 w v l) :
    Calls Try.prog 98 #[v] w fun e w' => ∃ v', e = .returned v' ∧ Rd2 w v' l.tail ∧ w = w' := by
  obtain ⟨hR, hc⟩ := h
  obtain ⟨a1, cap1, rfl⟩ := Rd.slice hR
  have hle := hc.le
  have hm := hR.2.1
  unfold maxLen at hm
  cases l with
  | nil =>
    go_enter Try.func98, Try.ntmps98
    go_wp2
    go_ret
    exact ⟨_, rfl, ⟨rfl, by simp [maxLen], Or.inl ⟨rfl, _, _, rfl⟩⟩, rfl⟩
  | cons a r =>
    obtain ⟨b1, o1, c1, hv1, _⟩ := Rd.pos hR (by simp)
    simp only [List.length_cons, Value.slice.injEq, true_and] at hv1
    obtain ⟨rfl, rfl⟩ := hv1
    rw [List.length_cons] at hle hm
    have hT := Lib.hid (fun c2 => rd2_tail (c2 := c2) (a := a) (r := r) (by simpa using hR))
    have h0 : ((((a :: r).length : Nat) : Int) == 0) = false := by rw [beq_eq_false_iff_ne, List.length_cons]; omega
    rw [List.length_cons] at h0
    have HE : Hid (∀ e : Option Addr, r.length = 0 → Rd2 w (.slice e r.length 0) r) := Lib.hid fun e h => ⟨flat2_length _, by rw [h]; simp [maxLen], Or.inl ⟨h, e, 0, by rw [h]⟩⟩
    simp only [List.length_cons]
    generalize hn : r.length = n at *
    have HN := Lib.hid hn
    clear hn hR hc
    by_cases hn0 : n = 0
    · subst hn0
      go_enter Try.func98, Try.ntmps98
      go_wp2
      go_ret
      exact ⟨_, rfl, HE.out _ trivial, rfl⟩
    · go_enter Try.func98, Try.ntmps98
      go_wp2
      go_ret
      exact ⟨_, rfl, hT.out _, rfl⟩

theorem box0 (w : World) (u0 u1 : Value) (t : TypeId) : (w.alloc (.cells #[u0, u1] t)).cell? ⟨w.heap.size, 0, none⟩ = some u0 := World.cell?_alloc_mark w #[u0, u1] t (0, 0) 0
theorem divZ_any {w : World} (g d : Nat) (z : Int) (hz : z = (d : Int)) (hg : g ≤ 1000000) (hd : d ≤ 1000000) :
    Calls Try.prog 99 #[.int .i64 (g : Int), .int .i64 z] w fun e w' => e = .returned (.int .i64 ((Nat.gcd g d : Nat) : Int)) ∧ Below w.heap.size w w' := by
  subst hz; exact divisor_any g d (by omega) (by omega)
theorem gcdI_take_le {l : List (Int × Int)} (h : tuneB l = true) {r : List (Int × Int)} (hr : ∀ p ∈ r, p ∈ l) (k : Nat) : gcdL (headT l) (r.take k) ≤ 1000 := gcdL_le fun p hp => (tune_head h p (hr p (List.mem_of_mem_take hp))).2

set_option maxHeartbeats 2000000 in
set_option maxRecDepth 100000 in
theorem beatsI_any {w : World} {v : Value} {l : List (Int × Int)} (h : Rc2 w v l) :
    Calls Try.prog 49 #[v] w fun e w' => e = .returned (.int .i64 (beatsM l : Int)) ∧ Below w.heap.size w w' := by
  have hR0 := h.1
  obtain ⟨a1, cap1, rfl⟩ := Rd.slice hR0
  by_cases ht : tuneB l = true
  · have HT := Lib.hid ht
    have HM : Hid (beatsM l = gcdL (headT l) l.tail) := Lib.hid (by
      rw [beatsM_yes ht]
      cases l with
      | nil => rfl
      | cons a r => exact gcdL_tail a r)
    have h40 := (tuneB_true.1 ht).1
    have HLT : Hid (l.tail.length ≤ l.length ∧ ∀ p ∈ l.tail, p ∈ l) := Lib.hid ⟨by rw [List.length_tail]; omega, fun p hp => List.mem_of_mem_tail hp⟩
    have HPOS : Hid (∀ k : Nat, k < l.tail.length → 0 < l.length) := Lib.hid fun k hk => by rw [List.length_tail] at hk; omega
    clear ht
    go_enter Try.func49, Try.ntmps49
    go_wp2_with fail
    refine (itune_yes hR0 HT.out).mono ?_
    rintro e w1 ⟨rfl, hb1⟩
    go_wp2_with fail
    refine (after_any (h.below hb1)).mono ?_
    rintro e w2 ⟨vr, rfl, hr2, rfl⟩
    obtain ⟨ar, cr, rfl⟩ := Rd.slice hr2
    generalize l.tail = r at *
    have hr40 : r.length ≤ 40 := by have := HLT.out.1; omega
    go_wp2
    go_loopw [3, 12] (fun v3 v12 wr => ∃ (k G : Nat), k ≤ r.length ∧ v12 = .int .i64 (k : Int) ∧ v3 = .int .i64 (G : Int) ∧ Hid (G = gcdL (headT l) (r.take k)) ∧ Below w.heap.size w wr ∧ Below w1.heap.size w1 wr) (fun _ v12 _ => r.length - (intOf v12).toNat)
    case atStart => exact ⟨0, 0, Nat.zero_le _, rfl, rfl, Lib.hid rfl, hb1, Below.refl _ _⟩
    case round =>
      obtain ⟨k, G, hk, rfl, rfl, HG, hbr, hbr1⟩ := hrel
      by_cases hlt : k < r.length
      · have hpos : 0 < l.length := HPOS.out k hlt
        obtain ⟨p, hp⟩ : ∃ p, r[k]? = some p := ⟨_, List.getElem?_eq_getElem hlt⟩
        obtain ⟨a, ha⟩ : ∃ a, l[0]? = some a := ⟨_, List.getElem?_eq_getElem hpos⟩
        have hh := headT_at ha
        have hpl := HLT.out.2 p (List.mem_of_getElem? hp)
        have hr := tune_head HT.out p hpl
        rw [hh] at hr
        have HN : Hid (Nat.gcd G (p.1 - a.1).toNat = gcdL (headT l) (r.take (k + 1))) := Lib.hid (by rw [gcdL_succ hp, HG.out, hh])
        have hG : G ≤ 1000 := by rw [HG.out]; exact gcdI_take_le HT.out HLT.out.2 k
        have HD : Hid (p.1 - a.1 = (((p.1 - a.1).toNat : Nat) : Int)) := Lib.hid (by omega)
        have hd : (p.1 - a.1).toNat ≤ 1000 := by omega
        have rp := ((tune_parts HT.out).2.2 p hpl).1
        have ra := ((tune_parts HT.out).2.2 a (List.mem_of_getElem? ha)).1
        have e1 : IntKind.i64.wrap (p.1 - a.1) = p.1 - a.1 := IntWalk.i64_in _ (by omega)
        generalize (p.1 - a.1).toNat = d at *
        obtain ⟨b1, o1, c1, hv1, x1, y1⟩ := Rd2.cells (Rd.below hr2 hbr1) hp
        obtain ⟨b2, o2, c2, hv2, x0, y0⟩ := Rd2.cells (Rd.below hR0 hbr) ha
        simp only [Value.slice.injEq, true_and] at hv1
        obtain ⟨rfl, rfl⟩ := hv1
        simp only [Value.slice.injEq, true_and] at hv2
        obtain ⟨rfl, rfl⟩ := hv2
        rw [Nat.zero_mul, Nat.add_zero] at x0
        clear ha hp hh y0 hr hpl
        have hbn := (Below.refl wr.heap.size wr).alloc (Nat.le_refl _) (.cells #[.int .i64 p.1, .int .i64 p.2] 41)
        have n0 := box0 wr (.int .i64 p.1) (.int .i64 p.2) 41
        have z0 := kept_b hbn x0
        have gn := bstep hbr hbn
        have gn1 := bstep hbr1 hbn
        clear hbn hbr hbr1
        go_wp2_with fail
        generalize wr.alloc (.cells #[.int .i64 p.1, .int .i64 p.2] 41) = w3 at *
        generalize wr.heap.size = bn at *
        clear x0 x1 y1
        go_region_held3 (fun w' => w'.cell? ⟨b2, o2, none⟩ = some (.int .i64 a.1) ∧ w'.cell? ⟨bn, 0, none⟩ = some (.int .i64 p.1)) (go_keep)
          (first
            | (refine (divZ_any G d (p.1 - a.1) HD.out (by omega) (by omega)).mono ?_
               rintro e w4 ⟨rfl, hb2⟩
               have hb3 := bstep ((Below.refl w3.heap.size w3).drew) hb2
               have q0 := kept_b hb3 z0
               have q1 := kept_b hb3 n0))
        have g3 := bstep gn hb3
        have g31 := bstep gn1 hb3
        clear z0 n0 q0 q1 hb2 hb3 gn gn1
        go_wp2
        go_roundw
        case rel => exact ⟨k + 1, _, by omega, by go_num, rfl, HN, g3, g31⟩
        case measure => simp [intOf]; omega
      · obtain rfl : k = r.length := by omega
        have HE : Hid (G = beatsM l) := Lib.hid (by rw [HM.out, HG.out, List.take_length])
        go_wp2
        go_ret
        exact ⟨by rw [← HE.out]; rfl, hbr⟩
  · have ht' : tuneB l = false := by simpa using ht
    have HT := Lib.hid ht'
    have HM := Lib.hid (beatsM_no ht')
    clear ht ht'
    go_enter Try.func49, Try.ntmps49
    go_wp2_with fail
    refine (itune_no hR0 HT.out).mono ?_
    rintro e w1 ⟨rfl, hb1⟩
    go_wp2
    go_ret
    exact ⟨by rw [HM.out]; rfl, hb1⟩

set_option maxHeartbeats 1000000 in
set_option maxRecDepth 100000 in
theorem shlit_any {w : World} {qx qy : Nat} {v : Value} {l : List (Int × Int)} {a : Int × Int} (g : Nat) (p : Int × Int) (z : Int) (hx : w.cell? ⟨qx, 0, none⟩ = some v) (hy : w.cell? ⟨qy, 0, none⟩ = some (.int .i64 (g : Int))) (h : Rd2 w v l) (ha : l[0]? = some a)
    (e1 : IntKind.i64.wrap (p.1 - a.1) = p.1 - a.1) (e2 : (p.1 - a.1).tdiv (g : Int) = z) (e3 : IntKind.i64.wrap z = z) (hg : 0 < g) :
    Calls Try.prog 101 #[.agg #[.int .i64 p.1, .int .i64 p.2], .pointer (some ⟨qx, 0, none⟩), .pointer (some ⟨qy, 0, none⟩)] w fun e w' => e = .returned (.agg #[.int .i64 z, .int .i64 p.2]) ∧ Gr w w' := by
  obtain ⟨x, y⟩ := p
  obtain ⟨b2, o2, c2, rfl, x0, y0⟩ := Rd2.cells h ha
  rw [Nat.zero_mul, Nat.add_zero] at x0
  have hpos : 0 < l.length := List.length_pos_of_mem (List.mem_of_getElem? ha)
  have hgz : ((g : Int) == 0) = false := by rw [beq_eq_false_iff_ne]; omega
  have hgn : ¬ g = 0 := by omega
  have gx := cell2 hx (.cells #[.int .i64 x, .int .i64 y] 41) (.cells #[.int .i64 0, .int .i64 0] 41)
  have gy := cell2 hy (.cells #[.int .i64 x, .int .i64 y] 41) (.cells #[.int .i64 0, .int .i64 0] 41)
  have g0 := cell2 x0 (.cells #[.int .i64 x, .int .i64 y] 41) (.cells #[.int .i64 0, .int .i64 0] 41)
  clear ha h y0 hx hy x0
  simp only at e1 e2
  go_enter Try.func101, Try.ntmps101
  have hX : Box2 ((w.alloc (.cells #[.int .i64 x, .int .i64 y] 41)).alloc (.cells #[.int .i64 0, .int .i64 0] 41)) (w.heap.size + 1) (.int .i64 0) (.int .i64 0) := by
    have k := box2_new (w.alloc (.cells #[.int .i64 x, .int .i64 y] 41)) (.int .i64 0) (.int .i64 0) 41
    have e : (w.alloc (.cells #[.int .i64 x, .int .i64 y] 41)).heap.size = w.heap.size + 1 := by show (w.heap.push _).size = _; simp
    rw [e] at k; exact k
  have hN := (box2_new w (.int .i64 x) (.int .i64 y) 41).below ((Below.refl _ _).alloc (Nat.le_refl _) (.cells #[.int .i64 0, .int .i64 0] 41))
  have hB := (((Below.refl w.heap.size w).alloc (Nat.le_refl _) (.cells #[.int .i64 x, .int .i64 y] 41)).alloc (by simp) (.cells #[.int .i64 0, .int .i64 0] 41))
  have hD : ((w.alloc (.cells #[.int .i64 x, .int .i64 y] 41)).alloc (.cells #[.int .i64 0, .int .i64 0] 41)).drawn = w.drawn := rfl
  go_wp2_with fail
  generalize (w.alloc (.cells #[.int .i64 x, .int .i64 y] 41)).alloc (.cells #[.int .i64 0, .int .i64 0] 41) = W at *
  obtain ⟨-, ⟨n0, n1⟩, -⟩ := hN
  have HD := Lib.hid hD
  have HX := Lib.hid hX
  clear hD hX
  have gxd : ({ heap := W.heap, tape := W.tape, drawn := W.drawn + 1, os := W.os, output := W.output } : World).cell? ⟨qx, 0, none⟩ = some (.slice (some ⟨b2, o2, none⟩) l.length c2) := gx
  have gyd : ({ heap := W.heap, tape := W.tape, drawn := W.drawn + 1, os := W.os, output := W.output } : World).cell? ⟨qy, 0, none⟩ = some (.int .i64 (g : Int)) := gy
  have g0d : ({ heap := W.heap, tape := W.tape, drawn := W.drawn + 1, os := W.os, output := W.output } : World).cell? ⟨b2, o2, none⟩ = some (.int .i64 a.1) := g0
  have n0d : ({ heap := W.heap, tape := W.tape, drawn := W.drawn + 1, os := W.os, output := W.output } : World).cell? ⟨w.heap.size, 0, none⟩ = some (.int .i64 x) := n0
  have n1d : ({ heap := W.heap, tape := W.tape, drawn := W.drawn + 1, os := W.os, output := W.output } : World).cell? ⟨w.heap.size, 1, none⟩ = some (.int .i64 y) := n1
  go_still_tail 12, (by kernel_rfl)
  change wpList _ _ _ _ _ W.drew
  have hX2 : Box2 W.drew (w.heap.size + 1) (.int .i64 0) (.int .i64 0) := Box2.below HX.out (Below.refl W.heap.size W).drew
  have hB2 := hB.drew
  have HD2 : Hid (w.drawn ≤ W.drew.drawn) := Lib.hid (by have := HD.out; show w.drawn ≤ W.drawn + 1; omega)
  clear gx gy g0 n0 n1 gxd gyd g0d n0d n1d HX HD hB
  generalize W.drew = W2 at *
  obtain ⟨-, ⟨z0, z1⟩, -⟩ := wr2_same hX2 (.int .i64 z) (.int .i64 y)
  have hb5 := wr2_below hB2 (Nat.le_succ _) (.int .i64 z) (.int .i64 y)
  obtain ⟨-, ⟨m0, m1⟩, zf⟩ := hX2
  unfold wr2 at z0 z1 hb5
  go_wp2
  refine bodyPost_ret (v := .agg #[.int .i64 z, .int .i64 y]) (by simp [results, Try.results101, go_sem, z0, z1]) rfl ⟨rfl, ?_⟩
  exact gr_of_below hb5 HD2.out

theorem enters_sh : ∀ args w, (callFunc 101 args).run Try.prog w = .ok (.enter 101 args) w := enters_of Try.func101 (by kernel_rfl) rfl
theorem sort_same {l : List (Int × Int)} (hl : l.length ≤ 40) (h : SS l) : dedM (mergeM l) = l := by
  rw [sort_eq hl]; unfold sortM; rw [if_pos hl, fold_self h]
theorem cellS (w : World) (v : Value) (t : TypeId) : (w.alloc (.cells #[v] t)).cell? ⟨w.heap.size, 0, none⟩ = some v := World.cell?_alloc_mark w #[v] t (0, 0) 0

set_option maxHeartbeats 1000000 in
set_option maxRecDepth 100000 in
theorem shortI_any {w : World} {v : Value} {l : List (Int × Int)} (h : Rc2 w v l) :
    Calls Try.prog 50 #[v] w (NewNotes w (shortM l)) := by
  have hmf : ∀ (fn : Fn) (first cap : Array Value) (w : World), (Instr.makeFunc fn first cap).run Try.prog w = .ok (.func fn first cap) w := fun _ _ _ _ => rfl
  have hR0 := h.1
  obtain ⟨a1, cap1, rfl⟩ := Rd.slice hR0
  have hbx := (Below.refl w.heap.size w).alloc (Nat.le_refl _) (.cells #[.slice a1 l.length cap1] 42)
  have hc1 := cellS w (.slice a1 l.length cap1) 42
  by_cases ht : tuneB l = true
  · have HT := Lib.hid ht
    have h40 := (tuneB_true.1 ht).1
    have HM := Lib.hid (shortM_yes ht)
    have HSS : Hid (dedM (mergeM (l.map (shF (headT l) (beatsM l)))) = shortM l) := Lib.hid (by
      rw [sort_same (by rw [List.length_map]; exact h40) (short_ss ht), shortM_yes ht])
    have HC : Hid (∀ (W : World) (bq : Nat), W.cell? ⟨w.heap.size, 0, none⟩ = some (.slice a1 l.length cap1) → W.cell? ⟨bq, 0, none⟩ = some (.int .i64 (max (beatsM l : Int) 1)) → Rd2 W (.slice a1 l.length cap1) l → Chg W 101 #[.pointer (some ⟨w.heap.size, 0, none⟩), .pointer (some ⟨bq, 0, none⟩)] (shF (headT l) (beatsM l)) l) := Lib.hid fun W bq k1 k2 kR p hp W' hW' => by
      have hpos : 0 < l.length := List.length_pos_of_mem hp
      have ha := List.getElem?_eq_getElem (l := l) (i := 0) hpos
      have hh := headT_at ha
      have hr := tune_head ht p hp
      have hs := sh_range ht hp
      rw [hh] at hr
      have em : max (beatsM l : Int) 1 = ((max (beatsM l) 1 : Nat) : Int) := by omega
      rw [em] at k2
      refine shlit_any (max (beatsM l) 1) p (shF (headT l) (beatsM l) p).1 (kept_b hW' k1) (kept_b hW' k2) (Rd.below kR hW') ha ?_ ?_ ?_ (by omega)
      · exact IntWalk.i64_in _ (by omega)
      · rw [Int.tdiv_eq_ediv_of_nonneg (by omega)]; unfold shF; rw [hh]
      · exact IntWalk.i64_in _ (by omega)
    clear ht
    go_enter Try.func50, Try.ntmps50
    go_wp2_with fail
    refine (itune_yes (Rd.below hR0 hbx) HT.out).mono ?_
    rintro e w1 ⟨rfl, hb1⟩
    have g1 := bstep hbx hb1
    have c1 := kept_b hb1 hc1
    clear hb1 hbx hc1
    go_wp2_with fail
    refine (beatsI_any (h.below g1)).mono ?_
    rintro e w2 ⟨rfl, hb2⟩
    have g2 := bstep g1 hb2
    have c2 := kept_b hb2 c1
    clear hb2 g1 c1
    generalize shF (headT l) (beatsM l) = f at *
    generalize hm : max (beatsM l : Int) 1 = M at *
    have hbn := (Below.refl w2.heap.size w2).alloc (Nat.le_refl _) (.cells #[.int .i64 M] 3)
    have c3 := kept_b hbn c2
    have m3 := cellS w2 (.int .i64 M) 3
    have g3 := bstep g2 hbn
    have HCC := Lib.hid (HC.out _ _ c3 m3 (Rd.below hR0 g3))
    clear hbn c2 g2 m3 HC
    generalize (beatsM l : Int) = G at *
    go_wp2_with fail
    generalize w2.alloc (.cells #[.int .i64 M] 3) = w3 at *
    generalize w2.heap.size = bq at *
    refine (chg_any (Rd.below hR0 g3) (by omega) enters_sh HCC.out).mono ?_
    rintro e w4 ⟨v4, rfl, ho4, hb4⟩
    rw [HSS.out] at ho4
    have ho5 := ownS_mono ho4 g3.size
    have g4 := bstep g3 hb4
    clear ho4 hb4
    go_wp2
    go_ret
    exact ⟨v4, rfl, ho5, g4⟩
  · have ht' : tuneB l = false := by simpa using ht
    have HT := Lib.hid ht'
    have HM := Lib.hid (shortM_no ht')
    clear ht ht'
    go_enter Try.func50, Try.ntmps50
    go_wp2_with fail
    refine (itune_no (Rd.below hR0 hbx) HT.out).mono ?_
    rintro e w1 ⟨rfl, hb1⟩
    have g1 := bstep hbx hb1
    clear hb1 hbx hc1
    go_wp2
    go_ret
    exact ⟨_, rfl, by rw [HM.out]; exact ⟨rfl, Or.inl ⟨rfl, rfl⟩⟩, g1⟩

theorem fitsI_any {w : World} {v : Value} {l : List (Int × Int)} (n : Int) (h : Rc2 w v l) :
    Calls Try.prog 52 #[v, .int .i64 n] w fun e w' => e = .returned (.bool (fitsM l n)) ∧ Below w.heap.size w w' := by
  have hR0 := h.1
  obtain ⟨a1, cap1, rfl⟩ := Rd.slice hR0
  by_cases ht : tuneB l = true
  · have HT := Lib.hid ht
    have HL := Lib.hid (short_lasts ht)
    by_cases hn1 : 4 ≤ n
    · by_cases hn2 : n ≤ 96
      · have HM := Lib.hid (fitsM_yes ht ⟨hn1, hn2⟩)
        clear ht
        go_enter Try.func52, Try.ntmps52
        go_wp2_with fail
        refine (itune_yes hR0 HT.out).mono ?_
        rintro e w1 ⟨rfl, hb1⟩
        go_wp2_with fail
        refine (shortI_any (h.below hb1)).mono ?_
        rintro e w2 ⟨v2, rfl, ho2, hb2⟩
        have g2 := bstep hb1 hb2
        clear hb1 hb2
        go_wp2_with fail
        refine (ilasts_any (Rd.of_own ho2)).mono ?_
        rintro e w3 ⟨rfl, hb3⟩
        rw [HL.out]
        have g3 := bstep g2 hb3
        clear hb3 g2 ho2
        go_wp2
        go_ret
        exact ⟨by rw [HM.out]; rfl, g3⟩
      · have HM := Lib.hid (fitsM_no (l := l) (n := n) fun k => hn2 k.2.2)
        clear ht
        go_enter Try.func52, Try.ntmps52
        go_wp2_with fail
        refine (itune_yes hR0 HT.out).mono ?_
        rintro e w1 ⟨rfl, hb1⟩
        go_wp2
        go_ret
        exact ⟨by rw [HM.out]; rfl, hb1⟩
    · have HM := Lib.hid (fitsM_no (l := l) (n := n) fun k => hn1 k.2.1)
      clear ht
      go_enter Try.func52, Try.ntmps52
      go_wp2_with fail
      refine (itune_yes hR0 HT.out).mono ?_
      rintro e w1 ⟨rfl, hb1⟩
      go_wp2
      go_ret
      exact ⟨by rw [HM.out]; rfl, hb1⟩
  · have ht' : tuneB l = false := by simpa using ht
    have HT := Lib.hid ht'
    have HM := Lib.hid (fitsM_no (l := l) (n := n) fun k => ht k.1)
    clear ht ht'
    go_enter Try.func52, Try.ntmps52
    go_wp2_with fail
    refine (itune_no hR0 HT.out).mono ?_
    rintro e w1 ⟨rfl, hb1⟩
    go_wp2
    go_ret
    exact ⟨by rw [HM.out]; rfl, hb1⟩
end Go.Proofs.Ytcbdoldcdgaooaa
