/- Pure facts of chapter 14: turn times, play times, turns for a time, beats, shortened tunes. No condition. -/
import Derived.Test.YtcbdoldcdgaooaaChangeMath
import Derived.Test.YtcbdoldcdgaooaaSortMath
namespace Go.Proofs.Ytcbdoldcdgaooaa
open Go.ChangeShapes Go.WideShapes Go.ChangeAt Go.RowKit

def TurnP (a b : Int) : Prop := (1 ≤ a ∧ a ≤ 96) ∧ (1 ≤ b ∧ b ≤ 1000)
instance turnDec (a b : Int) : Decidable (TurnP a b) := by unfold TurnP; exact inferInstance
noncomputable def ttM (a b : Int) : Int := if TurnP a b then a * b else -1
theorem ttM_yes {a b : Int} (h : TurnP a b) : ttM a b = a * b := if_pos h
theorem ttM_no {a b : Int} (h : ¬ TurnP a b) : ttM a b = -1 := if_neg h
theorem turn_pos {a b : Int} (h : TurnP a b) : 1 ≤ a * b ∧ a * b ≤ 96000 := by
  have h1 := Int.mul_le_mul h.1.1 h.2.1 (by omega) (by have := h.1; omega)
  have h2 := Int.mul_le_mul h.1.2 h.2.2 (by have := h.2; omega) (by omega)
  omega
noncomputable def plM (a b n : Int) : Int := if TurnP a b ∧ (0 ≤ n ∧ n ≤ 1000) then a * b * n / 1000 else -1
theorem plM_yes {a b n : Int} (h : TurnP a b) (hn : 0 ≤ n ∧ n ≤ 1000) : plM a b n = a * b * n / 1000 := if_pos ⟨h, hn⟩
theorem plM_no {a b n : Int} (h : ¬ (TurnP a b ∧ (0 ≤ n ∧ n ≤ 1000))) : plM a b n = -1 := if_neg h
def tfQ (x s : Int) : Int := (s * 1000 + x - 1) / x
noncomputable def tfM (a b s : Int) : Int := if TurnP a b ∧ (0 ≤ s ∧ s ≤ 3600) ∧ tfQ (a * b) s ≤ 1000 then tfQ (a * b) s else -1
theorem tfM_yes {a b s : Int} (h : TurnP a b) (hs : 0 ≤ s ∧ s ≤ 3600) (hq : tfQ (a * b) s ≤ 1000) : tfM a b s = tfQ (a * b) s := if_pos ⟨h, hs, hq⟩
theorem tfM_no {a b s : Int} (h : ¬ (TurnP a b ∧ (0 ≤ s ∧ s ≤ 3600) ∧ tfQ (a * b) s ≤ 1000)) : tfM a b s = -1 := if_neg h
theorem tfQ_pos {x s : Int} (hx : 1 ≤ x) (hs : 0 ≤ s) : 0 ≤ tfQ x s := Int.ediv_nonneg (by omega) (by omega)
theorem tfQ_le {x s : Int} (hx : 1 ≤ x) (hs : 0 ≤ s ∧ s ≤ 3600) : tfQ x s ≤ 3600000 := by
  have h : tfQ x s < 3600001 := Int.ediv_lt_of_lt_mul (by omega) (by omega)
  omega
/-- As many turns last long enough. -/
theorem tfQ_up {x s : Int} (hx : 1 ≤ x) : s * 1000 ≤ x * tfQ x s := by
  have h1 := Int.mul_ediv_add_emod (s * 1000 + x - 1) x
  have h2 := Int.emod_lt_of_pos (s * 1000 + x - 1) (show 0 < x by omega)
  unfold tfQ; omega
/-- One less does not. -/
theorem tfQ_down {x s : Int} (hx : 1 ≤ x) : x * (tfQ x s - 1) < s * 1000 := by
  have h1 := Int.mul_ediv_add_emod (s * 1000 + x - 1) x
  have h2 := Int.emod_nonneg (s * 1000 + x - 1) (show x ≠ 0 by omega)
  have h3 : x * ((s * 1000 + x - 1) / x - 1) = x * ((s * 1000 + x - 1) / x) - x := by rw [Int.mul_sub, Int.mul_one]
  unfold tfQ; omega
theorem speed_enough {a b s : Int} (h : TurnP a b) (hs : 0 ≤ s ∧ s ≤ 3600) (hn : 0 ≤ tfM a b s) : s ≤ plM a b (tfM a b s) := by
  have hp := turn_pos h
  by_cases hq : tfQ (a * b) s ≤ 1000
  · rw [tfM_yes h hs hq, plM_yes h ⟨tfQ_pos hp.1 hs.1, hq⟩]
    exact Int.le_ediv_of_mul_le (by omega) (tfQ_up hp.1)
  · rw [tfM_no fun k => hq k.2.2] at hn; omega
theorem speed_less {a b s : Int} (h : TurnP a b) (hs : 0 ≤ s ∧ s ≤ 3600) (hn : 0 < tfM a b s) : plM a b (tfM a b s - 1) < s := by
  have hp := turn_pos h
  by_cases hq : tfQ (a * b) s ≤ 1000
  · rw [tfM_yes h hs hq] at hn ⊢
    rw [plM_yes h ⟨by omega, by omega⟩]
    exact Int.ediv_lt_of_lt_mul (by omega) (tfQ_down hp.1)
  · rw [tfM_no fun k => hq k.2.2] at hn; omega
theorem speed_most {a b s : Int} (h : TurnP a b) (hs : 0 ≤ s ∧ s ≤ 3600) (hn : tfM a b s < 0) : plM a b 1000 < s := by
  have hp := turn_pos h
  by_cases hq : tfQ (a * b) s ≤ 1000
  · rw [tfM_yes h hs hq] at hn; have := tfQ_pos hp.1 hs.1; omega
  · rw [plM_yes h ⟨by omega, by omega⟩, Int.mul_ediv_cancel _ (by omega)]
    have h1 := tfQ_down (s := s) hp.1
    have h2 : a * b * 1000 ≤ a * b * (tfQ (a * b) s - 1) := Int.mul_le_mul_of_nonneg_left (by omega) (by omega)
    omega

/-- The divisor of the times counted from x0. -/
def gcdL (x0 : Int) (l : List (Int × Int)) : Nat := l.foldl (fun g p => Nat.gcd g (p.1 - x0).toNat) 0
theorem gcdL_succ {x0 : Int} {l : List (Int × Int)} {k : Nat} {p : Int × Int} (h : l[k]? = some p) : gcdL x0 (l.take (k + 1)) = Nat.gcd (gcdL x0 (l.take k)) (p.1 - x0).toNat := by
  unfold gcdL; rw [List.take_add_one, h]; simp [List.foldl_append]
def headT (l : List (Int × Int)) : Int := match l with | [] => 0 | a :: _ => a.1
theorem headT_at {l : List (Int × Int)} {a : Int × Int} (h : l[0]? = some a) : headT l = a.1 := by
  cases l with
  | nil => simp at h
  | cons b r => simp only [List.getElem?_cons_zero, Option.some.injEq] at h; rw [← h]; rfl
/-- The first note adds nothing. -/
theorem gcdL_tail (a : Int × Int) (r : List (Int × Int)) : gcdL a.1 (a :: r) = gcdL a.1 r := by
  unfold gcdL; rw [List.foldl_cons]
  have : Nat.gcd 0 (a.1 - a.1).toNat = 0 := by rw [Int.sub_self]; rfl
  rw [this]
theorem fold_dvd (x0 : Int) : ∀ (l : List (Int × Int)) (g : Nat), (l.foldl (fun g p => Nat.gcd g (p.1 - x0).toNat) g) ∣ g ∧ ∀ p ∈ l, (l.foldl (fun g p => Nat.gcd g (p.1 - x0).toNat) g) ∣ (p.1 - x0).toNat
  | [], g => ⟨Nat.dvd_refl _, by simp⟩
  | p :: r, g => by
    obtain ⟨h1, h2⟩ := fold_dvd x0 r (Nat.gcd g (p.1 - x0).toNat)
    rw [List.foldl_cons]
    refine ⟨Nat.dvd_trans h1 (Nat.gcd_dvd_left _ _), fun q hq => ?_⟩
    rcases List.mem_cons.1 hq with rfl | hq
    · exact Nat.dvd_trans h1 (Nat.gcd_dvd_right _ _)
    · exact h2 q hq
theorem gcdL_dvd {x0 : Int} {l : List (Int × Int)} {p : Int × Int} (h : p ∈ l) : gcdL x0 l ∣ (p.1 - x0).toNat := (fold_dvd x0 l 0).2 p h
theorem fold_mul (m : Nat) : ∀ (l : List Nat) (g : Nat), l.foldl (fun g d => Nat.gcd g (m * d)) (m * g) = m * l.foldl (fun g d => Nat.gcd g d) g
  | [], g => rfl
  | d :: r, g => by rw [List.foldl_cons, List.foldl_cons, Nat.gcd_mul_left, fold_mul m r]
def difL (x0 : Int) (l : List (Int × Int)) : List Nat := l.map fun p => (p.1 - x0).toNat
theorem gcdL_dif (x0 : Int) (l : List (Int × Int)) : gcdL x0 l = (difL x0 l).foldl (fun g d => Nat.gcd g d) 0 := by
  unfold gcdL difL; rw [List.foldl_map]
theorem gcd_mulL {m : Nat} {l l' : List Nat} (h : l' = l.map fun d => m * d) : l'.foldl (fun g d => Nat.gcd g d) 0 = m * l.foldl (fun g d => Nat.gcd g d) 0 := by
  rw [h, List.foldl_map]; exact fold_mul m l 0
theorem gcdL_le {x0 : Int} {l : List (Int × Int)} (h : ∀ p ∈ l, p.1 ≤ x0 + 1000) : gcdL x0 l ≤ 1000 := by
  by_cases hz : ∃ p ∈ l, (p.1 - x0).toNat ≠ 0
  · obtain ⟨p, hp, hn⟩ := hz
    have := Nat.le_of_dvd (by omega) (gcdL_dvd (x0 := x0) hp)
    have := h p hp; omega
  · have hall : ∀ p ∈ l, (p.1 - x0).toNat = 0 := fun p hp => by
      by_cases h0 : (p.1 - x0).toNat = 0
      · exact h0
      · exact absurd ⟨p, hp, h0⟩ hz
    have : gcdL x0 l = 0 := by
      have : ∀ (r : List (Int × Int)), (∀ p ∈ r, (p.1 - x0).toNat = 0) → r.foldl (fun g p => Nat.gcd g (p.1 - x0).toNat) 0 = 0 := by
        intro r
        induction r with
        | nil => intro _; rfl
        | cons q r ih => intro h; rw [List.foldl_cons, h q (by simp)]; exact ih fun p hp => h p (by simp [hp])
      exact this l hall
    omega
noncomputable def beatsM (l : List (Int × Int)) : Nat := if tuneB l = true then gcdL (headT l) l else 0
theorem beatsM_yes {l : List (Int × Int)} (h : tuneB l = true) : beatsM l = gcdL (headT l) l := if_pos h
theorem beatsM_no {l : List (Int × Int)} (h : tuneB l = false) : beatsM l = 0 := if_neg (by simp [h])
/-- A note of the shortened tune. -/
def shF (x0 : Int) (g : Nat) (p : Int × Int) : Int × Int := ((p.1 - x0) / ((max g 1 : Nat) : Int), p.2)
noncomputable def shortM (l : List (Int × Int)) : List (Int × Int) := if tuneB l = true then l.map (shF (headT l) (beatsM l)) else []
theorem shortM_yes {l : List (Int × Int)} (h : tuneB l = true) : shortM l = l.map (shF (headT l) (beatsM l)) := if_pos h
theorem shortM_no {l : List (Int × Int)} (h : tuneB l = false) : shortM l = [] := if_neg (by simp [h])
theorem shortM_len (l : List (Int × Int)) : (shortM l).length ≤ l.length := by
  unfold shortM; split
  · simp
  · simp
theorem tune_head {l : List (Int × Int)} (h : tuneB l = true) : ∀ p ∈ l, headT l ≤ p.1 ∧ p.1 ≤ headT l + 1000 := by
  intro p hp
  obtain ⟨h1, h2, h3⟩ := tune_parts h
  cases l with
  | nil => simp at hp
  | cons a r =>
    have := ss_first h2 (a := a) rfl p hp
    have h4 := (h3 a (by simp)).1
    have h5 := (h3 p hp).1
    exact ⟨this, by show p.1 ≤ a.1 + 1000; omega⟩
theorem beats_le (l : List (Int × Int)) : beatsM l ≤ 1000 := by
  by_cases h : tuneB l = true
  · rw [beatsM_yes h]; exact gcdL_le fun p hp => (tune_head h p hp).2
  · rw [beatsM_no (by simpa using h)]; omega
/-- A time counted from the first one is so many beats. -/
theorem sh_exact {l : List (Int × Int)} (h : tuneB l = true) {p : Int × Int} (hp : p ∈ l) : ∃ k : Nat, p.1 - headT l = ((beatsM l * k : Nat) : Int) ∧ (beatsM l = 0 → p.1 = headT l) ∧ (shF (headT l) (beatsM l) p).1 * ((max (beatsM l) 1 : Nat) : Int) = p.1 - headT l := by
  have hd := gcdL_dvd (x0 := headT l) hp
  rw [← beatsM_yes h] at hd
  have hh := tune_head h p hp
  obtain ⟨k, hk⟩ := hd
  have hki : p.1 - headT l = ((beatsM l * k : Nat) : Int) := by omega
  refine ⟨k, hki, fun hz => ?_, ?_⟩
  · rw [hz, Nat.zero_mul] at hki; omega
  · unfold shF
    by_cases hz : beatsM l = 0
    · rw [hz] at hki ⊢; simp only [Nat.zero_mul] at hki; simp only; rw [hki]; rfl
    · have hm : max (beatsM l) 1 = beatsM l := by omega
      rw [hm, hki]; simp only; rw [Int.natCast_mul, Int.mul_ediv_cancel_left _ (by omega), Int.mul_comm]
theorem shF_mono {l : List (Int × Int)} (h : tuneB l = true) {p q : Int × Int} (hp : p ∈ l) (hq : q ∈ l) (hl : lessB p q = true) : lessB (shF (headT l) (beatsM l) p) (shF (headT l) (beatsM l) q) = true := by
  obtain ⟨_, _, _, ep⟩ := sh_exact h hp
  obtain ⟨_, _, _, eq⟩ := sh_exact h hq
  have hm : (1 : Int) ≤ ((max (beatsM l) 1 : Nat) : Int) := by omega
  rw [less_iff] at hl ⊢
  rcases hl with h1 | ⟨h1, h2⟩
  · left
    by_cases hc : (shF (headT l) (beatsM l) p).1 < (shF (headT l) (beatsM l) q).1
    · exact hc
    · have := Int.mul_le_mul_of_nonneg_right (show (shF (headT l) (beatsM l) q).1 ≤ (shF (headT l) (beatsM l) p).1 by omega) (show (0 : Int) ≤ ((max (beatsM l) 1 : Nat) : Int) by omega)
      omega
  · right
    refine ⟨?_, h2⟩
    unfold shF; rw [h1]
theorem pairwise_mem {α : Type} {R S : α → α → Prop} : ∀ {l : List α}, l.Pairwise R → (∀ a ∈ l, ∀ b ∈ l, R a b → S a b) → l.Pairwise S
  | [], _, _ => List.Pairwise.nil
  | a :: l, h, k => by
    rw [List.pairwise_cons] at h ⊢
    exact ⟨fun b hb => k a (by simp) b (by simp [hb]) (h.1 b hb), pairwise_mem h.2 fun x hx y hy => k x (by simp [hx]) y (by simp [hy])⟩
theorem short_ss {l : List (Int × Int)} (h : tuneB l = true) : SS (l.map (shF (headT l) (beatsM l))) := by
  unfold SS
  exact List.pairwise_map.2 (pairwise_mem (tune_parts h).2.1 fun a ha b hb hab => shF_mono h ha hb hab)
theorem sh_range {l : List (Int × Int)} (h : tuneB l = true) {p : Int × Int} (hp : p ∈ l) : 0 ≤ (shF (headT l) (beatsM l) p).1 ∧ (shF (headT l) (beatsM l) p).1 ≤ 1000 := by
  have hh := tune_head h p hp
  unfold shF
  have h1 : 0 ≤ (p.1 - headT l) / ((max (beatsM l) 1 : Nat) : Int) := Int.ediv_nonneg (by omega) (by omega)
  have h2 : (p.1 - headT l) / ((max (beatsM l) 1 : Nat) : Int) ≤ p.1 - headT l := Int.ediv_le_self _ (by omega)
  exact ⟨h1, by simp only; omega⟩
theorem short_tune {l : List (Int × Int)} (h : tuneB l = true) : tuneB (shortM l) = true := by
  rw [shortM_yes h]
  refine tune_of (by rw [List.length_map]; exact (tune_parts h).1) (short_ss h) fun p hp => ?_
  obtain ⟨q, hq, rfl⟩ := List.mem_map.1 hp
  exact ⟨sh_range h hq, ((tune_parts h).2.2 q hq).2⟩
theorem sh_head {l : List (Int × Int)} {a : Int × Int} (h0 : l[0]? = some a) (g : Nat) : (shF (headT l) g a).1 = 0 := by
  unfold shF; rw [headT_at h0, Int.sub_self]; exact Int.zero_ediv _
theorem map_at {l : List (Int × Int)} {f : Int × Int → Int × Int} {k : Nat} {p : Int × Int} (h : l[k]? = some p) : (l.map f)[k]? = some (f p) := by rw [List.getElem?_map, h]; rfl
/-- The last time. -/
def endT (l : List (Int × Int)) : Int := match l[l.length - 1]? with | some b => b.1 | none => 0
theorem endT_at {l : List (Int × Int)} {b : Int × Int} (h : l[l.length - 1]? = some b) : endT l = b.1 := by unfold endT; rw [h]
theorem short_lasts {l : List (Int × Int)} (h : tuneB l = true) : lastsM (shortM l) = endT (shortM l) := by
  by_cases h0 : l = []
  · subst h0; have : shortM [] = [] := by rw [shortM_yes h]; rfl
    rw [this, lastsM_nil]; rfl
  · have hl : 0 < l.length := List.length_pos_iff.2 h0
    have ha := List.getElem?_eq_getElem (l := l) (i := 0) hl
    have hb := List.getElem?_eq_getElem (l := l) (i := l.length - 1) (by omega)
    have hs := shortM_yes h
    have ha' := map_at (f := shF (headT l) (beatsM l)) ha
    have hb' := map_at (f := shF (headT l) (beatsM l)) hb
    rw [← hs] at ha' hb'
    have hb'' : (shortM l)[(shortM l).length - 1]? = some (shF (headT l) (beatsM l) l[l.length - 1]) := by rw [show (shortM l).length = l.length by rw [hs, List.length_map]]; exact hb'
    rw [lastsM_yes (short_tune h) ha' hb'', endT_at hb'', sh_head ha]; omega
noncomputable def fitsM (l : List (Int × Int)) (n : Int) : Bool := tuneB l && inB n 4 96 && decide (endT (shortM l) < n)
theorem fitsM_no {l : List (Int × Int)} {n : Int} (h : ¬ (tuneB l = true ∧ (4 ≤ n ∧ n ≤ 96))) : fitsM l n = false := by
  unfold fitsM inB
  by_cases h1 : tuneB l = true
  · rw [h1, decide_eq_false fun k => h ⟨h1, k⟩]; rfl
  · rw [Bool.not_eq_true] at h1; rw [h1]; rfl
theorem fitsM_yes {l : List (Int × Int)} {n : Int} (h : tuneB l = true) (hn : 4 ≤ n ∧ n ≤ 96) : fitsM l n = decide (endT (shortM l) < n) := by
  unfold fitsM inB; rw [h, decide_eq_true hn]; rfl

/-- What FnSpeeds asks of a tune and of one that is three times slower and seven later. -/
structure SpeedP (t v x : List (Int × Int)) (g : Nat) : Prop where
  beats : beatsM t = g
  more : beatsM v = 3 * g
  short : shortM t = x
  same : shortM v = x
  len : x.length = t.length
  le : g ≤ 1000
  at_ : ∀ (k : Nat) (p : Int × Int), t[k]? = some p → ∃ q a : Int × Int, x[k]? = some q ∧ t[0]? = some a ∧ q.2 = p.2 ∧ 0 ≤ q.1 ∧ q.1 ≤ 1000 ∧ (0 < g → q.1 * (g : Int) = p.1 - a.1) ∧ (g = 0 → q.1 = 0)
  one : beatsM x = if 0 < g then 1 else 0
  fit16 : fitsM t 16 = decide (endT x < 16)
  fit4 : fitsM t 4 = decide (endT x < 4)
theorem dif_shift {x0 b : Int} {l : List (Int × Int)} (h : ∀ p ∈ l, x0 ≤ p.1) : difL (x0 * 3 + b) (shiftL 3 b 0 l) = (difL x0 l).map fun d => 3 * d := by
  unfold difL shiftL
  rw [List.map_map, List.map_map]
  refine List.map_congr_left fun p hp => ?_
  have := h p hp
  simp only [Function.comp]
  omega
theorem headT_shift {l : List (Int × Int)} (b : Int) (h : l ≠ []) : headT (shiftL 3 b 0 l) = headT l * 3 + b := by
  cases l with
  | nil => exact absurd rfl h
  | cons a r => rfl
theorem speed_of {t : List (Int × Int)} (h : tuneB t = true) (hv : tuneB (shiftL 3 7 0 t) = true) : SpeedP t (shiftL 3 7 0 t) (shortM t) (beatsM t) := by
  have hb : beatsM (shiftL 3 7 0 t) = 3 * beatsM t := by
    rw [beatsM_yes hv, beatsM_yes h]
    by_cases h0 : t = []
    · subst h0; rfl
    · rw [headT_shift 7 h0, gcdL_dif, gcdL_dif]
      exact gcd_mulL (dif_shift fun p hp => (tune_head h p hp).1)
  have hsame : shortM (shiftL 3 7 0 t) = shortM t := by
    rw [shortM_yes hv, shortM_yes h, hb]
    by_cases h0 : t = []
    · subst h0; rfl
    · rw [headT_shift 7 h0]
      unfold shiftL; rw [List.map_map]
      refine List.map_congr_left fun p hp => ?_
      obtain ⟨k, hk, hz, _⟩ := sh_exact h hp
      simp only [Function.comp]
      unfold shF
      refine Prod.ext ?_ (by simp only; omega)
      simp only
      have e : p.1 * 3 + 7 - (headT t * 3 + 7) = 3 * (p.1 - headT t) := by omega
      rw [e]
      by_cases hg : beatsM t = 0
      · have := hz hg
        rw [show p.1 - headT t = 0 by omega]; simp
      · have m1 : max (3 * beatsM t) 1 = 3 * beatsM t := by omega
        have m2 : max (beatsM t) 1 = beatsM t := by omega
        rw [m1, m2, Int.natCast_mul]
        exact Int.mul_ediv_mul_of_pos _ _ (by omega)
  have hat : ∀ (k : Nat) (p : Int × Int), t[k]? = some p → ∃ q a : Int × Int, (shortM t)[k]? = some q ∧ t[0]? = some a ∧ q.2 = p.2 ∧ 0 ≤ q.1 ∧ q.1 ≤ 1000 ∧ (0 < beatsM t → q.1 * (beatsM t : Int) = p.1 - a.1) ∧ (beatsM t = 0 → q.1 = 0) := by
    intro k p hp
    have hpm := List.mem_of_getElem? hp
    have hl : 0 < t.length := List.length_pos_of_mem hpm
    have ha := List.getElem?_eq_getElem (l := t) (i := 0) hl
    obtain ⟨_, _, hz, he⟩ := sh_exact h hpm
    have hr := sh_range h hpm
    refine ⟨shF (headT t) (beatsM t) p, t[0], by rw [shortM_yes h]; exact map_at hp, ha, rfl, hr.1, hr.2, fun hg => ?_, fun hg => ?_⟩
    · rw [headT_at ha] at he ⊢
      rw [show max (beatsM t) 1 = beatsM t by omega] at he; exact he
    · have := hz hg
      unfold shF; simp only; rw [show p.1 - headT t = 0 by omega]; exact Int.zero_ediv _
  have hone : beatsM (shortM t) = if 0 < beatsM t then 1 else 0 := by
    rw [beatsM_yes (short_tune h)]
    by_cases h0 : t = []
    · subst h0; rw [beatsM_yes h, shortM_yes h]; rfl
    · have hl : 0 < t.length := List.length_pos_iff.2 h0
      have ha := List.getElem?_eq_getElem (l := t) (i := 0) hl
      have hx0 : headT (shortM t) = 0 := by
        rw [headT_at (a := shF (headT t) (beatsM t) t[0]) (by rw [shortM_yes h]; exact map_at ha)]; exact sh_head ha _
      rw [hx0]
      by_cases hg : beatsM t = 0
      · rw [if_neg (by omega)]
        have : ∀ p ∈ shortM t, p.1 = 0 := by
          intro p hp
          rw [shortM_yes h] at hp
          obtain ⟨q, hq, rfl⟩ := List.mem_map.1 hp
          obtain ⟨_, _, hz, _⟩ := sh_exact h hq
          have := hz hg
          unfold shF; simp only; rw [show q.1 - headT t = 0 by omega]; exact Int.zero_ediv _
        have hd := gcdL_dif 0 (shortM t)
        have hzero : ∀ (r : List Nat), (∀ d ∈ r, d = 0) → r.foldl (fun g d => Nat.gcd g d) 0 = 0 := by
          intro r
          induction r with
          | nil => intro _; rfl
          | cons d r ih => intro hr; rw [List.foldl_cons, hr d (by simp)]; exact ih fun e he => hr e (by simp [he])
        rw [hd]
        refine hzero _ fun d hd => ?_
        obtain ⟨p, hp, rfl⟩ := List.mem_map.1 hd
        have := this p hp; omega
      · rw [if_pos (by omega)]
        have e : difL (headT t) t = (difL 0 (shortM t)).map fun d => beatsM t * d := by
          rw [shortM_yes h]; unfold difL
          rw [List.map_map, List.map_map]
          refine List.map_congr_left fun p hp => ?_
          obtain ⟨_, _, _, he⟩ := sh_exact h hp
          have hr := sh_range h hp
          simp only [Function.comp]
          rw [show max (beatsM t) 1 = beatsM t by omega] at he
          rw [← he, Int.sub_zero]
          obtain ⟨z, hz⟩ := Int.eq_ofNat_of_zero_le hr.1
          rw [hz, ← Int.natCast_mul, Int.toNat_natCast, Int.toNat_natCast, Nat.mul_comm]
        have := gcd_mulL e
        rw [← gcdL_dif, ← gcdL_dif, ← beatsM_yes h] at this
        have h2 : beatsM t * 1 = beatsM t * gcdL 0 (shortM t) := by rw [Nat.mul_one]; exact this
        exact (Nat.eq_of_mul_eq_mul_left (by omega) h2).symm
  exact ⟨rfl, hb, rfl, hsame, by rw [shortM_yes h, List.length_map], beats_le t, hat, hone, fitsM_yes h ⟨by omega, by omega⟩, fitsM_yes h ⟨by omega, by omega⟩⟩
theorem tune_nil : tuneB [] = true := tuneB_true.2 ⟨by simp, by simp⟩
theorem fits_nil : fitsM [] 4 = true := by
  rw [fitsM_yes tune_nil ⟨by omega, by omega⟩, shortM_yes tune_nil]; rfl
end Go.Proofs.Ytcbdoldcdgaooaa
