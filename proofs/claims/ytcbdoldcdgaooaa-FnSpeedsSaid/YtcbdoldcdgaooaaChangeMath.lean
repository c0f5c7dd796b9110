/- What chapter 3's models keep of a tune: turned twice, upside down twice, joined either way. -/
import Derived.Test.YtcbdoldcdgaooaaTuneDraw
import Derived.Test.YtcbdoldcdgaooaaChangeSpec2
import Derived.Test.YtcbdoldcdgaooaaFlipSpec
import Derived.Test.YtcbdoldcdgaooaaJoinSpec
import Derived.Test.YtcbdoldcdgaooaaSameSpec
namespace Go.Proofs.Ytcbdoldcdgaooaa
open Go.ChangeShapes Go.WideShapes Go.ChangeAt Go.RowKit

theorem tune_parts {t : List (Int × Int)} (h : tuneB t = true) : t.length ≤ 40 ∧ SS t ∧ ∀ p ∈ t, (0 ≤ p.1 ∧ p.1 ≤ 1000) ∧ (0 ≤ p.2 ∧ p.2 ≤ 60) := by
  have tp := tuneB_true.1 h
  refine ⟨tp.1, tune_ss tp, fun p hp => ?_⟩
  obtain ⟨i, hi⟩ := List.mem_iff_getElem?.1 hp
  have := tp.2 _ _ hi
  exact ⟨this.1, this.2.1⟩
theorem tune_of {t : List (Int × Int)} (hl : t.length ≤ 40) (hs : SS t) (h : ∀ p ∈ t, (0 ≤ p.1 ∧ p.1 ≤ 1000) ∧ (0 ≤ p.2 ∧ p.2 ≤ 60)) : tuneB t = true := tuneB_true.2 (tuneP_of hs hl h)
theorem less_irr {p q : Int × Int} (h : lessB p q = true) : p ≠ q := by
  intro e; subst e; unfold lessB at h; simp at h
theorem less_fst {p q : Int × Int} (h : lessB p q = true) : p.1 ≤ q.1 := by
  unfold lessB at h; have := of_decide_eq_true h; omega
theorem ss_nodup {l : List (Int × Int)} (h : SS l) : l.Nodup := List.Pairwise.imp (fun h => less_irr h) h
theorem fold_nodup_len : ∀ (l o : List (Int × Int)), l.Nodup → (∀ x ∈ l, x ∉ o) → (l.foldl insM o).length = o.length + l.length
  | [], o, _, _ => by simp
  | x :: l, o, hn, hd => by
    obtain ⟨h1, h2⟩ := List.nodup_cons.1 hn
    have hx := hd x (by simp)
    rw [List.foldl_cons, fold_nodup_len l (insM o x) h2 (fun y hy hm => ?_), ins_out_len hx, List.length_cons]
    · omega
    · rcases (ins_mem o x y).1 hm with e | e
      · subst e; exact h1 hy
      · exact hd y (by simp [hy]) e
theorem sortM_nodup {l : List (Int × Int)} (hl : l.length ≤ 40) (hn : l.Nodup) : (sortM l).length = l.length := by
  unfold sortM; rw [if_pos hl, fold_nodup_len l [] hn (fun x _ => by simp)]; simp
theorem ss_first {l : List (Int × Int)} {a : Int × Int} (h : SS l) (ha : l[0]? = some a) : ∀ p ∈ l, a.1 ≤ p.1 := fun p hp => by
  cases l with
  | nil => simp at ha
  | cons x r =>
    obtain rfl : x = a := by simpa using ha
    rcases List.mem_cons.1 hp with e | e
    · subst e; exact Int.le_refl _
    · exact less_fst ((List.pairwise_cons.1 h).1 p e)
theorem ss_last {l : List (Int × Int)} {b : Int × Int} (h : SS l) (hb : l[l.length - 1]? = some b) : ∀ p ∈ l, p.1 ≤ b.1 := fun p hp => by
  obtain ⟨i, hi⟩ := List.mem_iff_getElem?.1 hp
  obtain ⟨hi2, e2⟩ := List.getElem?_eq_some_iff.1 hi
  obtain ⟨hj2, e3⟩ := List.getElem?_eq_some_iff.1 hb
  rcases Nat.lt_or_ge i (l.length - 1) with hl | hl
  · have := List.pairwise_iff_getElem.1 h i (l.length - 1) hi2 hj2 hl
    rw [e2, e3] at this; exact less_fst this
  · have : i = l.length - 1 := by omega
    subst this
    rw [e2] at e3; rw [e3]; exact Int.le_refl _
theorem turn_mem {s : Int} {l : List (Int × Int)} {p : Int × Int} : p ∈ turnL s l ↔ (s - p.1, p.2) ∈ l := by
  unfold turnL; rw [List.mem_map]
  constructor
  · rintro ⟨q, hq, rfl⟩
    have : s - (s - q.1) = q.1 := by omega
    simp only [this]; exact hq
  · intro h
    refine ⟨_, h, Prod.ext ?_ rfl⟩
    simp only; omega
theorem flip_mem {s : Int} {l : List (Int × Int)} {p : Int × Int} : p ∈ flipL s l ↔ (p.1, s - p.2) ∈ l := by
  unfold flipL; rw [List.mem_map]
  constructor
  · rintro ⟨q, hq, rfl⟩
    have : s - (s - q.2) = q.2 := by omega
    simp only [this]; exact hq
  · intro h
    refine ⟨_, h, Prod.ext rfl ?_⟩
    simp only; omega
theorem turn_nodup {s : Int} {l : List (Int × Int)} (h : l.Nodup) : (turnL s l).Nodup := by
  unfold turnL
  refine List.pairwise_map.2 (List.Pairwise.imp (fun {a b} hab e => hab ?_) h)
  simp only [Prod.mk.injEq] at e
  exact Prod.ext (by omega) e.2
theorem flip_nodup {s : Int} {l : List (Int × Int)} (h : l.Nodup) : (flipL s l).Nodup := by
  unfold flipL
  refine List.pairwise_map.2 (List.Pairwise.imp (fun {a b} hab e => hab ?_) h)
  simp only [Prod.mk.injEq] at e
  exact Prod.ext e.1 (by omega)
theorem back_len {t : List (Int × Int)} (h : tuneB t = true) : (backM t).length = t.length := by
  obtain ⟨hl, hs, -⟩ := tune_parts h
  rw [backM_yes h, sortM_nodup (by rw [turnL_len]; exact hl) (turn_nodup (ss_nodup hs)), turnL_len]
theorem back_mem {t : List (Int × Int)} (h : tuneB t = true) {p : Int × Int} : p ∈ backM t ↔ (endsS t - p.1, p.2) ∈ t := by
  rw [backM_yes h, sortM_mem (by rw [turnL_len]; exact (tune_parts h).1), turn_mem]
/-- The first and the last time of a tune with notes. -/
theorem tune_ends {t : List (Int × Int)} (h : tuneB t = true) (h0 : 0 < t.length) : ∃ a b : Int × Int, t[0]? = some a ∧ t[t.length - 1]? = some b ∧ a ∈ t ∧ b ∈ t ∧ (∀ p ∈ t, a.1 ≤ p.1 ∧ p.1 ≤ b.1) ∧ endsS t = a.1 + b.1 ∧ lastsM t = b.1 - a.1 := by
  obtain ⟨a, ha⟩ : ∃ a, t[0]? = some a := ⟨_, List.getElem?_eq_getElem h0⟩
  obtain ⟨b, hb⟩ : ∃ b, t[t.length - 1]? = some b := ⟨_, List.getElem?_eq_getElem (by omega)⟩
  have hs := (tune_parts h).2.1
  exact ⟨a, b, ha, hb, List.mem_iff_getElem?.2 ⟨_, ha⟩, List.mem_iff_getElem?.2 ⟨_, hb⟩, fun p hp => ⟨ss_first hs ha p hp, ss_last hs hb p hp⟩, endsS_eq ha hb, lastsM_yes h ha hb⟩
theorem back_tune {t : List (Int × Int)} (h : tuneB t = true) : tuneB (backM t) = true := by
  obtain ⟨hl, hs, hr⟩ := tune_parts h
  refine tune_of (by rw [back_len h]; exact hl) (by rw [backM_yes h]; exact sortM_ss (by rw [turnL_len]; exact hl)) fun p hp => ?_
  have hm := (back_mem h).1 hp
  have h0 : 0 < t.length := List.length_pos_of_mem hm
  obtain ⟨a, b, ha, hb, hma, hmb, hab, he, -⟩ := tune_ends h h0
  have h1 := hr _ hm
  have h2 := hab _ hm
  have h3 := hr _ hma
  have h4 := hr _ hmb
  rw [he] at h2
  simp only at h1 h2
  omega
theorem back_ends {t : List (Int × Int)} (h : tuneB t = true) : endsS (backM t) = endsS t ∧ lastsM (backM t) = lastsM t := by
  rcases Nat.eq_zero_or_pos t.length with hz | h0
  · obtain rfl := List.length_eq_zero_iff.1 hz
    have : backM [] = [] := List.length_eq_zero_iff.1 (back_len h)
    rw [this]; exact ⟨rfl, rfl⟩
  · obtain ⟨a, b, -, -, hma, hmb, hab, he, hle⟩ := tune_ends h h0
    obtain ⟨a', b', -, -, hma', hmb', hab', he', hle'⟩ := tune_ends (back_tune h) (by rw [back_len h]; exact h0)
    have e1 := hab _ ((back_mem h).1 hma')
    have e2 := hab _ ((back_mem h).1 hmb')
    have f1 : (endsS t - a.1, a.2) ∈ backM t := (back_mem h).2 (by
      have : endsS t - (endsS t - a.1) = a.1 := by omega
      simp only [this]; exact hma)
    have f2 : (endsS t - b.1, b.2) ∈ backM t := (back_mem h).2 (by
      have : endsS t - (endsS t - b.1) = b.1 := by omega
      simp only [this]; exact hmb)
    have g1 := hab' _ f1
    have g2 := hab' _ f2
    simp only at e1 e2 g1 g2
    omega
theorem back_back {t : List (Int × Int)} (h : tuneB t = true) : backM (backM t) = t := by
  refine ss_unique (tune_parts (back_tune (back_tune h))).2.1 (tune_parts h).2.1 fun x => ?_
  rw [back_mem (back_tune h), (back_ends h).1, back_mem h]
  have : endsS t - (endsS t - x.1) = x.1 := by omega
  simp only [this]
theorem join_same {a b : List (Int × Int)} (ha : tuneB a = true) (hb : tuneB b = true) (hl : a.length + b.length ≤ 40) : (joinM a b).2 = true ∧ (joinM a b).1 = (joinM b a).1 ∧ a.length ≤ (joinM a b).1.length ∧ (joinM a b).1.length ≤ a.length + b.length := by
  have mem : ∀ (u v : List (Int × Int)) (x : Int × Int), x ∈ joinL u v ↔ x ∈ u ∨ x ∈ v := fun u v x => by
    unfold joinL hasB
    rw [List.mem_append, List.mem_filter]
    by_cases hx : x ∈ u <;> simp [hx]
  have l1 := joinL_len a b
  have l2 := joinL_len b a
  rw [joinM_yes ha hb (by omega), joinM_yes hb ha (by omega)]
  have nd : (joinL a b).Nodup := by
    unfold joinL hasB
    refine List.nodup_append.2 ⟨ss_nodup (tune_parts ha).2.1, (ss_nodup (tune_parts hb).2.1).filter _, ?_⟩
    intro x hx y hy e
    subst e
    simp at hy
    exact hy.2 hx
  refine ⟨rfl, ss_unique (sortM_ss (by omega)) (sortM_ss (by omega)) fun x => ?_, ?_, ?_⟩
  · rw [sortM_mem (by omega), sortM_mem (by omega), mem, mem]; exact Or.comm
  · rw [sortM_nodup (by omega) nd]; unfold joinL; rw [List.length_append]; exact Nat.le_add_right _ _
  · rw [sortM_nodup (by omega) nd]; exact l1
theorem shift_ss {a b c : Int} {l : List (Int × Int)} (ha : 1 ≤ a) (h : SS l) : SS (shiftL a b c l) := by
  unfold SS shiftL
  refine List.pairwise_map.2 (List.Pairwise.imp (fun {p q} hab => ?_) h)
  unfold lessB at hab ⊢
  have := of_decide_eq_true hab
  refine decide_eq_true ?_
  rcases this with h1 | ⟨h1, h2⟩
  · left
    have : p.1 * a < q.1 * a := Int.mul_lt_mul_of_pos_right h1 (by omega)
    simp only; omega
  · right
    simp only [h1]; exact ⟨trivial, by omega⟩
theorem shift_at {a b c : Int} {l : List (Int × Int)} {k : Nat} {p : Int × Int} (h : l[k]? = some p) : (shiftL a b c l)[k]? = some (p.1 * a + b, p.2 + c) := by
  unfold shiftL; rw [List.getElem?_map, h]; rfl
theorem shift_tune {a b c : Int} {l : List (Int × Int)} (ha : 1 ≤ a) (h : tuneB l = true) (hr : ∀ p ∈ l, (0 ≤ p.1 * a + b ∧ p.1 * a + b ≤ 1000) ∧ (0 ≤ p.2 + c ∧ p.2 + c ≤ 60)) : tuneB (shiftL a b c l) = true := by
  obtain ⟨hl, hs, -⟩ := tune_parts h
  refine tune_of (by rw [shiftL_len]; exact hl) (shift_ss ha hs) fun p hp => ?_
  unfold shiftL at hp
  obtain ⟨q, hq, rfl⟩ := List.mem_map.1 hp
  exact hr q hq
theorem shift_shift (b c b' c' : Int) (l : List (Int × Int)) : shiftL 1 b' c' (shiftL 1 b c l) = shiftL 1 (b + b') (c + c') l := by
  unfold shiftL; rw [List.map_map]
  refine List.map_congr_left fun p _ => ?_
  simp only [Function.comp, Int.mul_one]
  exact Prod.ext (by simp only; omega) (by simp only; omega)
theorem off_shift (b c : Int) (l : List (Int × Int)) : offL (shiftL 1 b c l) = offL l := by
  cases l with
  | nil => rfl
  | cons x r =>
    unfold offL shiftL
    rw [List.map_map]
    refine List.map_congr_left fun p _ => ?_
    simp only [Function.comp, Int.mul_one, List.map_cons, List.headD_cons]
    exact Prod.ext (by simp only; omega) (by simp only; omega)
end Go.Proofs.Ytcbdoldcdgaooaa
