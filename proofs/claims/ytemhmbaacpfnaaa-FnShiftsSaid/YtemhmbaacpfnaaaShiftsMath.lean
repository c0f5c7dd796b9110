/- What promise 8 asks of two drawn cylinders on one cylinder. No program. -/
import Derived.Test.YtemhmbaacpfnaaaShiftPure
namespace Go.Proofs.Ytemhmbaacpfnaaa
open Go.ChangeShapes Go.WideShapes Go.ChangeAt Go.RowKit

theorem shift_mods {d h : Int} (hh : 0 ≤ h ∧ h < d) {l : List (Int × Int)} {y : Int × Int} (hy : y ∈ shiftL d h l) : y.1 % d = h := by
  obtain ⟨p, _, rfl⟩ := shift_mem.1 hy
  exact sh_mod hh p
theorem shifts_hold {s t : Int} {la lb : List (Int × Int)} (ha : CylP s t la) (hb : CylP s t lb) (ht : 1 ≤ t ∧ t ≤ 8) (hla : la.length ≤ 9) (hlb : lb.length ≤ 9) :
    ∃ m, hdO [(s, t, la), (s, t, lb)] 3 = some (s, 100, m) ∧ m.length = la.length + lb.length ∧ CylP s 100 m ∧ ptO (s, 100, m) 3 0 = some (s, 34, la) ∧ ptO (s, 100, m) 3 1 = some (s, 34, lb) ∧ ptO (s, 100, m) 3 2 = some (s, 34, []) := by
  have c0 : CylP s 100 (shiftL 3 0 la) := shift_cyl ha (by omega) (by omega) fun p hp => by have := (cyl_bd ha hp).1; omega
  have c1 : CylP s 100 (shiftL 3 1 lb) := shift_cyl hb (by omega) (by omega) fun p hp => by have := (cyl_bd hb hp).1; omega
  have s0 : shO (s, t, la) 3 0 = some (s, 100, shiftL 3 0 la) := shO_yes (c := (s, t, la)) (cylB_true.2 ha) (by omega) (by omega) (cylB_true.2 c0)
  have s1 : shO (s, t, lb) 3 1 = some (s, 100, shiftL 3 1 lb) := shO_yes (c := (s, t, lb)) (cylB_true.2 hb) (by omega) (by omega) (cylB_true.2 c1)
  have m0 : ∀ y ∈ shiftL 3 0 la, y.1 % 3 = 0 := fun y hy => shift_mods (by omega) hy
  have m1 : ∀ y ∈ shiftL 3 1 lb, y.1 % 3 = 1 := fun y hy => shift_mods (by omega) hy
  obtain ⟨m, hm⟩ := putAll_ok (cyl_sp c0) (sp_nodup (cyl_sp c1)) fun y hy hy' => by have := m0 y hy'; have := m1 y hy; omega
  obtain ⟨k1, k2, k3, _⟩ := putAll_some (cyl_sp c0) hm
  rw [shift_len, shift_len] at k2
  have cm : CylP s 100 m := cyl_of ha.1 (by omega) (by omega) k1 fun y hy => by
    rcases (k3 y).1 hy with h | h
    · exact cyl_bd c0 h
    · exact cyl_bd c1 h
  have hmg : mgO (s, 100, shiftL 3 0 la) (s, 100, shiftL 3 1 lb) = some (s, 100, m) := mgO_yes (a := (s, 100, shiftL 3 0 la)) (b := (s, 100, shiftL 3 1 lb)) ⟨cylB_true.2 c0, cylB_true.2 c1, rfl, rfl⟩ hm (cylB_true.2 cm)
  refine ⟨m, ?_, k2, cm, ?_, ?_, ?_⟩
  · rw [hdO_yes (by simp)]
    show holdO 3 [(s, t, la), (s, t, lb)] 2 = _
    rw [holdO_more (k := 1) (by omega) (c := (s, t, lb)) rfl (o := (s, 100, shiftL 3 0 la)) (by rw [holdO_one (c := (s, t, la)) rfl]; exact s0) s1]
    exact hmg
  · rw [ptO_yes (c := (s, 100, m)) (cylB_true.2 cm) (by omega) (by omega)]
    have e : partL 3 0 m = la := part_shift (by omega) k1 (cyl_sp ha) fun y => by
      constructor
      · rintro ⟨h1, h2⟩
        rcases (k3 y).1 h1 with h | h
        · exact h
        · have := m1 y h; omega
      · exact fun h => ⟨(k3 y).2 (Or.inl h), m0 y h⟩
    show some (s, (100 + 3 - 1 : Int) / 3, partL 3 0 m) = _
    rw [e]; rfl
  · rw [ptO_yes (c := (s, 100, m)) (cylB_true.2 cm) (by omega) (by omega)]
    have e : partL 3 1 m = lb := part_shift (by omega) k1 (cyl_sp hb) fun y => by
      constructor
      · rintro ⟨h1, h2⟩
        rcases (k3 y).1 h1 with h | h
        · have := m0 y h; omega
        · exact h
      · exact fun h => ⟨(k3 y).2 (Or.inr h), m1 y h⟩
    show some (s, (100 + 3 - 1 : Int) / 3, partL 3 1 m) = _
    rw [e]; rfl
  · rw [ptO_yes (c := (s, 100, m)) (cylB_true.2 cm) (by omega) (by omega)]
    have e : partL 3 2 m = [] := part_none fun y hy => by
      rcases (k3 y).1 hy with h | h
      · have := m0 y h; omega
      · have := m1 y h; omega
    show some (s, (100 + 3 - 1 : Int) / 3, partL 3 2 m) = _
    rw [e]; rfl
theorem shifts_merge {s t : Int} {la lb : List (Int × Int)} (ha : CylP s t la) (hb : CylP s t lb) (hla : la.length ≤ 9) (hlb : lb.length ≤ 9) :
    (distN s 1 la lb = 0 ∧ ∃ m, mgO (s, t, la) (s, t, lb) = some (s, t, m) ∧ m.length = la.length + lb.length) ∨ (distN s 1 la lb ≠ 0 ∧ mgO (s, t, la) (s, t, lb) = none) := by
  by_cases h : distN s 1 la lb = 0
  · left
    refine ⟨h, ?_⟩
    obtain ⟨m, hm⟩ := putAll_ok (cyl_sp ha) (sp_nodup (cyl_sp hb)) ((dist_one ha hb).1 h)
    obtain ⟨k1, k2, k3, _⟩ := putAll_some (cyl_sp ha) hm
    have cm : CylP s t m := cyl_of ha.1 ha.2.1 (by omega) k1 fun y hy => by
      rcases (k3 y).1 hy with h | h
      · exact cyl_bd ha h
      · exact cyl_bd hb h
    exact ⟨m, mgO_yes (a := (s, t, la)) (b := (s, t, lb)) ⟨cylB_true.2 ha, cylB_true.2 hb, rfl, rfl⟩ hm (cylB_true.2 cm), k2⟩
  · right
    refine ⟨h, mgO_no fun ⟨_, m, hm, _⟩ => h ((dist_one ha hb).2 ?_)⟩
    exact (putAll_some (cyl_sp ha) hm).2.2.2
theorem shifts_one {s t : Int} {la : List (Int × Int)} (ha : CylP s t la) (ht : 1 ≤ t ∧ t ≤ 8) : shO (s, t, la) 2 1 = some (s, 100, shiftL 2 1 la) :=
  shO_yes (c := (s, t, la)) (cylB_true.2 ha) (by omega) (by omega) (cylB_true.2 (shift_cyl ha (by omega) (by omega) fun p hp => by have := (cyl_bd ha hp).1; omega))
theorem shifts_dist {s t r : Int} {la lb : List (Int × Int)} (ha : CylP s t la) (hb : CylP s t lb) (hr : 1 ≤ r ∧ r ≤ 96) : dsM (s, t, la) (s, t, lb) r = (distN s r la lb : Int) := dsM_yes (a := (s, t, la)) (b := (s, t, lb)) ⟨cylB_true.2 ha, cylB_true.2 hb, rfl⟩ hr
end Go.Proofs.Ytemhmbaacpfnaaa
