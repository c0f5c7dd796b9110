/- The contracts of chapter 2's model: l02Copy, Lasts, PitchRange, NotesAt, SampleTune. No condition. -/
import Derived.Test.YtcbdoldcdgaooaaTuneSpec
import Derived.Test.YtcbdoldcdgaooaaInts
namespace Go.Proofs.Ytcbdoldcdgaooaa
open Go.ChangeShapes Go.WideShapes Go.ChangeAt Go.RowKit

theorem tuneok_yes {w : World} {v : Value} {l : List (Int × Int)} (h : Rd2 w v l) (ht : tuneB l = true) :
    Calls Try.prog 73 #[v] w fun e w' => e = .returned (.bool true) ∧ Below w.heap.size w w' :=
  (tuneok_any h).mono fun _ _ ⟨he, hb⟩ => ⟨by rw [he, ht], hb⟩
theorem tuneok_no {w : World} {v : Value} {l : List (Int × Int)} (h : Rd2 w v l) (ht : tuneB l = false) :
    Calls Try.prog 73 #[v] w fun e w' => e = .returned (.bool false) ∧ Below w.heap.size w w' :=
  (tuneok_any h).mono fun _ _ ⟨he, hb⟩ => ⟨by rw [he, ht], hb⟩

/-- A new row of notes. -/
def NewNotes (w : World) (l : List (Int × Int)) (e : Ending) (w' : World) : Prop :=
  ∃ v, e = .returned v ∧ w'.ownsRow w.heap.size 41 2 v l.length (flat2 l) ∧ Below w.heap.size w w'

noncomputable def lastsM (l : List (Int × Int)) : Int := if tuneB l then (match l.head?, l.getLast? with | some a, some b => b.1 - a.1 | _, _ => 0) else -1
theorem lastsM_no {l : List (Int × Int)} (h : tuneB l = false) : lastsM l = -1 := by unfold lastsM; rw [h]; rfl
theorem lastsM_nil : lastsM [] = 0 := by
  have h : tuneB [] = true := tuneB_true.2 ⟨by simp, fun k p hk => by simp at hk⟩
  unfold lastsM; rw [h]; rfl
theorem lastsM_yes {l : List (Int × Int)} {a b : Int × Int} (h : tuneB l = true) (h1 : l[0]? = some a) (h2 : l[l.length - 1]? = some b) : lastsM l = b.1 - a.1 := by
  unfold lastsM
  rw [h, List.head?_eq_getElem?, List.getLast?_eq_getElem?, h1, h2]; rfl

/-- The least and the greatest second number. -/
def minP (x : Int) (l : List (Int × Int)) : Int := l.foldl (fun m p => if p.2 < m then p.2 else m) x
def maxP (x : Int) (l : List (Int × Int)) : Int := l.foldl (fun m p => if m < p.2 then p.2 else m) x
noncomputable def pitchM (l : List (Int × Int)) : Int × Int := if tuneB l then (match l.head? with | some a => (minP a.2 l, maxP a.2 l) | none => (-1, -1)) else (-1, -1)
theorem pitchM_no {l : List (Int × Int)} (h : tuneB l = false) : pitchM l = (-1, -1) := by unfold pitchM; rw [h]; rfl
theorem pitchM_nil : pitchM [] = (-1, -1) := by unfold pitchM; split <;> rfl
theorem pitchM_yes {l : List (Int × Int)} {a : Int × Int} (h : tuneB l = true) (h1 : l[0]? = some a) : pitchM l = (minP a.2 l, maxP a.2 l) := by
  unfold pitchM; rw [h, List.head?_eq_getElem?, h1]; rfl
theorem minP_snoc (x : Int) (l : List (Int × Int)) (k : Nat) (p : Int × Int) (h : l[k]? = some p) : minP x (l.take (k + 1)) = if p.2 < minP x (l.take k) then p.2 else minP x (l.take k) := by
  rw [List.take_add_one, h]; unfold minP; rw [List.foldl_append]; rfl
theorem maxP_snoc (x : Int) (l : List (Int × Int)) (k : Nat) (p : Int × Int) (h : l[k]? = some p) : maxP x (l.take (k + 1)) = if maxP x (l.take k) < p.2 then p.2 else maxP x (l.take k) := by
  rw [List.take_add_one, h]; unfold maxP; rw [List.foldl_append]; rfl

/-- The second numbers of the notes at a time. -/
def atM (l : List (Int × Int)) (t : Int) : List Int := (l.filter fun p => p.1 == t).map (·.2)
theorem atM_length (l : List (Int × Int)) (t : Int) : (atM l t).length ≤ l.length := by
  unfold atM; rw [List.length_map]; exact List.length_filter_le _ _
theorem atM_yes {l : List (Int × Int)} {t : Int} {k : Nat} {p : Int × Int} (h : l[k]? = some p) (ht : p.1 = t) : atM (l.take (k + 1)) t = atM (l.take k) t ++ [p.2] := by
  rw [List.take_add_one, h]; unfold atM; rw [List.filter_append, List.map_append]; simp [ht]
theorem atM_no {l : List (Int × Int)} {t : Int} {k : Nat} {p : Int × Int} (h : l[k]? = some p) (ht : ¬ p.1 = t) : atM (l.take (k + 1)) t = atM (l.take k) t := by
  rw [List.take_add_one, h]; unfold atM; rw [List.filter_append, List.map_append]; simp [ht]
noncomputable def notesAtM (l : List (Int × Int)) (t : Int) : List Int := if tuneB l then atM l t else []
def NewInts (w : World) (l : List Int) (e : Ending) (w' : World) : Prop :=
  ∃ v, e = .returned v ∧ w'.ownsRow w.heap.size 3 1 v l.length (l.map intV) ∧ Below w.heap.size w w'

def sampleL : List (Int × Int) := [(0, 12), (2, 16), (4, 12), (4, 19), (6, 16)]
set_option maxHeartbeats 1000000 in
theorem copy_any {w : World} {v : Value} {l : List (Int × Int)} (h : Rd2 w v l) (hl : l.length ≤ 1048576) :
    Calls Try.prog 96 #[v] w (NewNotes w l) := by
  obtain ⟨i0, hi, hz0, hz1, hz2⟩ := info_parts infoNote
  have hone : ∀ u ∈ flat2 l, u.oneCell' = true := fun u hu => by
    obtain ⟨p, _, hp⟩ := List.mem_flatMap.1 hu
    rcases List.mem_cons.1 hp with rfl | hp
    · rfl
    · obtain rfl : u = intV p.2 := by simpa using hp
      rfl
  have HO := Lib.hid hone; clear hone
  have hown0 := World.ownsRow_made (e := 41) (size := 2) w #[] 0 (Nat.le_refl _) (by simp) rfl
  have hb0 : Below w.heap.size w (w.alloc (.cells #[] 41)) := (Below.refl _ _).alloc (Nat.le_refl _) _
  have hfl := flat2_length l
  have HF := Lib.hid hfl; clear hfl
  by_cases h0 : l.length = 0
  · obtain rfl : l = [] := List.length_eq_zero_iff.1 h0
    obtain ⟨a, cap, rfl⟩ := Rd.slice h
    clear h0
    cases a
    · go_enter Try.func96, Try.ntmps96
      go_wp2
      go_ret
      exact ⟨_, rfl, hown0, hb0⟩
    · rename_i ad
      go_enter Try.func96, Try.ntmps96
      go_wp2_with (at_builtin; refine wpList_append_own _ rfl _ _ 42 rfl w.heap.size 41 i0 _ 2 16 Try.underlying42 hi hz0 hz1 hz2 rfl (by decide) _ 0 [] rfl hown0 ad 0 cap [] rfl rfl (fun j u hu => by simp at hu) (fun u hu => by simp at hu) (by unfold maxLen; omega) (by omega) (by simp) ?_)
      intro v' w1 hown hgrow _
      go_wp2
      go_ret
      exact ⟨_, rfl, (show w1.ownsRow w.heap.size 41 2 v' 0 [] from by simpa using hown), hb0.grown hgrow (by simp) (fun j hj => (hown0.lt j hj).1)⟩
  · obtain ⟨b, off, cap, rfl, hc⟩ := Rd.pos h (by omega)
    go_enter Try.func96, Try.ntmps96
    have HC := Lib.hid hc; clear hc
    go_wp2_with (at_builtin; refine wpList_append_own _ rfl _ _ 42 rfl w.heap.size 41 i0 _ 2 16 Try.underlying42 hi hz0 hz1 hz2 rfl (by decide) _ 0 [] rfl hown0 ⟨b, off, none⟩ l.length cap (flat2 l) rfl ?c1 ?c2 ?c3 ?c4 ?c5 ?c6 ?_)
    case c1 => exact HF.out
    case c2 =>
      intro c u hu
      have hlt : c < (flat2 l).length := (List.getElem?_eq_some_iff.1 hu).1
      rw [add_plain, hb0.cell (World.block_lt_of_cell? w _ ((HC.out c (by have := HF.out; omega)).trans hu)), HC.out c (by have := HF.out; omega)]
      exact hu
    case c3 => exact HO.out
    case c4 => unfold maxLen; omega
    case c5 => omega
    case c6 => simp
    intro v' w1 hown hgrow _
    go_wp2
    go_ret
    refine ⟨_, rfl, by simpa using hown, hb0.grown hgrow (by simp) (fun j hj => (hown0.lt j hj).1)⟩
end Go.Proofs.Ytcbdoldcdgaooaa
