/- Plain facts: the fields of a line, each behind it a space, have the same fields. -/
import Derived.Test.YtidfeffpfcnnlaaDoorSplit
namespace Go.Proofs.YtidfeffpfcnnlaaDoor
open Go.RowKit

def GoodF (p : UInt8 → Prop) (st : List (List UInt8) × List UInt8) : Prop := (∀ f ∈ st.1, f ≠ [] ∧ ∀ c ∈ f, c ≠ 32 ∧ p c) ∧ ∀ c ∈ st.2, c ≠ 32 ∧ p c
theorem good_step {p : UInt8 → Prop} {st : List (List UInt8) × List UInt8} {c : UInt8} (h : GoodF p st) (hc : p c) : GoodF p (stepF st c) := by
  unfold stepF
  split
  · split
    · exact ⟨h.1, by intro c hc; cases hc⟩
    · rename_i h0
      refine ⟨fun f hf => ?_, by intro c hc; cases hc⟩
      rcases List.mem_append.1 hf with hf | hf
      · exact h.1 f hf
      · obtain rfl : f = st.2 := by simpa using hf
        exact ⟨h0, h.2⟩
  · rename_i hne
    refine ⟨h.1, fun d hd => ?_⟩
    rcases List.mem_append.1 hd with hd | hd
    · exact h.2 d hd
    · obtain rfl : d = c := by simpa using hd
      exact ⟨hne, hc⟩
theorem good_scan {p : UInt8 → Prop} : ∀ (l : List UInt8) (st : List (List UInt8) × List UInt8), GoodF p st → (∀ c ∈ l, p c) → GoodF p (l.foldl stepF st)
  | [], _, h, _ => h
  | c :: l, _, h, hl => good_scan l _ (good_step h (hl c (List.mem_cons.2 (Or.inl rfl)))) (fun d hd => hl d (List.mem_cons.2 (Or.inr hd)))
theorem good_fin {p : UInt8 → Prop} {st : List (List UInt8) × List UInt8} (h : GoodF p st) : ∀ f ∈ finF st, f ≠ [] ∧ ∀ c ∈ f, c ≠ 32 ∧ p c := by
  intro f hf
  unfold finF at hf
  split at hf
  · exact h.1 f hf
  · rename_i h0
    rcases List.mem_append.1 hf with hf | hf
    · exact h.1 f hf
    · obtain rfl : f = st.2 := by simpa using hf
      exact ⟨h0, h.2⟩

def totF (fs : List (List UInt8)) : Nat := (fs.map List.length).sum
theorem totF_append (a b : List (List UInt8)) : totF (a ++ b) = totF a + totF b := by simp [totF]
theorem totF_one (a : List UInt8) : totF [a] = a.length := by simp [totF]
theorem tot_step (st : List (List UInt8) × List UInt8) (c : UInt8) : totF (stepF st c).1 + (stepF st c).2.length ≤ totF st.1 + st.2.length + 1 := by
  unfold stepF
  split
  · split
    · simp only [List.length_nil]; omega
    · simp only [List.length_nil, totF_append, totF_one]; omega
  · simp only [List.length_append, List.length_cons, List.length_nil]; omega
theorem tot_scan : ∀ (l : List UInt8) (st : List (List UInt8) × List UInt8), totF (l.foldl stepF st).1 + (l.foldl stepF st).2.length ≤ totF st.1 + st.2.length + l.length
  | [], st => by simp
  | c :: l, st => by
    have := tot_scan l (stepF st c)
    have := tot_step st c
    simp only [List.foldl_cons, List.length_cons]
    omega
theorem tot_fin (l : List UInt8) : totF (finF (scanF l)) ≤ l.length := by
  have h := tot_scan l ([], [])
  have e : totF ([] : List (List UInt8)) = 0 := rfl
  simp only [e, List.length_nil] at h
  unfold finF
  split
  · unfold scanF; omega
  · rw [totF_append, totF_one]; unfold scanF; omega

def joinF (fs : List (List UInt8)) : List UInt8 := fs.flatMap fun f => f ++ [32]
theorem joinF_snoc (fs : List (List UInt8)) (f : List UInt8) : joinF (fs ++ [f]) = joinF fs ++ f ++ [32] := by simp [joinF]
theorem joinF_length (fs : List (List UInt8)) : (joinF fs).length = totF fs + fs.length := by
  induction fs with
  | nil => rfl
  | cons f fs ih =>
    have e : joinF (f :: fs) = (f ++ [32]) ++ joinF fs := by simp [joinF]
    have e2 : totF (f :: fs) = f.length + totF fs := by simp [totF]
    rw [e, List.length_append, ih, e2]
    simp only [List.length_append, List.length_cons, List.length_nil]
    omega
theorem totF_take (fs : List (List UInt8)) (j : Nat) : totF (fs.take j) ≤ totF fs := by
  have := totF_append (fs.take j) (fs.drop j)
  rw [List.take_append_drop] at this
  omega
theorem scan_word : ∀ (f : List UInt8) (acc : List (List UInt8)) (cur : List UInt8), (∀ c ∈ f, c ≠ 32) → f.foldl stepF (acc, cur) = (acc, cur ++ f)
  | [], acc, cur, _ => by simp
  | c :: f, acc, cur, h => by
    simp only [List.foldl_cons]
    have e : stepF (acc, cur) c = (acc, cur ++ [c]) := by unfold stepF; rw [if_neg (h c (List.mem_cons.2 (Or.inl rfl)))]
    rw [e, scan_word f acc _ (fun d hd => h d (List.mem_cons.2 (Or.inr hd)))]
    simp
theorem scan_join : ∀ (fs acc : List (List UInt8)), (∀ f ∈ fs, f ≠ [] ∧ ∀ c ∈ f, c ≠ 32) → (joinF fs).foldl stepF (acc, []) = (acc ++ fs, [])
  | [], acc, _ => by simp [joinF]
  | f :: fs, acc, h => by
    have e : joinF (f :: fs) = (f ++ [32]) ++ joinF fs := by simp [joinF]
    have hf := h f (List.mem_cons.2 (Or.inl rfl))
    rw [e, List.foldl_append, List.foldl_append, scan_word f acc [] hf.2]
    have e2 : ([32] : List UInt8).foldl stepF (acc, [] ++ f) = (acc ++ [f], []) := by
      simp only [List.foldl_cons, List.foldl_nil, List.nil_append]
      unfold stepF
      rw [if_pos rfl, if_neg hf.1]
    rw [e2, scan_join fs _ (fun g hg => h g (List.mem_cons.2 (Or.inr hg)))]
    simp
theorem mem_of_get (s : ByteArray) (k : Nat) (h : k < s.size) : s[k] ∈ s.data.toList := by
  have : s[k] = s.data.toList[k]'(by simpa using h) := rfl
  rw [this]
  exact List.getElem_mem _
theorem join_again {s : ByteArray} {fs : List (List UInt8)} (h : splitR s = (fs, true)) : (∀ f ∈ fs, f ≠ [] ∧ ∀ c ∈ f, c ≠ 32 ∧ okB c) ∧ totF fs ≤ 600 ∧ fs.length ≤ 24 ∧
    ((strL (joinF fs)).size ≤ 600 → splitR (strL (joinF fs)) = (fs, true)) := by
  unfold splitR at h
  split at h
  · rename_i hc
    obtain ⟨h1, h2, h3⟩ := hc
    have hfs : finF (scanF s.data.toList) = fs := (Prod.mk.inj h).1
    subst hfs
    have hp : ∀ c ∈ s.data.toList, okB c := fun c hc => by
      obtain ⟨k, hk, rfl⟩ := List.getElem_of_mem hc
      exact h2 k (by simpa using hk)
    have hg := good_fin (good_scan (p := okB) s.data.toList ([], []) ⟨(fun f hf => nomatch hf), (fun c hc => nomatch hc)⟩ hp)
    have ht := tot_fin s.data.toList
    have hl : s.data.toList.length = s.size := by simp
    refine ⟨hg, by omega, h3, fun hsz => ?_⟩
    have hj : scanF (strL (joinF (finF (scanF s.data.toList)))).data.toList = (finF (scanF s.data.toList), []) := by
      have e : (strL (joinF (finF (scanF s.data.toList)))).data.toList = joinF (finF (scanF s.data.toList)) := by simp [strL]
      rw [e]
      have := scan_join (finF (scanF s.data.toList)) [] (fun f hf => ⟨(hg f hf).1, fun c hc => ((hg f hf).2 c hc).1⟩)
      simpa [scanF] using this
    have hfin : finF (scanF (strL (joinF (finF (scanF s.data.toList)))).data.toList) = finF (scanF s.data.toList) := by rw [hj]; rfl
    have hok : ∀ k (h : k < (strL (joinF (finF (scanF s.data.toList)))).size), okB (strL (joinF (finF (scanF s.data.toList))))[k] := fun k hk => by
      have hm := mem_of_get (strL (joinF (finF (scanF s.data.toList)))) k hk
      have e : (strL (joinF (finF (scanF s.data.toList)))).data.toList = joinF (finF (scanF s.data.toList)) := by simp [strL]
      rw [e] at hm
      obtain ⟨f, hf, hc⟩ := List.mem_flatMap.1 hm
      rcases List.mem_append.1 hc with hc | hc
      · exact ((hg f hf).2 _ hc).2
      · have : (strL (joinF (finF (scanF s.data.toList))))[k] = 32 := by simpa using hc
        rw [this]; unfold okB; decide
    unfold splitR
    rw [if_pos ⟨hsz, hok, by rw [hfin]; exact h3⟩, hfin]
  · exact absurd (Prod.mk.inj h).2 (by decide)
end Go.Proofs.YtidfeffpfcnnlaaDoor
