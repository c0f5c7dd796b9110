/- The token's frame: the holder sends on the channel of a seat and keeps the token, and whoever sits there, once served, sits down again. For every program. No condition. -/
import Derived.Conc.TokenWalk
set_option linter.unusedSimpArgs false
set_option linter.unusedVariables false
namespace Go.Proofs.Ytodpkfohihfndaa
open Go Go.Conc
open Go.ConcN (sumTo upd sumTo_upd upd_ne upd_same)

section
variable {Still : Loc → Prop} {Mem Loose : Nat → Prop} {B h : Nat} {t : Trace}

/-- A send that is met touches nothing: what the holder knew it still knows. -/
theorem past_met (H : PastH Still Mem Loose B h t) (i j : Nat) (fi : FuncId) (pi : String) (fj : FuncId) (pj : String) {c : Nat} (k cap : Nat) (hc : c < B) :
    PastH Still Mem Loose B h (t ++ met i j fi pi fj pj c k cap) := by
  have hn := met_mute i j fi pi fj pj c k cap
  refine ⟨fun said => noRace_appendMute (H.clean said) hn, fun m a ha hm => ?_, fun m a ha hw hS g hg => ?_, fun g hg => (Deaf_quiet (met_quiet i j fi pi fj pj c k cap g)).trans (H.hears g hg), seen_app H.seen fun op hop => ?_⟩
  · obtain ⟨x, hx, hxa⟩ := touch_of ha
    rcases getElem?_append_cases hx with ⟨_, hx'⟩ | ⟨_, hxu⟩
    · exact PastG.old_known H (fun _ => Knows.app _) hx' hxa hm
    · rw [hn x hxu] at hxa; cases hxa
  · obtain ⟨x, hx, hxa⟩ := touch_of ha
    rcases getElem?_append_cases hx with ⟨_, hx'⟩ | ⟨_, hxu⟩
    · exact (H.wrote m a (by rw [touchAt_of hx']; exact hxa) hw hS g hg).app _
    · rw [hn x hxu] at hxa; cases hxa
  · simp only [met, List.mem_toArray, List.mem_cons, List.not_mem_nil, or_false] at hop
    rcases hop with rfl | rfl | rfl | rfl <;> exact hc
end

section
variable {P : Program} {K : World → Prop} {Still : Loc → Prop} {B : Nat} {Mem : Nat → Prop} {Inb : Nat → Option Seat} {h : Nat} {T : Trace} {gs : Array Goroutine} {w : World} {q : Nat → Nat}

/-- The frame behind the meeting: h holds still; j, served, is on its way to seat s'. -/
theorem Ring_stay (hKc : ∀ w i s c cap buf cl a b tm, Inb i = some s → s.has c → K w → K (w.setChan c cap buf cl a b tm)) (C : Ring P K Still B Mem Inb h T gs w q) {j c : Nat} {s s' : Seat} (hjh : j ≠ h) (hj : Inb j = some s) (hsc : s.has c) {cap k : Nat} {o : Obj}
    (hc : w.heap[c]? = some o) {gs' : Array Goroutine} {T' : Trace} {J' : Goroutine} {nj : Nat} (hsz : gs'.size = gs.size) (hoth : ∀ x, x ≠ h → x ≠ j → gs'[x]? = gs[x]?) (hJ : gs'[j]? = some J') (hDeaf : ∀ x, Deaf T' x = Deaf T x)
    (hwf' : s'.Wf) (hsame : ∀ c', s'.has c' → s.has c') (hsits : Sits P (j == 0) K Still B s' nj J') (hpast : PastH Still Mem (fun g => g ≠ h ∧ (Inb g).isSome) B h T') :
    Ring P K Still B Mem (upd Inb j (some s')) h T' gs' (w.setChan c cap #[] false (k + 1) (k + 1) false) (upd q j nj) := by
  have hup : ∀ x, x ≠ j → upd Inb j (some s') x = Inb x := fun x hx => upd_ne Inb _ hx
  refine ⟨fun x y hx hy => ?_, fun i s₁ c' _ e hc' => ?_, fun i s₁ e => ?_, fun _ _ z => z.elim, fun i i' s₁ s₂ c' e₁ e₂ h₁ h₂ => ?_, fun x hx => by rw [hDeaf]; exact C.above x (by omega), fun i s₁ e => ?_, fun i hM => ?_, fun i s₁ hi e => ⟨hi, by rw [e]; rfl⟩, ?_, hKc _ j s c _ _ _ _ _ _ hj hsc C.keep⟩
  · by_cases e : x = j
    · subst e
      rw [hJ] at hy
      obtain rfl := Option.some.inj hy
      rw [upd_same, upd_same]; exact hsits
    · rw [hoth x hx e] at hy
      rw [upd_ne q nj e, hup x e]
      have hi := C.idle x y hx hy
      cases es : Inb x with
      | none => rw [es] at hi; exact ⟨hi.1, by rw [hDeaf]; exact hi.2⟩
      | some s₁ => rw [es] at hi; exact hi
  · by_cases ec : c = c'
    · exact ⟨cap, k + 1, by rw [← ec]; exact heap_setChan_self w hc _ _ _ _ _ _⟩
    · obtain ⟨cap', k', hk'⟩ : ∃ cap' k', w.heap[c']? = some (.chan cap' #[] false k' k' false) := by
        by_cases ei : i = j
        · subst ei; rw [upd_same] at e; obtain rfl := Option.some.inj e; exact C.chans i s c' (fun z => z) hj (hsame _ hc')
        · rw [hup i ei] at e; exact C.chans i s₁ c' (fun z => z) e hc'
      exact ⟨cap', k', by rw [heap_setChan_ne w _ _ _ _ _ _ ec]; exact hk'⟩
  · by_cases ei : i = j
    · subst ei; rw [upd_same] at e; obtain rfl := Option.some.inj e; exact hwf'
    · rw [hup i ei] at e; exact C.wf i s₁ e
  · by_cases e1 : i = j <;> by_cases e2 : i' = j
    · rw [e1, e2]
    · subst e1; rw [upd_same] at e₁; rw [hup i' e2] at e₂; obtain rfl := Option.some.inj e₁; exact C.inj i i' s s₂ c' hj e₂ (hsame _ h₁) h₂
    · subst e2; rw [upd_same] at e₂; rw [hup i e1] at e₁; obtain rfl := Option.some.inj e₂; exact C.inj i i' s₁ s c' e₁ hj h₁ (hsame _ h₂)
    · rw [hup i e1] at e₁; rw [hup i' e2] at e₂; exact C.inj i i' s₁ s₂ c' e₁ e₂ h₁ h₂
  · by_cases ei : i = j
    · subst ei; rw [upd_same] at e; obtain rfl := Option.some.inj e; exact ⟨(C.mem i s hj).1, fun c' hc' => (C.mem i s hj).2 c' (hsame _ hc')⟩
    · rw [hup i ei] at e; exact C.mem i s₁ e
  · by_cases ei : i = j
    · subst ei; exact .inl (by rw [upd_same]; simp)
    · rw [hup i ei]; exact C.nomem i hM
  · refine PastG.loosen hpast fun g ⟨hg, hs⟩ => ⟨hg, ?_⟩
    by_cases eg : g = j
    · subst eg; rw [upd_same]; rfl
    · rw [hup g eg]; exact hs

/-- What has been reached behind the meeting. -/
def Stayed (P : Program) (K : World → Prop) (Still : Loc → Prop) (B : Nat) (Mem : Nat → Prop) (Inb : Nat → Option Seat) (h j c k n : Nat) (s' : Seat) (a₂ : Goroutine) (w : World) (m : Machine) (t : Trace) : Prop :=
  ∃ (gs' : Array Goroutine) (d : Nat) (sl' : Option (Nat × Nat)) (q' : Nat → Nat), m = crowd gs' ((w.at d).setChan c 0 #[] false (k + 1) (k + 1) false) sl' ∧ gs'.size = n ∧ gs'[h]? = some (Go.Conc.served a₂ undef) ∧
    Ring P K Still B Mem (upd Inb j (some s')) h t gs' ((w.at d).setChan c 0 #[] false (k + 1) (k + 1) false) q'

set_option maxHeartbeats 1000000 in
/-- THE HOLDER SENDS ON A CHANNEL WITHOUT A BUFFER AT WHICH j SITS, AND KEEPS THE TOKEN: on whatever tape they meet, and j, served, is on its way to its next seat. -/
theorem stay0 (hKat : ∀ w d, K w → K (w.at d)) (hKc : ∀ w i s c cap buf cl a b tm, Inb i = some s → s.has c → K w → K (w.setChan c cap buf cl a b tm))
    {a a₂ : Goroutine} {j c kk : Nat} {s s' : Seat} {v z z' : Value} {es : Array Event} {sl : Option (Nat × Nat)} (hjh : j ≠ h) (hjlt : j < gs.size) (hj : Inb j = some s) (hk : s.cases[kk]? = some (rcase c z)) (hMh : Mem h) (ha : gs[h]? = some a) (hrun : a.status = .running)
    (hsend : ∀ d, stepG P (h == 0) a (w.at d) = .comm a₂ #[scase c v z'] true .send (w.at d) es) (hes : ∀ e ∈ es, EvHd Still B e) (C : Ring P K Still B Mem Inb h T gs w q) {k : Nat} (hc : w.heap[c]? = some (.chan 0 #[] false k k false))
    (hwf' : s'.Wf) (hsame : ∀ c', s'.has c' → s.has c') {nj : Nat} (hnext : ∀ g₂, s.home g₂ → Sits P (j == 0) K Still B s' nj (Go.Conc.served g₂ (commResult s.cases s.shape kk v true))) :
    ∃ N m' T', runNT P N (crowd gs w sl) T = (.next m', T') ∧ Stayed P K Still B Mem Inb h j c k gs.size s' a₂ w m' T' := by
  have hsc : s.has c := ⟨kk, z, hk⟩
  have hwf := C.wf j s hj
  obtain ⟨hMj, hcB'⟩ := C.mem j s hj
  have hcB := hcB' c hsc
  have hu : ∀ (m : Nat) (cc : CommCase), m ≠ kk → s.cases[m]? = some cc → cc.chan ≠ .chan (some c) := by
    intro m cc hm hcc ec
    obtain ⟨c₂, z₂, rfl⟩ := hwf.recvs cc (Array.mem_of_getElem? hcc)
    simp only [rcase, Value.chan.injEq, Option.some.injEq] at ec
    subst ec
    exact hm (hwf.apart m kk _ _ _ hcc hk)
  refine runs_until (P := P)
    (Inv := fun μ m t => Stayed P K Still B Mem Inb h j c k gs.size s' a₂ w m t ∨ ∃ gs₁ d sl₁ q₁, ∃ pk : Bool, m = crowd gs₁ (w.at d) sl₁ ∧ gs₁.size = gs.size ∧ gs₁[h]? = some (if pk then parked a₂ #[scase c v z'] .send else a) ∧
      Ring P K Still B Mem Inb h t gs₁ (w.at d) q₁ ∧ (pk = true → 0 < q₁ j) ∧ μ = sumTo gs₁.size q₁ + (if pk then 0 else 1))
    (fun μ m t hInv => ?_) _ _ T (.inr ⟨gs, w.drawn, sl, q, false, rfl, rfl, ha, C, by simp, rfl⟩)
  rcases hInv with hdone | ⟨gs₁, d, sl₁, q₁, pk, rfl, hsz, ha₁, C₁, hpk, hμ⟩
  · exact .inl hdone
  refine .inr ?_
  obtain ⟨gj, hgj⟩ : ∃ gj, gs₁[j]? = some gj := ⟨gs₁[j]'(by omega), Array.getElem?_eq_getElem (by omega)⟩
  have hlth : h < gs₁.size := (Array.getElem?_eq_some_iff.1 ha₁).1
  have hSj : Sits P (j == 0) K Still B s (q₁ j) gj := by have := C₁.idle j gj hjh hgj; rwa [hj] at this
  have hrunner : ∃ (i : Nat) (g : Goroutine), gs₁[i]? = some g ∧ g.status = .running := by
    cases pk with
    | false => exact ⟨h, a, ha₁, hrun⟩
    | true => exact ⟨j, gj, hgj, (Sits.status C₁.keep hSj).elim (·.1) (fun z => by have := hpk rfl; omega)⟩
  obtain ⟨i, g, d', sl', hi, hg, hst⟩ := crowd_pick (P := P) (w := w.at d) (sl := sl₁) (C₁.awake ha₁ (by cases pk <;> simp [hrun, parked])) hrunner
  rw [at_at'] at hst
  have Cd : Ring P K Still B Mem Inb h t gs₁ (w.at d') q₁ := TokCore.at hKat C₁ d'
  have hcd : (w.at d').heap[c]? = some (.chan 0 #[] false k k false) := hc
  -- what follows from either way to meet
  have fin : ∀ (gs' : Array Goroutine) (ops₀ : Array MemOp) (g₂ : Goroutine), gs'.size = gs₁.size → (∀ x, x ≠ h → x ≠ j → gs'[x]? = gs₁[x]?) → gs'[h]? = some (Go.Conc.served a₂ undef) → gs'[j]? = some (Go.Conc.served g₂ (commResult s.cases s.shape kk v true)) → s.home g₂ →
      PastH Still Mem (fun g => g ≠ h ∧ (Inb g).isSome) B h (t ++ ops₀) → (∀ x, Deaf (t ++ ops₀) x = Deaf t x) →
      Stayed P K Still B Mem Inb h j c k gs.size s' a₂ w (crowd gs' ((w.at d').setChan c 0 #[] false (k + 1) (k + 1) false) sl') (t ++ (ops₀ ++ met h j a₂.frame.fn a₂.frame.place g₂.frame.fn g₂.frame.place c k 0)) := by
    intro gs' ops₀ g₂ hsz' hoth hH hJ hhome p1 hD0
    have p2 := past_met p1 h j a₂.frame.fn a₂.frame.place g₂.frame.fn g₂.frame.place k 0 hcB
    have hDeaf : ∀ x, Deaf (t ++ (ops₀ ++ met h j a₂.frame.fn a₂.frame.place g₂.frame.fn g₂.frame.place c k 0)) x = Deaf t x := fun x => by rw [← Array.append_assoc, Deaf_quiet (met_quiet _ _ _ _ _ _ _ _ _ x), hD0]
    rw [Array.append_assoc] at p2
    exact ⟨gs', d', sl', upd q₁ j nj, rfl, hsz'.trans hsz, hH, Ring_stay hKc Cd hjh hj hsc hcd hsz' hoth hJ hDeaf hwf' hsame (hnext g₂ hhome) p2⟩
  have hμpos : 0 < μ := by
    cases pk with
    | false => simp at hμ; omega
    | true =>
      have h1 := hpk rfl
      have h2 : q₁ j ≤ sumTo gs₁.size q₁ := Go.ConcN.le_sumTo (f := q₁) (by omega)
      simp at hμ; omega
  by_cases e : i = h
  · -- the holder's turn
    subst e
    cases pk with
    | true => rw [ha₁] at hi; obtain rfl := Option.some.inj hi; cases hg
    | false =>
      obtain rfl : g = a := by rw [ha₁] at hi; exact (Option.some.inj hi).symm
      obtain ⟨hops, hs, hl, hdf⟩ := evHd_ops (i := i) (fn := g.frame.fn) (pos := g.frame.place) hes
      have hoff : ∀ (x : Nat) (y : Goroutine), x ≠ j → (gs₁.setIfInBounds i ph)[x]? = some y → offersAt y c false = [] := by
        intro x y hxj hy
        rcases getElem?_stand gs₁ i x y hy with ⟨_, rfl⟩ | ⟨hx, hy'⟩
        · exact offersAt_ph _ _
        · exact TokCore.noRecvAt Cd hx hy' fun s₁ hs₁ hc₁ => hxj (C₁.inj x j s₁ s c hs₁ hj hc₁ hsc)
      rcases hSj with ⟨n₁, w₀, hq, hG⟩ | ⟨hq0, g₀, g₂, rfl, hat⟩
      · -- j is still on its way: the holder waits at its send
        have hjr : gj.status = .running := (Sits.status C₁.keep (.inl ⟨n₁, w₀, hq, hG⟩)).elim (·.1) (fun z => by omega)
        have hp : partners (gs₁.setIfInBounds i ph) c false = [] := partners_nil fun x y hy => by
          by_cases hxj : x = j
          · subst hxj
            rw [stand_get hjh hgj] at hy
            obtain rfl := Option.some.inj hy
            exact offersAt_of_not_blocked (by rw [hjr]; simp) _ _
          · exact hoff x y hxj hy
        have hw : ∀ cc ∈ #[scase c v z'], NoWays (w.at d') (gs₁.setIfInBounds i ph) cc := by
          intro cc hcc
          simp only [List.mem_toArray, List.mem_cons, List.not_mem_nil, or_false] at hcc
          subst hcc
          exact ways_send_none hcd (Nat.le_refl _) hp
        exact ⟨_, _, sumTo gs₁.size q₁ + 0, by rw [hst]; exact crowd_waits (sl := sl') hi (hsend d') hw, by simp at hμ; omega, .inr ⟨_, d', sl', q₁, true, rfl, by simpa using hsz, Array.getElem?_setIfInBounds_self_of_lt hlth, Cd.setH _ hes, fun _ => by omega, by simp⟩⟩
      · -- j waits: they meet at once
        have hp : partners (gs₁.setIfInBounds i ph) c false = [(j, kk)] := by
          rw [partners_one (stand_get hjh hgj) fun x y hxj hy => hoff x y hxj hy, offersAt_parked_at hk hu]
          rfl
        refine ⟨_, _, 0, by rw [hst]; exact crowd_send_meets_sel (sl := sl') hi (hsend d') hcd hjh hgj hk hp, hμpos, .inl ?_⟩
        exact fin _ _ g₂ (by simp) (fun x hx hxj => by rw [Array.getElem?_setIfInBounds_ne (fun z => hx z.symm), Array.getElem?_setIfInBounds_ne (fun z => hxj z.symm)]) (Array.getElem?_setIfInBounds_self_of_lt (by simpa using hlth))
          (by rw [Array.getElem?_setIfInBounds_ne (fun z => hjh z.symm), Array.getElem?_setIfInBounds_self_of_lt (by omega), finishComm_served]) hat.2.2.2.2.1 (PastH.appH C₁.past hops hs (hdf t) hl)
          (fun x => by
            by_cases ex : x = i
            · subst ex; exact hdf t
            · exact Deaf_other t (fun z => ex z.symm) _ hops)
  · by_cases ej : i = j ∧ pk = true ∧ ∃ g₂, AtIn P (i == 0) K Still B s g g₂
    · -- j comes, and the holder waits for it
      obtain ⟨rfl, rfl, g₂, hat⟩ := ej
      obtain ⟨_, _, _, _, hhome, esj, hesj, hstp⟩ := hat
      obtain ⟨hops, hr, hl, hd⟩ := evC_ops (i := i) (fn := g.frame.fn) (pos := g.frame.place) hesj
      have hp : partners (gs₁.setIfInBounds i ph) c true = [(h, 0)] := by
        rw [partners_one (stand_get (Ne.symm hjh) ha₁) fun x y hxh hy => by
          rcases getElem?_stand gs₁ i x y hy with ⟨_, rfl⟩ | ⟨_, hy'⟩
          · exact offersAt_ph _ _
          · exact TokCore.noSend Cd hxh hy' _]
        simp [offersAt_parked_send]
      have ho : ∀ (m : Nat) (c' : CommCase), m ≠ kk → s.cases[m]? = some c' → NoWays (w.at d') (gs₁.setIfInBounds i ph) c' := by
        intro m c' hm hc'
        obtain ⟨c₂, z₂, rfl⟩ := hwf.recvs c' (Array.mem_of_getElem? hc')
        have hne : c ≠ c₂ := fun ec => hu m _ hm hc' (by rw [ec]; rfl)
        obtain ⟨cap₂, k₂, hc₂⟩ := Cd.chans i s c₂ (fun z => z) hj ⟨m, z₂, hc'⟩
        refine ways_recv_none hc₂ (partners_nil fun x y hy => ?_)
        rcases getElem?_stand gs₁ i x y hy with ⟨_, rfl⟩ | ⟨_, hy'⟩
        · exact offersAt_ph _ _
        · by_cases hxh : x = h
          · subst hxh
            rw [ha₁] at hy'
            obtain rfl := Option.some.inj hy'
            simp only [if_true]
            rw [offersAt_parked_send, if_neg hne]
          · exact TokCore.noSend Cd hxh hy' _
      refine ⟨_, _, 0, by rw [hst]; exact crowd_sel_recv_meets (sl := sl') hi (hstp _ Cd.keep) hk ho hcd (Ne.symm hjh) ha₁ hp, hμpos, .inl ?_⟩
      exact fin _ _ g₂ (by simp) (fun x hx hxj => by rw [Array.getElem?_setIfInBounds_ne (fun z => hxj z.symm), Array.getElem?_setIfInBounds_ne (fun z => hx z.symm)])
        (by rw [Array.getElem?_setIfInBounds_ne hjh, Array.getElem?_setIfInBounds_self_of_lt hlth, finishComm_send]) (by rw [Array.getElem?_setIfInBounds_self_of_lt (by simp; omega), finishComm_served]) hhome
        (PastH.appRead C₁.past hMj ⟨hjh, by rw [hj]; rfl⟩ hops hr (hd t) hl)
        (fun x => by
          by_cases ex : x = i
          · subst ex; exact hd t
          · exact Deaf_other t (fun z => ex z.symm) _ hops)
    · -- somebody else's turn
      obtain ⟨gs', ops, q', hrt, hsz', hsp, hqo, hq0, C', hlt⟩ := TokCore.by_step (sl := sl') (fun t u i => Knows.app u) Cd hi e hg
        (fun x gx hx hgx => by
          subst hx; rw [ha₁] at hgx; obtain rfl := Option.some.inj hgx
          cases pk with
          | false => exact again_of_running (.inl hrun) _
          | true => exact again_send_open hcd) (fun hD => hD.elim)
        (fun s₁ g₂ hs₁ hat => ⟨fun hD => hD, fun x gx c' hx hgx hc' => by
          subst hx; rw [ha₁] at hgx; obtain rfl := Option.some.inj hgx
          cases pk with
          | false => exact offersAt_of_not_blocked (by simp [hrun]) _ _
          | true =>
            simp only [if_true]
            rw [offersAt_parked_send, if_neg]
            intro ec
            have hij : i = j := C₁.inj i j s₁ s c hs₁ hj (ec ▸ hc') hsc
            subst hij
            rw [hj] at hs₁
            obtain rfl := Option.some.inj hs₁
            exact ej ⟨rfl, rfl, g₂, hat⟩⟩)
      refine ⟨_, _, sumTo gs'.size q' + (if pk then 0 else 1), by rw [hst]; exact hrt, by rw [hsz']; omega, .inr ⟨gs', d', sl', q', pk, rfl, hsz'.trans hsz, by rw [hsp h rfl]; exact ha₁, C', fun hp => ?_, rfl⟩⟩
      subst hp
      by_cases hij : j = i
      · subst hij
        rcases Nat.eq_zero_or_pos (q' j) with h0 | h0
        · obtain ⟨g₂, hat⟩ := hq0 s hj h0
          exact absurd ⟨rfl, rfl, g₂, hat⟩ ej
        · exact h0
      · rw [hqo j hij]; exact hpk rfl
end
end Go.Proofs.Ytodpkfohihfndaa
