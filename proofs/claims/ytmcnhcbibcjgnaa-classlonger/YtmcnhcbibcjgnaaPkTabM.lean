/-
  Layer 11, naming no program: places in a circle, each taken by an entry or empty. 'Fine': every place on an entry's way from its home is taken by one that goes first. There is one fine layout of a set of entries (fine_one); an entry more, laid step by step, keeps it fine (Way), and so does one less, shifted back step by step (Hole).
-/

namespace Go.Proofs.Ytmcnhcbibcjgnaa
set_option linter.unusedVariables false

/-- How far a place lies from a home, going round. -/
def farF (n h p : Nat) : Nat := if h ≤ p then p - h else p + n - h
theorem farF_lt {n h p : Nat} (hh : h < n) (hp : p < n) : farF n h p < n := by unfold farF; split <;> omega
theorem farF_inj {n h p q : Nat} (hh : h < n) (hp : p < n) (hq : q < n) (e : farF n h p = farF n h q) : p = q := by
  unfold farF at e
  split at e <;> split at e <;> omega
theorem farF_self (n h : Nat) : farF n h h = 0 := by unfold farF; rw [if_pos (Nat.le_refl _)]; omega
/-- The next place. -/
def nextP (n p : Nat) : Nat := if p + 1 = n then 0 else p + 1
theorem nextP_lt {n p : Nat} (hp : p < n) : nextP n p < n := by unfold nextP; split <;> omega
theorem nextP_mod {n p : Nat} (hp : p < n) : (p + 1) % n = nextP n p := by
  unfold nextP
  split
  · rename_i h; rw [h, Nat.mod_self]
  · exact Nat.mod_eq_of_lt (by omega)
theorem farF_next {n h p : Nat} (hh : h < n) (hp : p < n) (hne : nextP n p ≠ h) : farF n h (nextP n p) = farF n h p + 1 := by
  unfold farF nextP at *
  split at hne <;> (repeat' split) <;> omega
theorem farF_next_home {n p : Nat} (hp : p < n) : farF n (nextP n p) p = n - 1 := by
  unfold farF nextP
  (repeat' split) <;> omega

/-- What decides: where an address is at home, and which of two is ahead. -/
structure Rule (κ : Type) where
  n : Nat
  home : κ → Nat
  lt : κ → κ → Prop
  home_lt : ∀ k, home k < n
  tri : ∀ a b, a ≠ b → lt a b ∨ lt b a
  asym : ∀ a b, lt a b → ¬ lt b a
  trans : ∀ a b c, lt a b → lt b c → lt a c

section
variable {κ E : Type} (R : Rule κ) (key : E → κ)
def Rule.far (k : κ) (p : Nat) : Nat := farF R.n (R.home k) p
/-- Of two that want a place, the first one has it. -/
def Rule.goes (a b : κ) (p : Nat) : Prop := R.far b p < R.far a p ∨ (R.far a p = R.far b p ∧ R.lt a b)
variable {R key}
theorem Rule.goes_tri {a b : κ} (h : a ≠ b) (p : Nat) : R.goes a b p ∨ R.goes b a p := by
  unfold Rule.goes
  rcases Nat.lt_trichotomy (R.far a p) (R.far b p) with h1 | h1 | h1
  · exact .inr (.inl h1)
  · rcases R.tri a b h with h2 | h2
    · exact .inl (.inr ⟨h1, h2⟩)
    · exact .inr (.inr ⟨h1.symm, h2⟩)
  · exact .inl (.inl h1)
theorem Rule.goes_asym {a b : κ} {p : Nat} (h : R.goes a b p) : ¬ R.goes b a p := by
  unfold Rule.goes at *
  rintro (h1 | ⟨h1, h2⟩)
  · rcases h with h | ⟨h, _⟩ <;> omega
  · rcases h with h | ⟨_, h⟩
    · omega
    · exact R.asym _ _ h h2
theorem Rule.goes_trans {a b c : κ} {p : Nat} (h : R.goes a b p) (k : R.goes b c p) : R.goes a c p := by
  unfold Rule.goes at *
  rcases h with h | ⟨h, h'⟩ <;> rcases k with k | ⟨k, k'⟩
  · exact .inl (by omega)
  · exact .inl (by omega)
  · exact .inl (by omega)
  · exact .inr ⟨by omega, R.trans _ _ _ h' k'⟩

/-- What stands in a place. -/
abbrev Lay (E : Type) := Nat → Option E
/-- Each on the way goes first. -/
def Clear (R : Rule κ) (key : E → κ) (L : Lay E) (x : Nat → Prop) (e : E) (p : Nat) : Prop :=
  ∀ q, q < R.n → R.far (key e) q < R.far (key e) p → x q ∨ ∃ f, L q = some f ∧ key f ≠ key e ∧ R.goes (key f) (key e) q
/-- A fine layout. -/
structure Fine (R : Rule κ) (key : E → κ) (L : Lay E) : Prop where
  way : ∀ p e, p < R.n → L p = some e → Clear R key L (fun _ => False) e p
  one : ∀ p q e f, p < R.n → q < R.n → L p = some e → L q = some f → key e = key f → p = q
def Has (R : Rule κ) (L : Lay E) (e : E) : Prop := ∃ p, p < R.n ∧ L p = some e

theorem fine_less {L M : Lay E} (hL : Fine R key L) (hM : Fine R key M) (hs : ∀ e, Has R L e ↔ Has R M e) {z : Nat} (hz : z < R.n) (hzM : M z = none) :
    ∀ (d : Nat) (e : E) (p q : Nat), p < R.n → q < R.n → L p = some e → M q = some e → farF R.n z p = d → ¬ R.far (key e) p < R.far (key e) q := by
  intro d
  induction d using Nat.strongRecOn with
  | ind d ih =>
    intro e p q hp hq hLp hMq hd hlt
    obtain ⟨f, hMp, hne, hg⟩ := (hM.way q e hq hMq p hp hlt).resolve_left (fun h => h)
    obtain ⟨p', hp', hLp'⟩ := (hs f).2 ⟨p, hp, hMp⟩
    have hpp : p' ≠ p := by rintro rfl; rw [hLp] at hLp'; cases hLp'; exact hne rfl
    have hf := R.home_lt (key f)
    have hlt' : R.far (key f) p' < R.far (key f) p := by
      rcases Nat.lt_trichotomy (R.far (key f) p') (R.far (key f) p) with h | h | h
      · exact h
      · exact absurd (farF_inj hf hp' hp h) hpp
      · obtain ⟨e', he', _, hg'⟩ := (hL.way p' f hp' hLp' p hp h).resolve_left (fun h => h)
        rw [hLp] at he'
        cases he'
        exact absurd hg' (Rule.goes_asym hg)
    -- the places from p' to p are taken in M: z is none of them
    have hbetween : ∀ x, x < R.n → R.far (key f) x ≤ R.far (key f) p → M x ≠ none := by
      intro x hx hle
      rcases Nat.lt_or_eq_of_le hle with h | h
      · obtain ⟨f', hf', _⟩ := (hM.way p f hp hMp x hx h).resolve_left (fun h => h)
        rw [hf']; simp
      · have := farF_inj hf hx hp h
        subst this
        rw [hMp]; simp
    have hzf : ¬ R.far (key f) z ≤ R.far (key f) p := fun h => hbetween z hz h hzM
    have hback : farF R.n z p' < farF R.n z p := by
      unfold Rule.far at hlt' hzf
      unfold farF at *
      (repeat' split at hlt') <;> (repeat' split at hzf) <;> (repeat' split) <;> omega
    exact ih _ (by omega) f p' p hp' hp hLp' hMp rfl hlt'
/-- There is one fine layout. -/
theorem fine_one {L M : Lay E} (hL : Fine R key L) (hM : Fine R key M) (hs : ∀ e, Has R L e ↔ Has R M e) {y z : Nat} (hy : y < R.n) (hyL : L y = none) (hz : z < R.n) (hzM : M z = none) :
    ∀ p, p < R.n → L p = M p := by
  have key1 : ∀ e p q, p < R.n → q < R.n → L p = some e → M q = some e → p = q := by
    intro e p q hp hq h1 h2
    have a := fine_less hL hM hs hz hzM _ e p q hp hq h1 h2 rfl
    have b := fine_less hM hL (fun e => (hs e).symm) hy hyL _ e q p hq hp h2 h1 rfl
    exact farF_inj (R.home_lt (key e)) hp hq (by unfold Rule.far at a b; omega)
  intro p hp
  cases hl : L p with
  | some e =>
    obtain ⟨q, hq, hMq⟩ := (hs e).1 ⟨p, hp, hl⟩
    have := key1 e p q hp hq hl hMq
    subst this
    exact hMq.symm
  | none =>
    cases hm : M p with
    | none => rfl
    | some f =>
      obtain ⟨q, hq, hLq⟩ := (hs f).2 ⟨p, hp, hm⟩
      have := key1 f q p hq hp hLq hm
      subst this
      rw [hl] at hLq
      cases hLq

/-- One place written. -/
def putP (L : Lay E) (p : Nat) (v : Option E) : Lay E := fun q => if q = p then v else L q
theorem putP_same (L : Lay E) (p : Nat) (v : Option E) : putP L p v p = v := by simp [putP]
theorem putP_other (L : Lay E) {p q : Nat} (v : Option E) (h : q ≠ p) : putP L p v q = L q := by simp [putP, h]

/-- An entry on its way, come to place p: none has its address. -/
structure Way (R : Rule κ) (key : E → κ) (L : Lay E) (e : E) (p : Nat) : Prop where
  fine : Fine R key L
  clear : Clear R key L (fun _ => False) e p
  new : ∀ q f, q < R.n → L q = some f → key f ≠ key e

theorem Way.start {L : Lay E} {e : E} (h : Fine R key L) (hn : ∀ q f, q < R.n → L q = some f → key f ≠ key e) : Way R key L e (R.home (key e)) :=
  ⟨h, fun q _ hq => by unfold Rule.far at hq; rw [farF_self] at hq; omega, hn⟩
/-- It goes on to the next place. -/
theorem Way.pass {L : Lay E} {e f : E} {p : Nat} (h : Way R key L e p) (hp : p < R.n) (hf : L p = some f) (hg : ¬ R.goes (key e) (key f) p) (hne : nextP R.n p ≠ R.home (key e)) : Way R key L e (nextP R.n p) := by
  refine ⟨h.fine, fun q hq hlt => ?_, h.new⟩
  unfold Rule.far at hlt
  rw [farF_next (R.home_lt _) hp hne] at hlt
  rcases Nat.lt_or_eq_of_le (Nat.lt_succ_iff.1 hlt) with h1 | h1
  · exact h.clear q hq h1
  · have := farF_inj (R.home_lt _) hq hp h1
    subst this
    have hk := h.new q f hq hf
    exact .inr ⟨f, hf, hk, (Rule.goes_tri hk q).resolve_right hg⟩
/-- It takes the place of one that goes behind it, and that one goes on. -/
theorem Way.swap {L : Lay E} {e f : E} {p : Nat} (h : Way R key L e p) (hp : p < R.n) (hf : L p = some f) (hg : R.goes (key e) (key f) p) : Way R key (putP L p (some e)) f p := by
  have hef : key f ≠ key e := h.new p f hp hf
  have keep : ∀ (x : E) (q : Nat), q < R.n → L q = some x → x ≠ f ∨ q ≠ p → Clear R key L (fun _ => False) x q → key x ≠ key f → key x ≠ key e → Clear R key (putP L p (some e)) (fun _ => False) x q := by
    intro x q hq hx _ hc hxf hxe r hr hlt
    obtain ⟨y, hy, hyx, hgy⟩ := (hc r hr hlt).resolve_left (fun h => h)
    by_cases hrp : r = p
    · subst hrp
      rw [hf] at hy
      cases hy
      exact .inr ⟨e, putP_same _ _ _, fun h => hxe h.symm, Rule.goes_trans hg hgy⟩
    · exact .inr ⟨y, by rw [putP_other _ _ hrp]; exact hy, hyx, hgy⟩
  refine ⟨⟨?_, ?_⟩, ?_, ?_⟩
  · intro q x hq hx
    by_cases hqp : q = p
    · subst hqp
      rw [putP_same] at hx
      cases hx
      intro r hr hlt
      obtain ⟨y, hy, hyx, hgy⟩ := (h.clear r hr hlt).resolve_left (fun h => h)
      have hrp : r ≠ q := by rintro rfl; omega
      exact .inr ⟨y, by rw [putP_other _ _ hrp]; exact hy, hyx, hgy⟩
    · rw [putP_other _ _ hqp] at hx
      refine keep x q hq hx (.inr hqp) (h.fine.way q x hq hx) (fun hk => hqp (h.fine.one q p x f hq hp hx hf hk)) (h.new q x hq hx)
  · intro q r x y hq hr hx hy hk
    by_cases hqp : q = p <;> by_cases hrp : r = p
    · omega
    · subst hqp
      rw [putP_same] at hx
      cases hx
      rw [putP_other _ _ hrp] at hy
      exact absurd hk.symm (h.new r y hr hy)
    · subst hrp
      rw [putP_same] at hy
      cases hy
      rw [putP_other _ _ hqp] at hx
      exact absurd hk (h.new q x hq hx)
    · rw [putP_other _ _ hqp] at hx
      rw [putP_other _ _ hrp] at hy
      exact h.fine.one q r x y hq hr hx hy hk
  · intro r hr hlt
    obtain ⟨y, hy, hyx, hgy⟩ := (h.fine.way p f hp hf r hr hlt).resolve_left (fun h => h)
    have hrp : r ≠ p := by rintro rfl; omega
    exact .inr ⟨y, by rw [putP_other _ _ hrp]; exact hy, hyx, hgy⟩
  · intro q x hq hx
    by_cases hqp : q = p
    · subst hqp
      rw [putP_same] at hx
      cases hx
      exact fun hk => hef hk.symm
    · rw [putP_other _ _ hqp] at hx
      exact fun hk => hqp (h.fine.one q p x f hq hp hx hf hk)
/-- It takes an empty place. -/
theorem Way.rest {L : Lay E} {e : E} {p : Nat} (h : Way R key L e p) (hp : p < R.n) (hf : L p = none) : Fine R key (putP L p (some e)) := by
  refine ⟨?_, ?_⟩
  · intro q x hq hx r hr hlt
    have hc : Clear R key L (fun _ => False) x q := by
      by_cases hqp : q = p
      · subst hqp
        rw [putP_same] at hx
        cases hx
        exact h.clear
      · rw [putP_other _ _ hqp] at hx
        exact h.fine.way q x hq hx
    obtain ⟨y, hy, hyx, hgy⟩ := (hc r hr hlt).resolve_left (fun h => h)
    have hrp : r ≠ p := by rintro rfl; rw [hf] at hy; cases hy
    exact .inr ⟨y, by rw [putP_other _ _ hrp]; exact hy, hyx, hgy⟩
  · intro q r x y hq hr hx hy hk
    by_cases hqp : q = p <;> by_cases hrp : r = p
    · omega
    · subst hqp
      rw [putP_same] at hx
      cases hx
      rw [putP_other _ _ hrp] at hy
      exact absurd hk.symm (h.new r y hr hy)
    · subst hrp
      rw [putP_same] at hy
      cases hy
      rw [putP_other _ _ hqp] at hx
      exact absurd hk (h.new q x hq hx)
    · rw [putP_other _ _ hqp] at hx
      rw [putP_other _ _ hrp] at hy
      exact h.fine.one q r x y hq hr hx hy hk
/-- An empty place is met before the way has gone round. -/
theorem Way.room {L : Lay E} {e f : E} {p z : Nat} (h : Way R key L e p) (hp : p < R.n) (hf : L p = some f) (hz : z < R.n) (hzL : L z = none) : nextP R.n p ≠ R.home (key e) := by
  intro hh
  have hfar : R.far (key e) z < R.far (key e) p := by
    have hzp : z ≠ p := by rintro rfl; rw [hzL] at hf; cases hf
    unfold Rule.far
    rw [← hh, farF_next_home hp]
    have h1 := farF_lt (nextP_lt hp) hz
    have h2 : farF R.n (nextP R.n p) z ≠ farF R.n (nextP R.n p) p := fun e => hzp (farF_inj (nextP_lt hp) hz hp e)
    rw [farF_next_home hp] at h2
    omega
  obtain ⟨y, hy, _⟩ := (h.clear z hz hfar).resolve_left (fun h => h)
  rw [hzL] at hy
  cases hy

/-- A layout with a hole at p: what stands there counts for nothing; it may be on any way. -/
structure Hole (R : Rule κ) (key : E → κ) (L : Lay E) (p : Nat) : Prop where
  way : ∀ q e, q < R.n → q ≠ p → L q = some e → Clear R key L (fun r => r = p) e q
  one : ∀ q r e f, q < R.n → r < R.n → q ≠ p → r ≠ p → L q = some e → L r = some f → key e = key f → q = r
theorem Fine.hole {L : Lay E} (h : Fine R key L) (p : Nat) : Hole R key L p :=
  ⟨fun q e hq _ hx r hr hlt => .inr ((h.way q e hq hx r hr hlt).resolve_left (fun h => h)), fun q r e f hq hr _ _ h1 h2 hk => h.one q r e f hq hr h1 h2 hk⟩
theorem next_ne {n p : Nat} (hp : p < n) {q : Nat} (hq : q < n) (hne : q ≠ p) : nextP n p ≠ p := by unfold nextP; split <;> omega
/-- A way that passes a place passes the next one, or ends there. -/
theorem far_pass {k : κ} {p r : Nat} (hp : p < R.n) (hr : r < R.n) (h : R.far k p < R.far k r) : nextP R.n p ≠ R.home k ∧ R.far k (nextP R.n p) = R.far k p + 1 := by
  have hne : nextP R.n p ≠ R.home k := by
    intro e
    have h1 := farF_lt (R.home_lt k) hr
    unfold Rule.far at h
    rw [← e, farF_next_home hp] at h
    rw [← e] at h1
    omega
  exact ⟨hne, farF_next (R.home_lt k) hp hne⟩
/-- The next entry is shifted into the hole. -/
theorem Hole.shift {L : Lay E} {p : Nat} {f : E} (h : Hole R key L p) (hp : p < R.n) (hf : L (nextP R.n p) = some f) (hne : nextP R.n p ≠ p) (hm : nextP R.n p ≠ R.home (key f)) : Hole R key (putP L p (some f)) (nextP R.n p) := by
  have hq := nextP_lt hp
  have hff := farF_next (R.home_lt (key f)) hp hm
  refine ⟨?_, ?_⟩
  · intro r x hr hrq hx s hs hlt
    by_cases hrp : r = p
    · subst hrp
      rw [putP_same] at hx
      cases hx
      have hsr : s ≠ r := by rintro rfl; omega
      rcases h.way (nextP R.n r) f hq hne hf s hs (by unfold Rule.far at hlt ⊢; omega) with h1 | ⟨y, hy, hyx, hg⟩
      · exact absurd h1 hsr
      · exact .inr ⟨y, by rw [putP_other _ _ hsr]; exact hy, hyx, hg⟩
    · rw [putP_other _ _ hrp] at hx
      rcases h.way r x hr hrp hx s hs hlt with h1 | ⟨y, hy, hyx, hg⟩
      · subst h1
        obtain ⟨a1, a2⟩ := far_pass hs hr hlt
        have hlt2 : R.far (key x) (nextP R.n s) < R.far (key x) r := by
          have : R.far (key x) (nextP R.n s) ≠ R.far (key x) r := fun e => hrq (farF_inj (R.home_lt _) hq hr e).symm
          omega
        rcases h.way r x hr hrp hx (nextP R.n s) hq hlt2 with h2 | ⟨y, hy, hyx, hg⟩
        · exact absurd h2 hne
        · rw [hf] at hy
          cases hy
          refine .inr ⟨f, putP_same _ _ _, hyx, ?_⟩
          unfold Rule.goes at hg ⊢
          have hff' : R.far (key f) (nextP R.n s) = R.far (key f) s + 1 := hff
          rcases hg with hg | ⟨hg, hl⟩
          · exact .inl (by omega)
          · exact .inr ⟨by omega, hl⟩
      · by_cases hsq : s = p
        · subst hsq
          obtain ⟨a1, a2⟩ := far_pass hs hr hlt
          have hlt2 : R.far (key x) (nextP R.n s) < R.far (key x) r := by
            have : R.far (key x) (nextP R.n s) ≠ R.far (key x) r := fun e => hrq (farF_inj (R.home_lt _) hq hr e).symm
            omega
          rcases h.way r x hr hrp hx (nextP R.n s) hq hlt2 with h2 | ⟨y2, hy2, hyx2, hg2⟩
          · exact absurd h2 hne
          · rw [hf] at hy2
            cases hy2
            refine .inr ⟨f, putP_same _ _ _, hyx2, ?_⟩
            unfold Rule.goes at hg2 ⊢
            have hff' : R.far (key f) (nextP R.n s) = R.far (key f) s + 1 := hff
            rcases hg2 with hg2 | ⟨hg2, hl⟩
            · exact .inl (by omega)
            · exact .inr ⟨by omega, hl⟩
        · exact .inr ⟨y, by rw [putP_other _ _ hsq]; exact hy, hyx, hg⟩
  · intro r s x y hr hs hrq hsq hx hy hk
    by_cases hrp : r = p <;> by_cases hsp : s = p
    · omega
    · subst hrp
      rw [putP_same] at hx
      cases hx
      rw [putP_other _ _ hsp] at hy
      exact absurd (h.one _ s f y hq hs hne hsp hf hy hk).symm hsq
    · subst hsp
      rw [putP_same] at hy
      cases hy
      rw [putP_other _ _ hrp] at hx
      exact absurd (h.one r _ x f hr hq hrp hne hx hf hk) hrq
    · rw [putP_other _ _ hrp] at hx
      rw [putP_other _ _ hsp] at hy
      exact h.one r s x y hr hs hrp hsp hx hy hk
/-- Nobody's way passes the hole: it is cleared. -/
theorem Hole.close {L : Lay E} {p : Nat} (h : Hole R key L p) (hp : p < R.n) (hf : ∀ f, L (nextP R.n p) = some f → nextP R.n p ≠ p → nextP R.n p = R.home (key f)) : Fine R key (putP L p none) := by
  have hq := nextP_lt hp
  have nopass : ∀ r x, r < R.n → r ≠ p → L r = some x → ¬ R.far (key x) p < R.far (key x) r := by
    intro r x hr hrp hx hlt
    have hne := next_ne hp hr hrp
    obtain ⟨a1, a2⟩ := far_pass hp hr hlt
    by_cases hrq : r = nextP R.n p
    · subst hrq
      exact a1 (hf x hx hne)
    · have hlt2 : R.far (key x) (nextP R.n p) < R.far (key x) r := by
        have : R.far (key x) (nextP R.n p) ≠ R.far (key x) r := fun e => hrq (farF_inj (R.home_lt _) hq hr e).symm
        omega
      rcases h.way r x hr hrp hx _ hq hlt2 with h2 | ⟨y, hy, hyx, hg⟩
      · exact absurd h2 hne
      · have hh := hf y hy hne
        have h0 : R.far (key y) (nextP R.n p) = 0 := by unfold Rule.far; rw [← hh]; exact farF_self _ _
        unfold Rule.goes at hg
        rcases hg with hg | ⟨hg, _⟩ <;> omega
  refine ⟨?_, ?_⟩
  · intro r x hr hx s hs hlt
    have hrp : r ≠ p := by rintro rfl; rw [putP_same] at hx; cases hx
    rw [putP_other _ _ hrp] at hx
    have hsp : s ≠ p := by rintro rfl; exact nopass r x hr hrp hx hlt
    rcases h.way r x hr hrp hx s hs hlt with h1 | ⟨y, hy, hyx, hg⟩
    · exact absurd h1 hsp
    · exact .inr ⟨y, by rw [putP_other _ _ hsp]; exact hy, hyx, hg⟩
  · intro r s x y hr hs hx hy hk
    have hrp : r ≠ p := by rintro rfl; rw [putP_same] at hx; cases hx
    have hsp : s ≠ p := by rintro rfl; rw [putP_same] at hy; cases hy
    rw [putP_other _ _ hrp] at hx
    rw [putP_other _ _ hsp] at hy
    exact h.one r s x y hr hs hrp hsp hx hy hk
/-- What stands there, the hole aside. -/
def HasH (R : Rule κ) (L : Lay E) (p : Nat) (e : E) : Prop := ∃ q, q < R.n ∧ q ≠ p ∧ L q = some e
theorem hasH_shift {L : Lay E} {p : Nat} {f : E} (hp : p < R.n) (hf : L (nextP R.n p) = some f) (hne : nextP R.n p ≠ p) (e : E) : HasH R (putP L p (some f)) (nextP R.n p) e ↔ HasH R L p e := by
  have hq := nextP_lt hp
  constructor
  · rintro ⟨r, hr, hrq, hx⟩
    by_cases hrp : r = p
    · subst hrp
      rw [putP_same] at hx
      exact ⟨_, hq, hne, hf.trans hx⟩
    · rw [putP_other _ _ hrp] at hx
      exact ⟨r, hr, hrp, hx⟩
  · rintro ⟨r, hr, hrp, hx⟩
    by_cases hrq : r = nextP R.n p
    · subst hrq
      rw [hf] at hx
      exact ⟨p, hp, fun e => hne e.symm, by rw [putP_same]; exact hx⟩
    · exact ⟨r, hr, hrq, by rw [putP_other _ _ hrp]; exact hx⟩
theorem has_close {L : Lay E} {p : Nat} (hp : p < R.n) (e : E) : Has R (putP L p none) e ↔ HasH R L p e := by
  constructor
  · rintro ⟨r, hr, hx⟩
    have hrp : r ≠ p := by rintro rfl; rw [putP_same] at hx; cases hx
    rw [putP_other _ _ hrp] at hx
    exact ⟨r, hr, hrp, hx⟩
  · rintro ⟨r, hr, hrp, hx⟩
    exact ⟨r, hr, by rw [putP_other _ _ hrp]; exact hx⟩
theorem has_swap {L : Lay E} {p : Nat} {e f : E} (hp : p < R.n) (hf : L p = some f) (x : E) : (Has R (putP L p (some e)) x ∨ x = f) ↔ (Has R L x ∨ x = e) := by
  constructor
  · rintro (⟨r, hr, hx⟩ | rfl)
    · by_cases hrp : r = p
      · subst hrp
        rw [putP_same] at hx
        cases hx
        exact .inr rfl
      · rw [putP_other _ _ hrp] at hx
        exact .inl ⟨r, hr, hx⟩
    · exact .inl ⟨p, hp, hf⟩
  · rintro (⟨r, hr, hx⟩ | rfl)
    · by_cases hrp : r = p
      · subst hrp
        rw [hf] at hx
        cases hx
        exact .inr rfl
      · exact .inl ⟨r, hr, by rw [putP_other _ _ hrp]; exact hx⟩
    · exact .inl ⟨p, hp, putP_same _ _ _⟩
theorem has_rest {L : Lay E} {p : Nat} {e : E} (hp : p < R.n) (hf : L p = none) (x : E) : Has R (putP L p (some e)) x ↔ (Has R L x ∨ x = e) := by
  constructor
  · rintro ⟨r, hr, hx⟩
    by_cases hrp : r = p
    · subst hrp
      rw [putP_same] at hx
      cases hx
      exact .inr rfl
    · rw [putP_other _ _ hrp] at hx
      exact .inl ⟨r, hr, hx⟩
  · rintro (⟨r, hr, hx⟩ | rfl)
    · have hrp : r ≠ p := by rintro rfl; rw [hf] at hx; cases hx
      exact ⟨r, hr, by rw [putP_other _ _ hrp]; exact hx⟩
    · exact ⟨p, hp, putP_same _ _ _⟩
/-- The way to an empty place grows shorter. -/
theorem farF_toward {n p z : Nat} (hp : p < n) (hz : z < n) (hne : p ≠ z) : farF n (nextP n p) z + 1 = farF n p z := by
  unfold farF nextP
  (repeat' split) <;> omega
/-- An entry is found on its way: where a place is empty, or taken by one that would give way, it is nowhere. -/
theorem Fine.absent {L : Lay E} (h : Fine R key L) {k : κ} {p : Nat} (hp : p < R.n) (hc : ∀ q f, q < R.n → R.far k q < R.far k p → L q = some f → key f ≠ k)
    (he : L p = none ∨ ∃ f, L p = some f ∧ key f ≠ k ∧ R.goes k (key f) p) : ∀ q f, q < R.n → L q = some f → key f ≠ k := by
  intro q f hq hf hk
  subst hk
  rcases Nat.lt_trichotomy (R.far (key f) q) (R.far (key f) p) with h1 | h1 | h1
  · exact hc q f hq h1 hf rfl
  · have := farF_inj (R.home_lt _) hq hp h1
    subst this
    rcases he with he | ⟨g, hg, hne, _⟩
    · rw [hf] at he; cases he
    · rw [hf] at hg; cases hg; exact hne rfl
  · obtain ⟨y, hy, hyx, hg⟩ := (h.way q f hq hf p hp h1).resolve_left (fun h => h)
    rcases he with he | ⟨g, hg2, _, hgo⟩
    · rw [hy] at he; cases he
    · rw [hy] at hg2
      cases hg2
      exact Rule.goes_asym hg hgo
end
end Go.Proofs.Ytmcnhcbibcjgnaa
