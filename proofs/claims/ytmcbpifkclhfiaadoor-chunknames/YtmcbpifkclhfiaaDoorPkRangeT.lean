/-
  Ranges over a function whose elements are rows in memory, naming no program: at each call of yield the iterator tells (T) what lies at the element in that very world; every round goes on.
-/
import Derived.Test.YtmcbpifkclhfiaaDoorPkRangeB
namespace Go.Proofs.YtmcbpifkclhfiaaDoor
open Go.RowKit Go.Shelf
set_option linter.unusedVariables false

/-- What an iterator promises that hands out elements of which T tells in the world of the call; the rounds always go on. -/
def TellsR {α : Type} (m : Nat) (P : Program) (g : Nat) (lb : Array Value) (encs : α → Array Value) (T : List α → α → World → Prop) (Kp : World → World → Prop) (S : List α → Prop) (N : Nat) (w : World) : Prop :=
  ∀ (l : Nat) (J : List α → World → Prop) (W : World), Below w.heap.size w W → AbidesFrom W.heap.size J →
    (∀ pre x V, J pre V → T pre x V → pre.length < N → YieldAt Fence.wide (m - 1) P l (encs x) V fun e V' => e = .returned (.bool true) ∧ J (pre ++ [x]) V' ∧ Kp V V') →
    J [] W → CallsIn Fence.wide m P g (#[.func (.yield l) #[] #[]] ++ lb) W fun e W' => (∃ v, e = .returned v) ∧ ∃ xs, S xs ∧ J xs W'
/-- A round's body ends by its end. -/
def Goes (R : World → Prop) : Exit → Act → World → Prop
  | .normal, _, w => R w
  | _, _, _ => False
/-- The loop's record and its block for deferred calls, as they lie between two rounds. -/
structure Books (K : Nat) (r : Loop) (W : World) : Prop where
  loop : W.heap[K + 1]? = some (.loop r)
  defs : W.heap[K]? = some (.deferred (some []))
theorem Books.lt {K : Nat} {r : Loop} {W : World} (h : Books K r W) : K + 1 < W.heap.size := (Array.getElem?_eq_some_iff.1 h.loop).1
theorem Books.put {K : Nat} {r : Loop} {W : World} (h : Books K r W) (r' : Loop) : Books K r' (W.putObj (K + 1) (.loop r')) :=
  ⟨World.putObj_heap_same h.lt, (World.putObj_heap_other (by omega)).trans h.defs⟩
theorem Books.keeps {K : Nat} {r : Loop} {W W' : World} (h : Books K r W) (hk : KeepsFrom K W W') : Books K r W' :=
  ⟨hk.same _ _ (Nat.le_succ _) h.loop rfl, hk.same _ _ (Nat.le_refl _) h.defs rfl⟩
theorem Books.abides {K : Nat} {r : Loop} {W W' : World} {row : Option Nat} (h : Books K r W) (hg : W.grownBy W' row) (hr : ∀ j, row = some j → ∃ o : Obj, W.heap[j]? = some o ∧ o.isWalk = true) : Books K r W' :=
  ⟨(grownBy_keeps hg hr h.loop rfl).trans h.loop, (grownBy_keeps hg hr h.defs rfl).trans h.defs⟩

/-- The law: a range over such an iterator, each round of which goes on; the assignment and the body walked as one. -/
theorem range_round {α : Type} {P : Program} {g : Operand} {ps : Array Tmp} {assign body : Code} {Q : Exit → Act → World → Prop} {a : Act} {w : World}
    {gf : Nat} {lb : Array Value} (hg : a.eval g = .func (.func gf) #[] lb) (eg : ∀ args w, (callFunc gf args).run P w = .ok (.enter gf args) w)
    {encs : α → Array Value} {T : List α → α → World → Prop} {Kp : World → World → Prop} {S : List α → Prop} {N : Nat} (hseq : TellsR 2 P gf lb encs T Kp S N w)
    (hT : ∀ pre x W l o o', T pre x W → W.heap[l]? = some o → o.isCells = false → T pre x (W.putObj l o'))
    (hKt : ∀ {A B C : World}, Kp A B → Kp B C → Kp A C) (hKb : ∀ (W : World) (l : Nat) (o : Obj), w.heap.size ≤ l → Kp W (W.putObj l o))
    (hps : ∀ x, (encs x).size = ps.size) (I : List α → World → Prop) (hI : OwnFrom w.heap.size I) (h0 : I [] w) 
    (hround : ∀ (l : Nat) (pre : List α) (x : α) (W V : World), I pre V → T pre x V → pre.length < N →
      assign.wpIn (Fence.wide.inRound l) 1 P (Exit.then (fun a₁ w₁ => w₁ = W ∧ body.wpIn (Fence.wide.inRound l) 1 P (Goes fun W' => KeepsFrom w.heap.size V W' ∧ Kp V W' ∧ I (pre ++ [x]) W') a₁ V) (fun _ _ _ => False))
        { tmps := (ps.zip (encs x)).foldl (fun t (p, v) => t.setIfInBounds p v) a.tmps, defers := [] } W)
    (hdone : ∀ (D : Nat) (xs : List α) (W : World), w.heap.size ≤ D → S xs → I xs W → W.heap[D]? = some (.deferred (some [])) → Q .normal { a with defers := { target := .collected D, args := #[] } :: a.defers } W) :
    (Code.rangeFunc g ps assign body).wpIn Fence.wide 3 P Q a w := by
  refine wpIn_rangeFunc fun fn _ => ?_
  obtain ⟨K, hK⟩ : ∃ K, w.heap.size = K := ⟨_, rfl⟩
  -- the record in one of its states
  obtain ⟨r, hr⟩ : ∃ r : LoopState → Loop, r = fun s => { state := s, pending := none, fn := fn, tmps := a.tmps, params := ps, assign := assign, body := body, defers := K } := ⟨_, rfl⟩
  have hrs : ∀ s s', { r s with state := s', pending := none } = r s' := by intro s s'; rw [hr]
  obtain ⟨W1, e1⟩ : ∃ W1, (w.alloc (.deferred (some []))).alloc (.loop (r .ready)) = W1 := ⟨_, rfl⟩
  have B1 : Books K (r .ready) W1 := by
    rw [← e1, ← hK]
    have h1 := World.alloc_heap_new (w.alloc (.deferred (some []))) (.loop (r .ready))
    rw [World.size_alloc] at h1
    exact ⟨h1, (Below.heap_alloc _ _ _ (by simp)).trans (World.alloc_heap_new w _)⟩
  have b1 : Below w.heap.size w W1 := by rw [← e1]; exact ((Below.refl _ w).alloc (Nat.le_refl _) _).alloc (by simp) _
  have I1 : I [] W1 := by rw [← e1]; exact hI.alloc _ (hI.alloc _ h0)
  have s1 : W1.heap.size = K + 2 := by rw [← e1, ← hK]; simp
  rw [hK] at hI hKb hround hdone
  refine ⟨K + 1, [{ target := .collected K, args := #[] }], W1, { target := .fn (.func gf) lb, args := #[.func (.yield (K + 1)) #[] #[]] }, W1, gf, #[.func (.yield (K + 1)) #[] #[]] ++ lb, W1, ?_, ?_, fun _ _ => trivial, ?_, fun _ => by omega, ?_⟩
  · have h := run_enterLoop_outer (P := P) (w := w) fn a.tmps ps assign body
    rw [hK] at h
    rw [← e1, hr]
    exact h
  · simp only [resolve, hg]
    simp [go_sem]
  · simp [invoke, go_sem, eg]
  -- one round
  have round : ∀ pre x V, (I pre V ∧ Books K (r .ready) V) → T pre x V → pre.length < N → YieldAt Fence.wide 1 P (K + 1) (encs x) V fun e V' => e = .returned (.bool true) ∧ (I (pre ++ [x]) V' ∧ Books K (r .ready) V') ∧ Kp V V' := by
    rintro pre x V ⟨hi, hb⟩ ht hl
    have hy := run_yield (P := P) (args := encs x) hb.loop (by rw [hr]; exact hps x)
    have hbeg := run_beginRound (P := P) hb.loop (by rw [hr])
    have hbp := hb.put { r .ready with state := .busy }
    have hi2 := hI.putObj (.loop { r .ready with state := .busy }) hi (Nat.le_succ K) hb.loop rfl
    have ht2 := hT pre x V (K + 1) _ (.loop { r .ready with state := .busy }) ht hb.loop rfl
    have hk2 := hKb V (K + 1) (.loop { r .ready with state := .busy }) (Nat.le_succ K)
    generalize V.putObj (K + 1) (.loop { r .ready with state := .busy }) = V2 at *
    rw [hr] at hy
    refine ⟨fn, _, assign, body, hy, roundIn_of_wpIn trivial (wpIn_mono (hround _ pre x V V2 hi2 ht2 hl) ?_)⟩
    rintro e1 a1 V1 hq
    cases e1 with
    | normal =>
      obtain ⟨rfl, hb1⟩ := hq
      refine ⟨V2, hbeg, wpIn_mono hb1 ?_⟩
      rintro e a3 V3 hp
      cases e with
      | normal =>
        obtain ⟨kf, kp, hi3⟩ := hp
        have hb3 := hbp.keeps kf
        have hend := run_endRound (P := P) none hb3.loop
        have hr2 : ({ ({ r .ready with state := .busy } : Loop) with state := if (none : Option Code).isNone then .ready else .done, pending := none } : Loop) = r .ready := by rw [hr]; rfl
        rw [hr2] at hend
        exact ⟨_, _, hend, rfl, ⟨hI.putObj _ hi3 (Nat.le_succ K) hb3.loop rfl, hb3.put _⟩, hKt hk2 (hKt kp (hKb V3 (K + 1) _ (Nat.le_succ K)))⟩
      | _ => exact hp.elim
    | _ => exact hq.elim
  refine (hseq (K + 1) (fun pre V => I pre V ∧ Books K (r .ready) V) W1 b1 ?_ round ⟨I1, B1⟩).mono ?_
  · rintro s A B row ⟨hi, hb⟩ hgr hw
    exact ⟨hI s A B row hi hgr (fun j e => by
      obtain ⟨hj, o, ho, how⟩ := hw j e
      exact ⟨by omega, o, ho, Obj.not_cells_of_walk how⟩), hb.abides hgr (fun j e => (hw j e).2)⟩
  -- behind the iterator
  · rintro e W2 ⟨⟨v, rfl⟩, xs, hS, hi, hb⟩
    have hend := run_endLoop (P := P) hb.loop (by rw [hr]; simp)
    have hr2 : (r .ready).pending = none := by rw [hr]
    rw [hr2] at hend
    exact ⟨none, _, hend, hdone K xs _ (Nat.le_refl _) hS (hI.putObj _ hi (Nat.le_succ K) hb.loop rfl) ((World.putObj_heap_other (by omega)).trans hb.defs)⟩
/-- The same, the assignment's activation told ahead. -/
theorem range_tells {α : Type} {P : Program} {g : Operand} {ps : Array Tmp} {assign body : Code} {Q : Exit → Act → World → Prop} {a : Act} {w : World}
    {gf : Nat} {lb : Array Value} (hg : a.eval g = .func (.func gf) #[] lb) (eg : ∀ args w, (callFunc gf args).run P w = .ok (.enter gf args) w)
    {encs : α → Array Value} {T : List α → α → World → Prop} {Kp : World → World → Prop} {S : List α → Prop} {N : Nat} (hseq : TellsR 2 P gf lb encs T Kp S N w)
    (hT : ∀ pre x W l o o', T pre x W → W.heap[l]? = some o → o.isCells = false → T pre x (W.putObj l o'))
    (hKt : ∀ {A B C : World}, Kp A B → Kp B C → Kp A C) (hKb : ∀ (W : World) (l : Nat) (o : Obj), w.heap.size ≤ l → Kp W (W.putObj l o))
    (hps : ∀ x, (encs x).size = ps.size) (I : List α → World → Prop) (hI : OwnFrom w.heap.size I) (h0 : I [] w) (a₁ : α → Act)
    (hassign : ∀ (l : Nat) (x : α) (W : World) (K : Act → World → Prop), K (a₁ x) W →
      assign.wpIn (Fence.wide.inRound l) 1 P (Exit.then K (fun _ _ _ => False)) { tmps := (ps.zip (encs x)).foldl (fun t (p, v) => t.setIfInBounds p v) a.tmps, defers := [] } W)
    (hbody : ∀ (l : Nat) (pre : List α) (x : α) (W : World), I pre W → T pre x W → pre.length < N → body.wpIn (Fence.wide.inRound l) 1 P (Goes fun W' => KeepsFrom w.heap.size W W' ∧ Kp W W' ∧ I (pre ++ [x]) W') (a₁ x) W)
    (hdone : ∀ (D : Nat) (xs : List α) (W : World), w.heap.size ≤ D → S xs → I xs W → W.heap[D]? = some (.deferred (some [])) → Q .normal { a with defers := { target := .collected D, args := #[] } :: a.defers } W) :
    (Code.rangeFunc g ps assign body).wpIn Fence.wide 3 P Q a w :=
  range_round hg eg hseq hT (fun h k => hKt h k) hKb hps I hI h0 (fun l pre x W V hi ht hl => hassign l x W _ ⟨rfl, hbody l pre x V hi ht hl⟩) hdone
end Go.Proofs.YtmcbpifkclhfiaaDoor
